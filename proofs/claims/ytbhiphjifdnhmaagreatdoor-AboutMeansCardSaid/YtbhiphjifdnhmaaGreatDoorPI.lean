import Derived.Test.YtbhiphjifdnhmaaGreatDoorPD
import Derived.Test.YtbhiphjifdnhmaaGreatDoorPA
import Derived.Test.YtbhiphjifdnhmaaGreatDoorK4
import Derived.Deep.QuietTactic
import Derived.BigQuiet
import Derived.Test.YtbhiphjifdnhmaaGreatDoorPB
set_option linter.unusedSimpArgs false
set_option linter.unusedVariables false
/- The reference: newest, parts. -/
namespace Go.Proofs.YtbhiphjifdnhmaaGreatDoor
open Go.RowKit Go.Maps
/-- the index of the newest definition of a name among the first k -/
def newO (l : List Df) (n : ByteArray) (known : Int) : Nat → Option Nat
 | 0 => none
 | k + 1 => match l[k]? with
  | none => newO l n known k
  | some x => if x.name = n ∧ x.known ≤ known then
    (match newO l n known k with
    | none => some k
    | some i => match l[i]? with
     | none => some i
     | some y => if y.known < x.known then some k else some i)
   else newO l n known k
def encI : Option Nat → Int
 | none => -1
 | some i => i
theorem newO_lt (l : List Df) (n : ByteArray) (known : Int) : ∀ (k i : Nat), newO l n known k = some i → i < k ∧ i < l.length
 | 0, i, h => by cases h
 | k + 1, i, h => by
  unfold newO at h
  cases hx : l[k]? with
  | none =>
   rw [hx] at h
   have := newO_lt l n known k i h
   omega
  | some x =>
   rw [hx] at h
   have hk := (List.getElem?_eq_some_iff.1 hx).1
   simp only at h
   split at h
   ·cases hq : newO l n known k with
    | none => rw [hq] at h; cases h; omega
    | some j =>
     have hj := newO_lt l n known k j hq
     rw [hq] at h
     simp only at h
     split at h
     ·cases h; omega
     ·split at h <;> (cases h; omega)
   ·have := newO_lt l n known k i h
    omega
set_option maxRecDepth 100000 in
set_option maxHeartbeats 4000000 in
theorem newest_any (A : Option Addr) (cap : Nat) (l : List Df) (n : ByteArray) (known : Int) (w : World) (hl : l.length ≤ 1000) (hD : Defs w w.heap.size A l) :
  Calls Tryz.prog 103 #[.slice A l.length cap, .string n, .int .i64 known] w fun e w' => e = .returned (.int .i64 (encI (newO l n known l.length))) ∧ Below w.heap.size w w' := by
 obtain ⟨R, hR⟩ : ∃ R, R = encI (newO l n known l.length) := ⟨_, rfl⟩
 rw [← hR]
 have HR := Lib.hid hR
 clear hR
 go_enter Tryz.func103, Tryz.ntmps103
 go_wp2_with fail
 go_loopw [7, 8] (fun t7 t8 wq => ∃ (k : Nat) (I : Option Nat), k ≤ l.length ∧ t8 = .int .i64 k ∧ t7 = .int .i64 (encI I) ∧ Hid (I = newO l n known k) ∧ Below w.heap.size w wq) (fun _ t8 _ => l.length - (intOf t8).toNat)
 case atStart => exact ⟨0, none, by omega, rfl, rfl, Lib.hid rfl, Below.refl _ _⟩
 case round =>
  obtain ⟨k, I, hk, rfl, rfl, HI, hb1⟩ := hrel
  by_cases hlt : k < l.length
  ·obtain ⟨x, hx⟩ : ∃ x, l[k]? = some x := ⟨_, List.getElem?_eq_getElem hlt⟩
   obtain ⟨ag, ao, hA, hag, hcx⟩ := (hD.below hb1) k x hx
   subst hA
   have x0 : wr.cell? ⟨ag, ao + k * 29, none⟩ = some (.string x.name) := hcx 0 _ rfl
   have x1 : wr.cell? ⟨ag, ao + k * 29 + 1, none⟩ = some (.int .i64 x.known) := hcx 1 _ rfl
   have hst : newO l n known (k + 1) = if x.name = n ∧ x.known ≤ known then (match newO l n known k with
    | none => some k
    | some i => match l[i]? with
     | none => some i
     | some y => if y.known < x.known then some k else some i) else newO l n known k := by
    show (match l[k]? with | none => _ | some x => _) = _
    rw [hx]
   rw [← HI.out] at hst
   have HS := Lib.hid hst
   have hq : IntKind.i64.wrap ((k : Int) + 1) = (k : Int) + 1 := IntWalk.i64_in _ (by omega)
   clear hst hx hcx
   by_cases hnm : x.name = n
   ·rw [hnm] at x0
    by_cases hkn : x.known ≤ known
    ·cases I with
     | none =>
      have HN := Lib.hid (show newO l n known (k + 1) = some k by rw [HS.out, if_pos ⟨hnm, hkn⟩])
      rw [show encI none = (-1 : Int) from rfl]
      clear hnm HI
      go_wp2_with fail
      go_quiet (fail)
      all_goals
       go_wp2_with fail
       go_roundw
       case rel => exact ⟨k + 1, some k, by omega, by go_num, rfl, Lib.hid HN.out.symm, below_drewN hb1 _⟩
       case measure => simp [intOf]; omega
     | some i =>
      obtain ⟨hik, hil⟩ := newO_lt l n known k i HI.out.symm
      obtain ⟨y, hy⟩ : ∃ y, l[i]? = some y := ⟨_, List.getElem?_eq_getElem hil⟩
      obtain ⟨ag2, ao2, hA2, hag2, hcy⟩ := (hD.below hb1) i y hy
      injection hA2 with hA2
      injection hA2 with e1 e2
      subst e1 e2
      have y1 : wr.cell? ⟨ag, ao + i * 29 + 1, none⟩ = some (.int .i64 y.known) := hcy 1 _ rfl
      have hm0 : max (0 : Int) (i : Int) = (i : Int) := by omega
      have hi0 : ¬ (i : Int) < 0 := by omega
      rw [show encI (some i) = (i : Int) from rfl]
      by_cases hyx : y.known < x.known
      ·have HN := Lib.hid (show newO l n known (k + 1) = some k by rw [HS.out, if_pos ⟨hnm, hkn⟩]; simp only [hy]; first | rw [if_pos hyx] | rw [if_neg hyx])
       clear hnm HI hy hcy
       go_wp2_with fail
       go_quiet (fail)
       all_goals
        go_wp2_with fail
        go_roundw
        case rel => exact ⟨k + 1, some k, by omega, by go_num, rfl, Lib.hid HN.out.symm, below_drewN hb1 _⟩
        case measure => simp [intOf]; omega
      ·have HN := Lib.hid (show newO l n known (k + 1) = some i by rw [HS.out, if_pos ⟨hnm, hkn⟩]; simp only [hy]; first | rw [if_pos hyx] | rw [if_neg hyx])
       clear hnm HI hy hcy
       go_wp2_with fail
       go_quiet (fail)
       all_goals
        go_wp2_with fail
        go_roundw
        case rel => exact ⟨k + 1, some i, by omega, by go_num, rfl, Lib.hid HN.out.symm, below_drewN hb1 _⟩
        case measure => simp [intOf]; omega
    ·have HN := Lib.hid (show newO l n known (k + 1) = I by rw [HS.out, if_neg (fun g => hkn g.2)])
     have hkn' : known < x.known := by omega
     have hkd : decide (x.known ≤ known) = false := decide_eq_false hkn
     clear hnm HI
     go_wp2_with fail
     go_quiet (fail)
     all_goals
      go_wp2_with fail
      go_roundw
      case rel => exact ⟨k + 1, I, by omega, by go_num, rfl, Lib.hid HN.out.symm, below_drewN hb1 _⟩
      case measure => simp [intOf]; omega
   ·have HN := Lib.hid (show newO l n known (k + 1) = I by rw [HS.out, if_neg (fun g => hnm g.1)])
    have hnl : ¬ x.name.toList = n.toList := fun e => hnm (bytes_eq (by rwa [ByteArray.toList_eq, ByteArray.toList_eq] at e))
    have hnb : (x.name.toList == n.toList) = false := beq_eq_false_iff_ne.2 hnl
    clear hnm HI
    go_wp2_with fail
    go_quiet (fail)
    all_goals
     go_wp2_with fail
     go_roundw
     case rel => exact ⟨k + 1, I, by omega, by go_num, rfl, Lib.hid HN.out.symm, below_drewN hb1 _⟩
     case measure => simp [intOf]; omega
  ·obtain rfl : k = l.length := by omega
   go_wp2_with fail
   go_ret
   exact ⟨ret_int (by rw [HR.out, HI.out]), hb1⟩
end Go.Proofs.YtbhiphjifdnhmaaGreatDoor
namespace Go.Proofs.YtbhiphjifdnhmaaGreatDoor
open Go.RowKit Go.Maps
/-- the newest definition is that of the book -/
theorem newO_book (l : List Df) (n : ByteArray) (known : Int) : ∀ k, k ≤ l.length → bookF (l.take k) known n.data.toList = (newO l n known k).bind (fun i => l[i]?)
 | 0, _ => rfl
 | k + 1, hk => by
  have ih := newO_book l n known k (by omega)
  obtain ⟨x, hx⟩ : ∃ x, l[k]? = some x := ⟨_, List.getElem?_eq_getElem (by omega)⟩
  obtain ⟨hlt, hx2⟩ := List.getElem?_eq_some_iff.1 hx
  rw [List.take_succ_eq_append_getElem hlt, hx2, bookF_snoc, ih]
  have hst : newO l n known (k + 1) = if x.name = n ∧ x.known ≤ known then (match newO l n known k with
    | none => some k
    | some i => match l[i]? with
     | none => some i
     | some y => if y.known < x.known then some k else some i) else newO l n known k := by
    simp only [newO, hx] <;> rfl
  rw [hst]
  by_cases h : x.name = n ∧ x.known ≤ known
  ·rw [if_pos h, if_pos ⟨h.2, by rw [h.1]⟩]
   cases hq : newO l n known k with
   | none => simp [hx]
   | some i =>
    have hi := (newO_lt l n known k i hq).2
    obtain ⟨y, hy⟩ : ∃ y, l[i]? = some y := ⟨_, List.getElem?_eq_getElem hi⟩
    simp only [Option.bind_some, hy]
    split
    ·simp [hx]
    ·simp [hy]
  ·rw [if_neg h, if_neg (fun g => h ⟨bytes_eq g.2, g.1⟩)]
theorem newO_is (l : List Df) (n : ByteArray) (known : Int) : bookF l known n.data.toList = (newO l n known l.length).bind (fun i => l[i]?) := by
 have h := newO_book l n known l.length (Nat.le_refl _)
 rwa [List.take_length] at h
set_option maxRecDepth 100000 in
set_option maxHeartbeats 2000000 in
theorem refParts_any (A : Option Addr) (cap : Nat) (l : List Df) (n : ByteArray) (known : Int) (w : World) (hl : l.length ≤ 1000) (hD : Defs w w.heap.size A l) :
  Calls Tryz.prog 139 #[.slice A l.length cap, .string n, .int .i64 known] w (RetStrs w (partsL (bookF l known) n.data.toList)) := by
 have HN := Lib.hid (newest_any A cap l n known w hl hD)
 cases hq : newO l n known l.length with
 | none =>
  have hp : partsL (bookF l known) n.data.toList = [] := by
   unfold partsL
   rw [newO_is, hq]
   rfl
  rw [hp]
  rw [hq, show encI none = (-1 : Int) from rfl] at HN
  clear hp hq
  go_enter Tryz.func139, Tryz.ntmps139
  go_wp2_with (go_at_call 103; refine HN.out.mono ?_; rintro e w1 ⟨rfl, hb1⟩)
  go_ret
  exact ⟨none, 0, rfl, own_none _ _ 9, hb1⟩
 | some i =>
  have hi := (newO_lt l n known l.length i hq).2
  obtain ⟨d, hd⟩ : ∃ d, l[i]? = some d := ⟨_, List.getElem?_eq_getElem hi⟩
  have hp : partsL (bookF l known) n.data.toList = dfParts d := by
   unfold partsL
   rw [newO_is, hq]
   simp [hd]
  rw [hp]
  rw [hq, show encI (some i) = (i : Int) from rfl] at HN
  have hi0 : ¬ (i : Int) < 0 := by omega
  have hi1 : (i : Int) < (l.length : Int) := by omega
  have hi2 : (0 : Int) ≤ (i : Int) := by omega
  obtain ⟨ag, ao, hA, hag, hcx⟩ := hD i d hd
  subst hA
  have c2 : w.cell? ⟨ag, ao + i * 29 + 2, none⟩ = some (.int .i64 d.kind) := hcx 2 _ rfl
  have c3 : w.cell? ⟨ag, ao + i * 29 + 3, none⟩ = some (.string d.of) := hcx 3 _ rfl
  have c4 : w.cell? ⟨ag, ao + i * 29 + 4, none⟩ = some (.string d.wth) := hcx 4 _ rfl
  clear hp hq hcx
  by_cases k2 : d.kind = 2
  ·have hp : dfParts d = [d.of] := by simp [dfParts, k2]
   rw [hp]
   clear hp
   go_enter Tryz.func139, Tryz.ntmps139
   go_wp2_with (go_at_call 103; refine HN.out.mono ?_; rintro e w1 ⟨rfl, hb1⟩; have c2' := keepL hb1 c2; have c3' := keepL hb1 c3; rw [k2] at c2')
   go_ret
   exact ⟨some ⟨w1.heap.size, 0, none⟩, 1, rfl, own_new w1 9 w.heap.size hb1.size [.string d.of] (by simp [maxLen]), hb1.alloc hb1.size _⟩
  ·have kb2 : (d.kind == 2) = false := by simp [k2]
   by_cases k3 : d.kind = 3 ∨ d.kind = 4
   ·have hp : dfParts d = [d.of, d.wth] := by simp [dfParts, k2, k3]
    rw [hp]
    clear hp
    rcases k3 with k3 | k3
    all_goals
     rw [k3] at c2
     go_enter Tryz.func139, Tryz.ntmps139
     go_wp2_with (go_at_call 103; refine HN.out.mono ?_; rintro e w1 ⟨rfl, hb1⟩; have c2' := keepL hb1 c2; have c3' := keepL hb1 c3; have c4' := keepL hb1 c4)
     refine wp_region_held_drew (S := fun w' => w'.cell? ⟨ag, ao + i * 29 + 3, none⟩ = some (.string d.of) ∧ w'.cell? ⟨ag, ao + i * 29 + 4, none⟩ = some (.string d.wth)) (by kernel_rfl) ⟨c3', c4'⟩ (fun hHeld => ?_)
     (refine wpAnyH_take (i := 0) (v := ?_) rfl (by kernel_rfl) (by kernel_rfl) (by kernel_rfl) (fun _ _ _ h => h) (Or.inl ⟨by rfl, ?_⟩) (by assumption) ?_; rotate_left; (· intro w5 hS5; (try dsimp only at hS5); go_simp <;> with_reducible rfl); (try simp only [List.getElem_toArray, List.getElem_cons_zero, List.getElem_cons_succ, Act.put, List.setIfInBounds_toArray, List.set_cons_zero, List.set_cons_succ]))
     (refine wpAnyH_take (i := 1) (v := ?_) rfl (by kernel_rfl) (by kernel_rfl) (by kernel_rfl) (fun _ _ _ h => h) (Or.inl ⟨by rfl, ?_⟩) (by assumption) ?_; rotate_left; (· intro w5 hS5; (try dsimp only at hS5); go_simp <;> with_reducible rfl); (try simp only [List.getElem_toArray, List.getElem_cons_zero, List.getElem_cons_succ, Act.put, List.setIfInBounds_toArray, List.set_cons_zero, List.set_cons_succ]))
     (refine wpAnyH_take (i := 2) (v := ?_) rfl (by kernel_rfl) (by kernel_rfl) (by kernel_rfl) (fun _ _ _ h => h) (Or.inl ⟨by rfl, ?_⟩) (by assumption) ?_; rotate_left; (· intro w5 hS5; (try dsimp only at hS5); go_simp <;> with_reducible rfl); (try simp only [List.getElem_toArray, List.getElem_cons_zero, List.getElem_cons_succ, Act.put, List.setIfInBounds_toArray, List.set_cons_zero, List.set_cons_succ]))
     (refine wpAnyH_take (i := 3) (v := ?_) rfl (by kernel_rfl) (by kernel_rfl) (by kernel_rfl) (fun _ _ _ h => h) (Or.inl ⟨by rfl, ?_⟩) (by assumption) ?_; rotate_left; (· intro w5 hS5; (try dsimp only at hS5); go_simp <;> with_reducible rfl); (try simp only [List.getElem_toArray, List.getElem_cons_zero, List.getElem_cons_succ, Act.put, List.setIfInBounds_toArray, List.set_cons_zero, List.set_cons_succ]))
     (refine wpAnyH_take (i := 4) (v := ?_) rfl (by kernel_rfl) (by kernel_rfl) (by kernel_rfl) (fun _ _ _ h => h) (Or.inl ⟨by rfl, ?_⟩) (by assumption) ?_; rotate_left; (· intro w5 hS5; (try dsimp only at hS5); go_simp <;> with_reducible rfl); (try simp only [List.getElem_toArray, List.getElem_cons_zero, List.getElem_cons_succ, Act.put, List.setIfInBounds_toArray, List.set_cons_zero, List.set_cons_succ]))
     (refine wpAnyH_take (i := 5) (v := ?_) rfl (by kernel_rfl) (by kernel_rfl) (by kernel_rfl) (fun _ _ _ h => h) (Or.inl ⟨by rfl, ?_⟩) (by assumption) ?_; rotate_left; (· intro w5 hS5; (try dsimp only at hS5); go_simp <;> with_reducible rfl); (try simp only [List.getElem_toArray, List.getElem_cons_zero, List.getElem_cons_succ, Act.put, List.setIfInBounds_toArray, List.set_cons_zero, List.set_cons_succ]))
     (refine wpAnyH_take (i := 6) (v := ?_) rfl (by kernel_rfl) (by kernel_rfl) (by kernel_rfl) (fun _ _ _ h => h) (Or.inl ⟨by rfl, ?_⟩) (by assumption) ?_; rotate_left; (· intro w5 hS5; (try dsimp only at hS5); go_simp <;> with_reducible rfl); (try simp only [List.getElem_toArray, List.getElem_cons_zero, List.getElem_cons_succ, Act.put, List.setIfInBounds_toArray, List.set_cons_zero, List.set_cons_succ]))
     (refine wpAnyH_take (i := 7) (v := ?_) rfl (by kernel_rfl) (by kernel_rfl) (by kernel_rfl) (fun _ _ _ h => h) (Or.inl ⟨by rfl, ?_⟩) (by assumption) ?_; rotate_left; (· intro w5 hS5; (try dsimp only at hS5); go_simp <;> with_reducible rfl); (try simp only [List.getElem_toArray, List.getElem_cons_zero, List.getElem_cons_succ, Act.put, List.setIfInBounds_toArray, List.set_cons_zero, List.set_cons_succ]))
     (refine wpAnyH_take (i := 8) (v := ?_) rfl (by kernel_rfl) (by kernel_rfl) (by kernel_rfl) (fun _ _ _ h => h) (Or.inl ⟨by rfl, ?_⟩) (by assumption) ?_; rotate_left; (· intro w5 hS5; (try dsimp only at hS5); go_simp <;> with_reducible rfl); (try simp only [List.getElem_toArray, List.getElem_cons_zero, List.getElem_cons_succ, Act.put, List.setIfInBounds_toArray, List.set_cons_zero, List.set_cons_succ]))
     (refine wpAnyH_take (i := 9) (v := ?_) rfl (by kernel_rfl) (by kernel_rfl) (by kernel_rfl) (fun _ _ _ h => h) (Or.inl ⟨by rfl, ?_⟩) (by assumption) ?_; rotate_left; (· intro w5 hS5; (try dsimp only at hS5); go_simp <;> with_reducible rfl); (try simp only [List.getElem_toArray, List.getElem_cons_zero, List.getElem_cons_succ, Act.put, List.setIfInBounds_toArray, List.set_cons_zero, List.set_cons_succ]))
     (refine wpAnyH_ready (rs := [10]) (by kernel_rfl) (by simp) ?_; refine AllReadyH.cons rfl (fun K hK => ?_) AllReadyH.nil)
     have hbn := below_new w1.drew (.cells #[.string d.of, .string d.wth] 9)
     go_simp
     refine hK.out _ _ ⟨keepL hbn c3', keepL hbn c4'⟩ (fun hHeld => ?_)
     clear hK K
     (try simp only [List.getElem_toArray, List.getElem_cons_zero, List.getElem_cons_succ, Act.put, List.setIfInBounds_toArray, List.set_cons_zero, List.set_cons_succ])
     (refine wpAnyH_take (i := 11) (v := ?_) rfl (by kernel_rfl) (by kernel_rfl) (by kernel_rfl) (fun _ _ _ h => h) (Or.inl ⟨by rfl, ?_⟩) (by assumption) ?_; rotate_left; (· intro w5 hS5; (try dsimp only at hS5); go_simp <;> with_reducible rfl); (try simp only [List.getElem_toArray, List.getElem_cons_zero, List.getElem_cons_succ, Act.put, List.setIfInBounds_toArray, List.set_cons_zero, List.set_cons_succ]))
     refine wpAnyH_done (by kernel_rfl) ?_ _
     clear hHeld
     go_wp2_with fail
     go_ret
     exact ⟨some ⟨w1.heap.size, 0, none⟩, 2, rfl, own_new w1.drew 9 w.heap.size hb1.size [.string d.of, .string d.wth] (by simp [maxLen]), (hb1.drew).alloc hb1.size _⟩
   ·have hp : dfParts d = [] := by simp [dfParts, k2, k3]
    rw [hp]
    have kb3 : (d.kind == 3) = false := by simp; omega
    have kb4 : (d.kind == 4) = false := by simp; omega
    have k3' : ¬ d.kind = 3 := by omega
    have k4' : ¬ d.kind = 4 := by omega
    clear hp
    go_enter Tryz.func139, Tryz.ntmps139
    go_wp2_with (go_at_call 103; refine HN.out.mono ?_; rintro e w1 ⟨rfl, hb1⟩; have c2' := keepL hb1 c2)
    go_ret
    exact ⟨none, 0, rfl, own_none _ _ 9, hb1⟩
end Go.Proofs.YtbhiphjifdnhmaaGreatDoor
