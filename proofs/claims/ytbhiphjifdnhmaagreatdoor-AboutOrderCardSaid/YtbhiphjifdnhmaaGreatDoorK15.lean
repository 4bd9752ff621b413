import Derived.Test.YtbhiphjifdnhmaaGreatDoorK12
import Derived.Test.YtbhiphjifdnhmaaGreatDoorA6
set_option linter.unusedSimpArgs false
set_option linter.unusedVariables false
/- isName, isDay. -/
namespace Go.Proofs.YtbhiphjifdnhmaaGreatDoor
open Go.RowKit Go.Maps

def letB (c : UInt8) : Bool := decide (97 ≤ (c.toNat : Int)) && decide ((c.toNat : Int) ≤ 122)
def nameB (s : ByteArray) : Bool := (decide (1 ≤ s.size) && decide (s.size ≤ 24)) && s.data.toList.all letB
def dayB (n : Int) : Bool := decide (0 ≤ n) && decide (n ≤ 730)
set_option maxHeartbeats 400000 in
theorem isDay_any (n : Int) (w : World) : Calls Tryz.prog 122 #[.int .i64 n] w fun e w' => e = .returned (.bool (dayB n)) ∧ w = w' := by
  by_cases h0 : 0 ≤ n
  · by_cases h1 : n ≤ 730
    · go_enter Tryz.func122, Tryz.ntmps122
      go_wp2
      go_ret
      exact ⟨ret_bool (by simp [dayB, h0, h1]), rfl⟩
    · go_enter Tryz.func122, Tryz.ntmps122
      go_wp2
      go_ret
      exact ⟨ret_bool (by simp [dayB, h0, h1]), rfl⟩
  · have h0' : n < 0 := by omega
    go_enter Tryz.func122, Tryz.ntmps122
    go_wp2
    go_ret
    exact ⟨ret_bool (by simp [dayB]; omega), rfl⟩
set_option maxRecDepth 100000 in
set_option maxHeartbeats 1000000 in
theorem isName_any (s : ByteArray) (hs : s.size ≤ maxLen) (w : World) : Calls Tryz.prog 121 #[.string s] w fun e w' => e = .returned (.bool (nameB s)) ∧ w = w' := by
  have hsl : s.data.toList.length = s.size := by rw [Array.length_toList]; rfl
  by_cases h1 : 1 ≤ s.size
  · by_cases h2 : s.size ≤ 24
    · have hR : nameB s = s.data.toList.all letB := by simp [nameB, h1, h2]
      rw [hR]
      clear hR
      obtain ⟨R, hR⟩ : ∃ R, R = s.data.toList.all letB := ⟨_, rfl⟩
      rw [← hR]
      have hr0 : Hid (R = (s.data.toList.drop 0).all letB) := hR
      have HL := Lib.hid hsl
      have h3 : ¬ ((s.size : Nat) : Int) < 1 := by omega
      have h4 : ¬ (24 : Int) < ((s.size : Nat) : Int) := by omega
      clear hR hsl
      go_enter Tryz.func121, Tryz.ntmps121
      go_wp2_with fail
      go_loopw [14] (fun t14 wq => ∃ k : Nat, k ≤ s.size ∧ t14 = .int .i64 k ∧ Hid (R = (s.data.toList.drop k).all letB) ∧ w = wq) (fun t14 _ => s.size - (intOf t14).toNat)
      case atStart => exact ⟨0, by omega, rfl, hr0, rfl⟩
      case round =>
        obtain ⟨k, hk, rfl, hRk, rfl⟩ := hrel
        clear hr0
        by_cases hlt : k < s.size
        · have hdr : (s.data.toList.drop k).all letB = (letB (s[k]'hlt) && (s.data.toList.drop (k + 1)).all letB) := by
            rw [List.drop_eq_getElem_cons (by rw [HL.out]; exact hlt), List.all_cons]
            rfl
          have HD := Lib.hid hdr
          clear hdr
          by_cases c1 : 97 ≤ ((s[k]'hlt).toNat : Int)
          · by_cases c2 : ((s[k]'hlt).toNat : Int) ≤ 122
            · go_wp2
              go_roundw
              case rel => exact ⟨k + 1, by omega, by go_num, Lib.hid (by rw [hRk.out, HD.out]; simp only [letB, c1, c2, decide_true, Bool.and_self, Bool.true_and]), trivial⟩
              case measure => simp [intOf]; omega
            · have hl : letB (s[k]'hlt) = false := by unfold letB; rw [decide_eq_false c2]; exact Bool.and_false _
              have HL2 := Lib.hid hl
              clear hl
              go_wp2
              go_ret
              exact ⟨ret_bool (by rw [hRk.out, HD.out, HL2.out]; rfl), rfl⟩
          · have hl : letB (s[k]'hlt) = false := by unfold letB; rw [decide_eq_false c1]; exact Bool.false_and _
            have HL2 := Lib.hid hl
            clear hl
            go_wp2
            go_ret
            exact ⟨ret_bool (by rw [hRk.out, HD.out, HL2.out]; rfl), rfl⟩
        · obtain rfl : k = s.size := by omega
          go_wp2
          go_ret
          exact ⟨ret_bool (by rw [hRk.out, ← HL.out, List.drop_length]; rfl), rfl⟩
    · have h4 : (24 : Int) < ((s.size : Nat) : Int) := by omega
      clear hsl
      go_enter Tryz.func121, Tryz.ntmps121
      go_wp2
      go_ret
      exact ⟨ret_bool (by simp [nameB, h2]), rfl⟩
  · have h4 : ((s.size : Nat) : Int) < 1 := by omega
    clear hsl
    go_enter Tryz.func121, Tryz.ntmps121
    go_wp2
    go_ret
    exact ⟨ret_bool (by simp [nameB, h1]), rfl⟩
end Go.Proofs.YtbhiphjifdnhmaaGreatDoor

/- formed, of definitions that are formed. -/
namespace Go.Proofs.YtbhiphjifdnhmaaGreatDoor
open Go.RowKit Go.Maps

/-- the days of a definition loaded out of its middle, under a guard that strikes -/
theorem ldDaysG {ops : Array Oper} {rest : List Oper} {o : Oper} {a : Act} {w : World} {Q : Exit → Act → World → Prop} (t : Tmp) (hgd : Region.wanted o (yielded ops a.tmps) = true) (ho : o.op = .load 26 (.tmp t))
    {g : Nat} {T : TypeId} {d : Df} (hB : Blk w g T (dfA d)) (hx : a.eval (.tmp t) = .pointer (some ⟨g, 5, none⟩)) (h : wpList Tryz.prog ops Q rest (a.put o.dst (.agg (va d.days))) w) : wpList Tryz.prog ops Q (o :: rest) a w :=
  wpList_step fun _ hK => by rw [if_pos hgd]; exact wp_load_mid 26 _ ho g 5 hx (va d.days).toList _ (days_at hB) Tryz.underlying26 rfl (days_len d) (hK _ _ (by simpa using h))
set_option maxRecDepth 100000 in
set_option maxHeartbeats 1000000 in
theorem formed_is (d : Df) (w : World) (hs : d.name.size ≤ maxLen) (hn : nameB d.name = true) (hd : dayB d.known = true) (h1 : d.kind = 1) (ho : d.of = ⟨#[]⟩) (hw : d.wth = ⟨#[]⟩) (hv : vok d.days = true) :
    Calls Tryz.prog 84 #[.agg (dfA d)] w fun e w' => e = .returned (.bool true) ∧ Below w.heap.size w w' := by
  have kD := Blk.new w 60 (dfA d)
  have hb0 := below_new w (.cells (dfA d) 60)
  obtain ⟨d0, d1, d2, d3, d4⟩ := kD.df
  have HN := Lib.hid hn
  have HD := Lib.hid hd
  have HV := Lib.hid (chkV_ok hv)
  rw [h1] at d2
  rw [ho] at d3
  rw [hw] at d4
  clear hn hd hv h1 ho hw
  go_enter Tryz.func84, Tryz.ntmps84
  go_wp2_with (first
    | (go_at_call 121; refine (isName_any _ hs _).mono ?_; rw [HN.out]; rintro e w1 ⟨rfl, rfl⟩)
    | (go_at_call 122; refine (isDay_any _ _).mono ?_; rw [HD.out]; rintro e w1 ⟨rfl, rfl⟩)
    | (refine ldDaysG 26 (by rfl) rfl kD rfl ?_)
    | (go_at_call 14; refine (check_any _ _).mono ?_; rw [HV.out]; rintro e w2 ⟨rfl, hb2⟩))
  go_ret
  exact ⟨rfl, below_next hb0 (by simp) hb2⟩
set_option maxRecDepth 100000 in
set_option maxHeartbeats 1000000 in
theorem formed_after (d : Df) (w : World) (hs : d.name.size ≤ maxLen) (hos : d.of.size ≤ maxLen) (hn : nameB d.name = true) (hd : dayB d.known = true) (h1 : d.kind = 2) (ho : nameB d.of = true) (hw : d.wth = ⟨#[]⟩) (hv : vok d.days = true) :
    Calls Tryz.prog 84 #[.agg (dfA d)] w fun e w' => e = .returned (.bool true) ∧ Below w.heap.size w w' := by
  have kD := Blk.new w 60 (dfA d)
  have hb0 := below_new w (.cells (dfA d) 60)
  obtain ⟨d0, d1, d2, d3, d4⟩ := kD.df
  have HN := Lib.hid hn
  have HO := Lib.hid ho
  have HD := Lib.hid hd
  have HV := Lib.hid (chkV_ok hv)
  rw [h1] at d2
  rw [hw] at d4
  clear hn hd hv h1 ho hw
  go_enter Tryz.func84, Tryz.ntmps84
  go_wp2_with (first
    | (go_at_call 121; refine (isName_any _ (by assumption) _).mono ?_; (first | rw [HN.out] | rw [HO.out]); rintro e w1 ⟨rfl, rfl⟩)
    | (go_at_call 122; refine (isDay_any _ _).mono ?_; rw [HD.out]; rintro e w1 ⟨rfl, rfl⟩)
    | (refine ldDaysG 42 (by rfl) rfl kD rfl ?_)
    | (go_at_call 14; refine (check_any _ _).mono ?_; rw [HV.out]; rintro e w2 ⟨rfl, hb2⟩))
  go_ret
  exact ⟨rfl, below_next hb0 (by simp) hb2⟩
end Go.Proofs.YtbhiphjifdnhmaaGreatDoor

/- Calendar, of definitions that have no error. -/
namespace Go.Proofs.YtbhiphjifdnhmaaGreatDoor
open Go.RowKit Go.Maps

/-- no two define the same name on the same day -/
def NoTwice (l : List Df) : Prop := ∀ (i j : Nat) (x y : Df), j < i → l[i]? = some x → l[j]? = some y → ¬ (y.name = x.name ∧ y.known = x.known)
set_option maxRecDepth 100000 in
set_option maxHeartbeats 2000000 in
theorem calendar_ok (A : Option Addr) (cap : Nat) (l : List Df) (w : World) (hl : l.length ≤ 30) (hc : l.length ≤ cap) (hcm : cap ≤ maxLen) (hD : Defs w w.heap.size A l) (hF : ∀ d ∈ l, ∀ w, Calls Tryz.prog 84 #[.agg (dfA d)] w fun e w' => e = .returned (.bool true) ∧ Below w.heap.size w w') (hT : NoTwice l) :
    Calls Tryz.prog 33 #[.slice A l.length cap] w fun e w' => e = .returned (.int .i64 0) ∧ Below w.heap.size w w' := by
  have h30 : ¬ (30 : Int) < (l.length : Int) := by omega
  have HF : Hid (∀ d ∈ l, ∀ w, Calls Tryz.prog 84 #[.agg (dfA d)] w fun e w' => e = .returned (.bool true) ∧ Below w.heap.size w w') := hF
  have HT : Hid (NoTwice l) := hT
  clear hF hT
  go_enter Tryz.func33, Tryz.ntmps33
  go_wp2_with fail
  go_loopw [12] (fun t12 wq => ∃ k : Nat, k ≤ l.length ∧ t12 = .int .i64 k ∧ Below w.heap.size w wq) (fun t12 _ => l.length - (intOf t12).toNat)
  case atStart => exact ⟨0, by omega, rfl, Below.refl _ _⟩
  case round =>
    obtain ⟨k, hk, rfl, hb1⟩ := hrel
    by_cases hlt : k < l.length
    · obtain ⟨x, hx⟩ : ∃ x, l[k]? = some x := ⟨_, List.getElem?_eq_getElem hlt⟩
      obtain ⟨ag, ao, hA, hag, hcx⟩ := (hD.below hb1) k x hx
      subst hA
      have hr : wr.rangeAt ag (ao + k * 29) (dfL x) := hcx
      have kZ : Blk (wr.alloc (.cells #[.string ⟨#[]⟩, .int .i64 0, .int .i64 0, .string ⟨#[]⟩, .string ⟨#[]⟩, .int .i64 0, .int .i64 0, .int .i64 0, .int .i64 0, .int .i64 0, .int .i64 0, .int .i64 0, .int .i64 0, .int .i64 0, .int .i64 0, .int .i64 0, .int .i64 0, .int .i64 0, .int .i64 0, .int .i64 0, .int .i64 0, .int .i64 0, .int .i64 0, .int .i64 0, .int .i64 0, .int .i64 0, .int .i64 0, .int .i64 0, .int .i64 0] 60)) wr.heap.size 60 (dfA df0) := by rw [z60]; exact Blk.new _ _ _
      have kX := kZ.setRow (dfA x)
      have hbx : Below wr.heap.size wr ((wr.alloc (.cells #[.string ⟨#[]⟩, .int .i64 0, .int .i64 0, .string ⟨#[]⟩, .string ⟨#[]⟩, .int .i64 0, .int .i64 0, .int .i64 0, .int .i64 0, .int .i64 0, .int .i64 0, .int .i64 0, .int .i64 0, .int .i64 0, .int .i64 0, .int .i64 0, .int .i64 0, .int .i64 0, .int .i64 0, .int .i64 0, .int .i64 0, .int .i64 0, .int .i64 0, .int .i64 0, .int .i64 0, .int .i64 0, .int .i64 0, .int .i64 0, .int .i64 0] 60)).setRow wr.heap.size (dfA x)) := below_setRow (below_new _ _) (Nat.le_refl _) _
      have hFx := HF.out x (List.mem_of_getElem? hx)
      have HFx := Lib.hid hFx
      have HX := Lib.hid hx
      clear hFx hx
      have hkc1 : k ≤ cap := by omega
      go_wp2_with (first
        | (refine ldD 15 rfl rfl hr rfl ?_)
        | (refine stD 4 16 rfl rfl kZ rfl rfl ?_)
        | (refine ldDr 4 rfl rfl kX rfl ?_)
        | (go_at_call 84; refine (HFx.out _).mono ?_; rintro e w2 ⟨rfl, hb2⟩))
      have kX2 := kX.below hb2 kX.lt
      have hb3 := below_next hb1 hb1.size (below_next hbx hbx.size hb2)
      have hkl := kX2.lt
      clear kX kZ hbx hb2 hr hcx
      obtain ⟨X, hX⟩ : ∃ X, X = wr.heap.size := ⟨_, rfl⟩
      have hwX : w.heap.size ≤ X := by rw [hX]; exact hb1.size
      rw [← hX] at kX2 hkl ⊢
      clear hX
      go_loopw [24] (fun t24 wq => ∃ j : Nat, j ≤ k ∧ t24 = .int .i64 j ∧ Blk wq X 60 (dfA x) ∧ Below w.heap.size w wq) (fun t24 _ => k - (intOf t24).toNat)
      case atStart => exact ⟨0, by omega, rfl, kX2, hb3⟩
      case round =>
        obtain ⟨j, hj, rfl, kX3, hb4⟩ := hrel
        clear kX2 hb3 hkl
        by_cases hjk : j < k
        · obtain ⟨y, hy⟩ : ∃ y, l[j]? = some y := ⟨_, List.getElem?_eq_getElem (by omega)⟩
          obtain ⟨ag2, ao2, hA2, hag2, hcy⟩ := (hD.below hb4) j y hy
          injection hA2 with hA2
          injection hA2 with e1 e2
          subst e1 e2
          have hry : wr.rangeAt ag (ao + j * 29) (dfL y) := hcy
          have kZ : Blk (wr.alloc (.cells #[.string ⟨#[]⟩, .int .i64 0, .int .i64 0, .string ⟨#[]⟩, .string ⟨#[]⟩, .int .i64 0, .int .i64 0, .int .i64 0, .int .i64 0, .int .i64 0, .int .i64 0, .int .i64 0, .int .i64 0, .int .i64 0, .int .i64 0, .int .i64 0, .int .i64 0, .int .i64 0, .int .i64 0, .int .i64 0, .int .i64 0, .int .i64 0, .int .i64 0, .int .i64 0, .int .i64 0, .int .i64 0, .int .i64 0, .int .i64 0, .int .i64 0] 60)) wr.heap.size 60 (dfA df0) := by rw [z60]; exact Blk.new _ _ _
          have kY := kZ.setRow (dfA y)
          have hby : Below wr.heap.size wr ((wr.alloc (.cells #[.string ⟨#[]⟩, .int .i64 0, .int .i64 0, .string ⟨#[]⟩, .string ⟨#[]⟩, .int .i64 0, .int .i64 0, .int .i64 0, .int .i64 0, .int .i64 0, .int .i64 0, .int .i64 0, .int .i64 0, .int .i64 0, .int .i64 0, .int .i64 0, .int .i64 0, .int .i64 0, .int .i64 0, .int .i64 0, .int .i64 0, .int .i64 0, .int .i64 0, .int .i64 0, .int .i64 0, .int .i64 0, .int .i64 0, .int .i64 0, .int .i64 0] 60)).setRow wr.heap.size (dfA y)) := below_setRow (below_new _ _) (Nat.le_refl _) _
          have kX4 := kX3.below hby kX3.lt
          obtain ⟨y0, y1, y2, y3, y4⟩ := kY.df
          obtain ⟨x0, x1, x2, x3, x4⟩ := kX4.df
          have hne := HT.out k j x y hjk HX.out hy
          have hb5 := below_next hb4 hb4.size hby
          clear hy hcy
          by_cases hnm : y.name = x.name
          · have hkn : ¬ y.known = x.known := fun e => hne ⟨hnm, e⟩
            rw [hnm] at y0
            clear hne
            go_wp2_with (first
              | (refine ldD 26 rfl rfl hry rfl ?_)
              | (refine stD 6 27 rfl rfl kZ rfl rfl ?_))
            all_goals
              go_roundw
              case rel => exact ⟨j + 1, by omega, by go_num, kX4, hb5⟩
              case measure => simp [intOf]; omega
          · have hnl : ¬ y.name.toList = x.name.toList := fun e => hnm (bytes_eq (by rwa [ByteArray.toList_eq, ByteArray.toList_eq] at e))
            clear hne
            go_wp2_with (first
              | (refine ldD 26 rfl rfl hry rfl ?_)
              | (refine stD 6 27 rfl rfl kZ rfl rfl ?_))
            all_goals
              go_roundw
              case rel => exact ⟨j + 1, by omega, by go_num, kX4, hb5⟩
              case measure => simp [intOf]; omega
        · obtain rfl : j = k := by omega
          go_wp2_with fail
          go_roundw
          case rel => exact ⟨j + 1, by omega, by go_num, hb4⟩
          case measure => simp [intOf]; omega
    · obtain rfl : k = l.length := by omega
      go_wp2
      go_ret
      exact ⟨rfl, hb1⟩
end Go.Proofs.YtbhiphjifdnhmaaGreatDoor

