import Derived.Test.YtnjmkdgglpcfpaaA26
namespace Go.Proofs.Ytnjmkdgglpcfpaa
open Go.RowKit

theorem Blk.drew' {w : World} {g : Nat} {t : TypeId} {cs : Array Value} (h : Blk w g t cs) (n : Nat) : Blk (w.drewN n) g t cs := h

set_option maxRecDepth 100000 in
set_option maxHeartbeats 2000000 in
theorem standing_any (C R B F : Int) (A : Option Addr) (cap : Nat) (cl : List Int) (D : Option Addr) (dap : Nat) (l : List Int) (w : World) (h1 : 1 ≤ C) (h2 : C ≤ 120) (hcl : cl.length ≤ 1000000) (hll : l.length ≤ 1000000) (hr : Ints w w.heap.size A cl) (hl : Ints w w.heap.size D l) :
    Calls Try.prog 90 #[.agg #[.int .i64 C, .int .i64 R, .int .i64 B, .int .i64 F, .slice A cl.length cap], .slice D l.length dap] w fun e w' => e = .returned (.bool (decide (Rise C l ∧ ∀ x ∈ l, x ∉ cl))) ∧ Below w.heap.size w w' := by
  have hbk := Blk.new w 24 #[.int .i64 C, .int .i64 R, .int .i64 B, .int .i64 F, .slice A cl.length cap]
  obtain ⟨d0, d1, d2, d3, d4⟩ := hbk.five
  have hb0 := below_new w (.cells #[.int .i64 C, .int .i64 R, .int .i64 B, .int .i64 F, .slice A cl.length cap] 24)
  have hl1 := hl.behind hb0
  have hri := fun w' (hw : Ints w' w'.heap.size D l) => rising_any l D dap (C - 1) w' hll hw
  rw [show C - 1 + 1 = C by omega] at hri
  have HRI := Lib.hid hri
  clear hri
  by_cases c0 : Rise C l
  case neg =>
    have hd : Hid (decide (Rise C l ∧ ∀ x ∈ l, x ∉ cl) = false) := decide_eq_false fun h => c0 h.1
    have D0 : Hid (decide (Rise C l) = false) := decide_eq_false c0
    clear c0
    go_enter Try.func90, Try.ntmps90
    go_wp2_with (go_at_call 75; refine (HRI.out _ hl1).mono ?_; rw [D0.out]; rintro e w1 ⟨rfl, hb1⟩)
    go_ret
    exact ⟨by rw [hd.out]; rfl, below_next hb0 (by simp) hb1⟩
  have D0 : Hid (decide (Rise C l) = true) := decide_eq_true c0
  have R0 := Lib.hid c0
  clear c0
  go_enter Try.func90, Try.ntmps90
  go_wp2_with (go_at_call 75; refine (HRI.out _ hl1).mono ?_; rw [D0.out]; rintro e w1 ⟨rfl, hb1⟩)
  have hba : Below w.heap.size w w1 := below_next hb0 (by simp) hb1
  have hbk1 : Blk w1 w.heap.size 24 #[.int .i64 C, .int .i64 R, .int .i64 B, .int .i64 F, .slice A cl.length cap] := hbk.below hb1 (by simp)
  clear d0 d1 d2 d3 d4 hbk hl1
  go_loopw [6, 7] (fun i _ wr => ∃ k : Nat, k ≤ l.length ∧ i = .int .i64 k ∧ Hid (∀ x ∈ l.take k, x ∉ cl) ∧ Below w.heap.size w wr ∧ Blk wr w.heap.size 24 #[.int .i64 C, .int .i64 R, .int .i64 B, .int .i64 F, .slice A cl.length cap])
    (fun i _ _ => l.length - (intOf i).toNat)
  case atStart => exact ⟨0, Nat.zero_le _, rfl, by simp [Hid], hba, hbk1⟩
  case round =>
    obtain ⟨k, hk, rfl, hall, hb, hbk2⟩ := hrel
    obtain ⟨d0, d1, d2, d3, d4⟩ := hbk2.five
    have hrr := hr.behind hb
    by_cases hlt : k < l.length
    · obtain ⟨ad, hA, hB, hc⟩ := (hl.below hb).get hlt
      subst hA
      have hll2 : (k : Int) < (l.length : Int) := by omega
      by_cases hx : l[k] ∈ cl
      · have hd : Hid (decide (Rise C l ∧ ∀ x ∈ l, x ∉ cl) = false) := decide_eq_false fun h => h.2 _ (List.getElem_mem hlt) hx
        have hI : Hid (decide (l[k] ∈ cl) = true) := decide_eq_true hx
        clear hall hx
        go_wp2_with fail
        go_quiet ((go_at_call 72; exact Calls.quiet_of_same ((has_any cl A cap l[k] _ hcl (hrr.drewN _)).mono fun e w' h => ⟨by rw [h.1, hI.out], h.2.symm⟩)))
        go_wp2_with fail
        go_ret
        exact ⟨by rw [hd.out]; rfl, below_drewN hb _⟩
      · have hn : Hid (∀ x ∈ l.take (k + 1), x ∉ cl) := by
          intro x hxx
          rw [List.take_succ_eq_append_getElem hlt] at hxx
          rcases List.mem_append.1 hxx with h | h
          · exact hall.out x h
          · rw [List.mem_singleton.1 h]; exact hx
        have hI : Hid (decide (l[k] ∈ cl) = false) := decide_eq_false hx
        clear hall hx
        go_wp2_with fail
        go_quiet ((go_at_call 72; exact Calls.quiet_of_same ((has_any cl A cap l[k] _ hcl (hrr.drewN _)).mono fun e w' h => ⟨by rw [h.1, hI.out], h.2.symm⟩)))
        go_wp2_with fail
        go_roundw
        case rel => exact ⟨k + 1, by omega, by go_num, hn, below_drewN hb _, hbk2⟩
        case measure => simp [intOf]; try omega
    · have hd : Hid (decide (Rise C l ∧ ∀ x ∈ l, x ∉ cl) = true) := decide_eq_true ⟨R0.out, by have := hall.out; rwa [List.take_of_length_le (by omega)] at this⟩
      clear hall
      go_wp2_with fail
      go_ret
      exact ⟨by rw [hd.out]; rfl, hb⟩

set_option maxRecDepth 100000 in
set_option maxHeartbeats 2000000 in
theorem stood_any (C R B F : Int) (A : Option Addr) (cap : Nat) (cl : List Int) (D : Option Addr) (dap : Nat) (l : List Int) (w : World) (h1 : 1 ≤ C) (h2 : C ≤ 120) (hcl : cl.length ≤ 1000000) (hll : l.length ≤ 1000000) (hr : Ints w w.heap.size A cl) (hl : Ints w w.heap.size D l) :
    Calls Try.prog 82 #[.agg #[.int .i64 C, .int .i64 R, .int .i64 B, .int .i64 F, .slice A cl.length cap], .slice D l.length dap] w fun e w' => e = .returned (.int .i64 (standsErr C cl l)) ∧ Below w.heap.size w w' := by
  have hb0 := below_new w (.cells #[.int .i64 C, .int .i64 R, .int .i64 B, .int .i64 F, .slice A cl.length cap] 24)
  have hr1 := hr.behind hb0
  have hl1 := hl.behind hb0
  by_cases c0 : 200 < l.length
  · have hs : standsErr C cl l = 2 := if_pos c0
    have e2 : (200 : Int) < ((l.length : Nat) : Int) := by omega
    have e3 : decide ((200 : Int) < ((l.length : Nat) : Int)) = true := decide_eq_true e2
    rw [hs]
    clear hs
    go_enter Try.func82, Try.ntmps82
    go_wp2_with fail
    go_ret
    exact ⟨rfl, hb0⟩
  have e2 : ¬ (200 : Int) < ((l.length : Nat) : Int) := by omega
  have e3 : decide ((200 : Int) < ((l.length : Nat) : Int)) = false := decide_eq_false e2
  by_cases c1 : Rise C l ∧ ∀ x ∈ l, x ∉ cl
  · have hs : standsErr C cl l = 0 := (if_neg c0).trans (if_pos c1)
    have D1 : Hid (decide (Rise C l ∧ ∀ x ∈ l, x ∉ cl) = true) := decide_eq_true c1
    rw [hs]
    clear hs c1
    go_enter Try.func82, Try.ntmps82
    go_wp2_with (go_at_call 90; refine (standing_any C R B F A cap cl D dap l _ h1 h2 hcl hll hr1 hl1).mono ?_; rw [D1.out]; rintro e w1 ⟨rfl, hb1⟩)
    go_ret
    exact ⟨rfl, below_next hb0 (by simp) hb1⟩
  · have hs : standsErr C cl l = 1 := (if_neg c0).trans (if_neg c1)
    have D1 : Hid (decide (Rise C l ∧ ∀ x ∈ l, x ∉ cl) = false) := decide_eq_false c1
    rw [hs]
    clear hs c1
    go_enter Try.func82, Try.ntmps82
    go_wp2_with (go_at_call 90; refine (standing_any C R B F A cap cl D dap l _ h1 h2 hcl hll hr1 hl1).mono ?_; rw [D1.out]; rintro e w1 ⟨rfl, hb1⟩)
    go_ret
    exact ⟨rfl, below_next hb0 (by simp) hb1⟩

end Go.Proofs.Ytnjmkdgglpcfpaa

namespace Go.Proofs.Ytnjmkdgglpcfpaa
open Go.RowKit

theorem isIn_snoc {C : Int} {l : List Int} {j c : Nat} (hj : j < l.length) : isIn (colm C (l.take (j + 1))) c = (isIn (colm C (l.take j)) c || decide ((c : Int) = l[j] % C)) := by
  rw [List.take_succ_eq_append_getElem hj, colm_snoc]
  simp [isIn]

set_option maxRecDepth 100000 in
set_option maxHeartbeats 4000000 in
theorem refColumns_any (C R B F : Int) (sl : Value) (D : Option Addr) (dap : Nat) (l : List Int) (w : World) (h1 : 1 ≤ C) (h2 : C ≤ 120) (hll : l.length ≤ 1000000) (hpos : ∀ x ∈ l, 0 ≤ x) (hl : Ints w w.heap.size D l) :
    Calls Try.prog 80 #[.agg #[.int .i64 C, .int .i64 R, .int .i64 B, .int .i64 F, sl], .slice D l.length dap] w (RetInts w (colsTo (isIn (colm C l)) C.toNat)) := by
  have hC : (C == 0) = false := by simp; omega
  obtain ⟨n, rfl⟩ := Int.eq_ofNat_of_zero_le (show 0 ≤ C by omega)
  rw [Int.toNat_natCast]
  have hfin : Hid (isIn (colm n l) = isIn (colm n (l.take l.length))) := by unfold Hid; rw [List.take_length]
  generalize hp : isIn (colm n l) = p at hfin
  clear hp
  go_enter Try.func80, Try.ntmps80
  go_wp2_with fail
  go_loopw [5, 6, 7, 8] (fun v i _ _ wr => ∃ k : Nat, ∃ A c', k ≤ n ∧ i = .int .i64 k ∧ v = .slice A (colsTo p k).length c' ∧ Below w.heap.size w wr ∧ Blk wr w.heap.size 24 #[.int .i64 n, .int .i64 R, .int .i64 B, .int .i64 F, sl] ∧ wr.ownsRow (w.heap.size + 1) 3 1 (.slice A (colsTo p k).length c') (colsTo p k).length ((colsTo p k).map (Value.int .i64)))
    (fun _ i _ _ _ => n - (intOf i).toNat)
  case atStart => exact ⟨0, none, 0, by omega, rfl, rfl, below_new _ _, Blk.new _ _ _, World.ownsRow_nil _ _ _ _⟩
  case round =>
    obtain ⟨k, A, c', hk, rfl, rfl, hb, hb0, hown⟩ := hrel
    have hlt0 := hb0.lt
    have hln := colsTo_len p k
    obtain ⟨d0, d1, d2, d3, d4⟩ := hb0.five
    by_cases hlt : k < n
    · go_wp2_with fail
      clear d0 d1 d2 d3 d4
      go_loopw [7, 8] (fun b i w2 => ∃ j : Nat, j ≤ l.length ∧ i = .int .i64 j ∧ b = .bool (isIn (colm n (l.take j)) k) ∧ (∃ nq, w2 = wr.drewN nq))
        (fun _ i _ => l.length - (intOf i).toNat)
      case atStart => exact ⟨0, Nat.zero_le _, rfl, by simp [isIn, colm], 0, rfl⟩
      case round =>
        obtain ⟨j, hj, rfl, rfl, nq, rfl⟩ := hrel
        have hbj := hb0.drew' nq
        obtain ⟨d0, d1, d2, d3, d4⟩ := hb0.five
        by_cases hjl : j < l.length
        · obtain ⟨ad, hA, hB, hc⟩ := (hl.below hb).get hjl
          subst hA
          have hll2 : (j : Int) < (l.length : Int) := by omega
          have hx := hpos _ (List.getElem_mem hjl)
          have hn := isIn_snoc (C := n) (c := k) hjl
          have hmt : l[j].tmod (n : Int) = l[j] % (n : Int) := Int.tmod_eq_emod_of_nonneg hx
          cases hf : isIn (colm n (l.take j)) k with
          | true =>
            rw [hf, Bool.true_or] at hn
            have HN := Lib.hid hn
            clear hn hf hmt
            go_wp2_with fail
            go_quiet (fail)
            go_wp2_with fail
            go_roundw
            case rel => exact ⟨j + 1, by omega, by go_num, by rw [HN.out], _, rfl⟩
            case measure => simp [intOf]; try omega
          | false =>
            rw [hf, Bool.false_or] at hn
            by_cases he : (k : Int) = l[j] % (n : Int)
            · rw [decide_eq_true he] at hn
              have HN := Lib.hid hn
              have hq : (l[j].tmod (n : Int) == (k : Int)) = true := by rw [hmt, he]; simp
              have hq2 : l[j].tmod (n : Int) = (k : Int) := by rw [hmt, he]
              clear hn hf hmt he
              go_wp2_with fail
              go_quiet (fail)
              go_wp2_with fail
              go_roundw
              case rel => exact ⟨j + 1, by omega, by go_num, by rw [HN.out], _, rfl⟩
              case measure => simp [intOf]; try omega
            · rw [decide_eq_false he] at hn
              have HN := Lib.hid hn
              have HMT := Lib.hid hmt
              have hq2 : ¬ l[j].tmod (n : Int) = (k : Int) := by rw [hmt]; exact fun e => he e.symm
              have hq : (l[j].tmod (n : Int) == (k : Int)) = false := by simpa using hq2
              clear hn hf hmt he
              go_wp2_with fail
              go_quiet (fail)
              go_wp2_with fail
              go_roundw
              case rel => exact ⟨j + 1, by omega, by go_num, by rw [HN.out, ← HMT.out]; simp only [hq], _, rfl⟩
              case measure => simp [intOf]; try omega
        · obtain rfl : j = l.length := by omega
          have hownj : (wr.drewN nq).ownsRow (w.heap.size + 1) 3 1 (.slice A (colsTo p k).length c') (colsTo p k).length ((colsTo p k).map (Value.int .i64)) := own_below hown (below_drewN (Below.refl _ _) nq)
          have hbd := below_drewN hb nq
          have hzd := hbd.size
          rw [← hfin.out]
          cases hpk : p k with
          | true =>
            have HY := Lib.hid (colsTo_yes hpk)
            clear hpk
            go_wp2_with (at_builtin; refine app1 (by rfl) _ _ (by rfl) (w.heap.size + 1) (colsTo p k) k _ (by rfl) hownj (by rfl) (by omega) (by have := hbj.lt; omega) ?_; intro A' c'' w3 hown1 hb3)
            go_roundw
            case rel => exact ⟨k + 1, A', c'', by omega, by go_num, by rw [HY.out]; simp, hbd.trans (hb3.mono (by omega)), hbj.below hb3 (by omega), by rw [HY.out]; exact hown1⟩
            case measure => simp [intOf]; try omega
          | false =>
            have HY := Lib.hid (colsTo_no hpk)
            clear hpk
            go_wp2_with fail
            go_roundw
            case rel => exact ⟨k + 1, A, c', by omega, by go_num, by rw [HY.out], hbd, hbj, by rw [HY.out]; exact hownj⟩
            case measure => simp [intOf]; try omega
    · obtain rfl : k = n := by omega
      go_wp2_with fail
      go_ret
      exact RetInts.of_own hown hb

end Go.Proofs.Ytnjmkdgglpcfpaa

namespace Go.Proofs.Ytnjmkdgglpcfpaa
open Go.RowKit

/-- the stands from which a column is reached, as the reference has them -/
def rstL (C B F : Int) (cl : List Int) (c : Int) : List Int := (openL C cl).filter fun s => decide (c ∈ rchL C B s (B + F + 1).toNat)
theorem openL_mem {C : Int} {cl : List Int} {x : Int} (h : x ∈ openL C cl) : 0 ≤ x ∧ x < C := by
  obtain ⟨i, hi, _, rfl⟩ := colsTo_mem.1 h
  omega
theorem openL_len {C : Int} {cl : List Int} (h : C ≤ 120) : (openL C cl).length ≤ 120 := by
  have := colsTo_len (fun i => !isIn cl i) C.toNat
  unfold openL
  omega

set_option maxRecDepth 100000 in
set_option maxHeartbeats 4000000 in
theorem refStands_own (C R B F : Int) (A0 : Option Addr) (cap : Nat) (cl : List Int) (c : Int) (w : World) (h1 : 1 ≤ C) (h2 : C ≤ 120) (h7 : 0 ≤ B) (h8 : 0 ≤ F) (h9 : F < C - B) (hcl : cl.length ≤ 1000000) (hr : Ints w w.heap.size A0 cl) :
    Calls Try.prog 69 #[.agg #[.int .i64 C, .int .i64 R, .int .i64 B, .int .i64 F, .slice A0 cl.length cap], .int .i64 c] w (RetOwn w (rstL C B F cl c)) := by
  have hr1 := hr.behind (below_new w (.cells #[.int .i64 C, .int .i64 R, .int .i64 B, .int .i64 F, .slice A0 cl.length cap] 24))
  have hbk := Blk.new w 24 #[.int .i64 C, .int .i64 R, .int .i64 B, .int .i64 F, .slice A0 cl.length cap]
  have hm : Hid (∀ x ∈ openL C cl, 0 ≤ x ∧ x < C) := fun x hx => openL_mem hx
  have hlen := openL_len (cl := cl) h2
  have HO : Hid (∀ w, Ints w w.heap.size A0 cl → Calls Try.prog 96 #[.agg #[.int .i64 C, .int .i64 R, .int .i64 B, .int .i64 F, .slice A0 cl.length cap]] w (RetInts w (openL C cl))) := fun w hw => open_any C R B F A0 cap cl w h1 h2 hcl hw
  unfold rstL
  generalize openL C cl = L at *
  generalize hp : (fun s : Int => decide (c ∈ rchL C B s (B + F + 1).toNat)) = pu
  have HP := Lib.hid hp
  clear hp
  go_enter Try.func69, Try.ntmps69
  go_wp2_with (go_at_call 96; refine (HO.out _ hr1).mono ?_; rintro e w1 ⟨A1, c1, rfl, e1, e2, e3, hb1⟩)
  have hba : Below w.heap.size w w1 := below_next (below_new _ _) (by simp) hb1
  have hbk1 : Blk w1 w.heap.size 24 #[.int .i64 C, .int .i64 R, .int .i64 B, .int .i64 F, .slice A0 cl.length cap] := hbk.below hb1 (by simp)
  clear hbk hr1 hb1
  go_loopw [5, 7, 8] (fun v i _ wr => ∃ k : Nat, ∃ A c', k ≤ L.length ∧ i = .int .i64 k ∧ v = .slice A ((L.take k).filter pu).length c' ∧ Below w1.heap.size w1 wr ∧ wr.ownsRow w1.heap.size 3 1 (.slice A ((L.take k).filter pu).length c') ((L.take k).filter pu).length (((L.take k).filter pu).map (Value.int .i64)))
    (fun _ i _ _ => L.length - (intOf i).toNat)
  case atStart => exact ⟨0, none, 0, Nat.zero_le _, rfl, rfl, Below.refl _ _, World.ownsRow_nil _ _ _ _⟩
  case round =>
    obtain ⟨k, A, c', hk, rfl, rfl, hb, hown⟩ := hrel
    have hzr := hb.size
    by_cases hlt : k < L.length
    · obtain ⟨ad, hA, hadb, hce⟩ := (e3.below hb).get hlt
      subst hA
      have hx := hm.out _ (List.getElem_mem hlt)
      have hfl := filt_len (L := L) (k := k) (pu := pu)
      have HY := Lib.hid (filt_yes (pu := pu) hlt)
      have HN := Lib.hid (filt_no (pu := pu) hlt)
      have hll2 : (k : Int) < (L.length : Int) := by omega
      have hbr : Blk wr w.heap.size 24 #[.int .i64 C, .int .i64 R, .int .i64 B, .int .i64 F, .slice A0 cl.length cap] := hbk1.below hb hbk1.lt
      obtain ⟨d0, d1, d2, d3, d4⟩ := hbr.five
      have hpx : pu L[k] = decide (c ∈ rchL C B L[k] (B + F + 1).toNat) := by rw [← HP.out]
      cases hf : pu L[k] with
      | true =>
        rw [hf] at hpx
        have HPX := Lib.hid hpx.symm
        have HF := Lib.hid hf
        clear hpx hf
        go_wp2_with fail
        go_region_held3 (fun w' => w'.cell? ⟨w.heap.size, 0, none⟩ = some (.int .i64 C) ∧ w'.cell? ⟨w.heap.size, 1, none⟩ = some (.int .i64 R) ∧ w'.cell? ⟨w.heap.size, 2, none⟩ = some (.int .i64 B) ∧ w'.cell? ⟨w.heap.size, 3, none⟩ = some (.int .i64 F) ∧ w'.cell? ⟨w.heap.size, 4, none⟩ = some (.slice A0 cl.length cap) ∧ w'.cell? (ad.add k) = some (.int .i64 L[k])) (first | exact K1 | exact ⟨d0, d1, d2, d3, d4, hce⟩)
          (first
            | (go_at_call 110; refine (reached_any C R B F _ L[k] c _ h1 h2 hx.1 hx.2 h7 h8 h9).mono ?_; rw [HPX.out]; rintro e w3 ⟨rfl, hb3⟩; obtain ⟨q1, q2⟩ := bcell hb3; have K1 : w3.cell? ⟨w.heap.size, 0, none⟩ = some (.int .i64 C) ∧ w3.cell? ⟨w.heap.size, 1, none⟩ = some (.int .i64 R) ∧ w3.cell? ⟨w.heap.size, 2, none⟩ = some (.int .i64 B) ∧ w3.cell? ⟨w.heap.size, 3, none⟩ = some (.int .i64 F) ∧ w3.cell? ⟨w.heap.size, 4, none⟩ = some (.slice A0 cl.length cap) ∧ w3.cell? (ad.add k) = some (.int .i64 L[k]) := ⟨(q1 _ _ hbr.lt).trans d0, (q1 _ _ hbr.lt).trans d1, (q1 _ _ hbr.lt).trans d2, (q1 _ _ hbr.lt).trans d3, (q1 _ _ hbr.lt).trans d4, (hb3.cell (p := ad.add k) (by rw [addr_block]; exact Nat.lt_of_lt_of_le hadb hzr)).trans hce⟩))
        have hzd : wr.heap.size ≤ w3.heap.size := hb3.size
        have hbd : Below w1.heap.size w1 w3 := below_next hb.drew hzr hb3
        have hown3 := own_below (w := wr.drew) hown hb3
        have hcz := K1.2.2.2.2.2
        go_wp2_with (at_builtin; refine app1 (by rfl) _ _ (by rfl) w1.heap.size ((L.take k).filter pu) L[k] _ (by rfl) hown3 (by rfl) (by omega) (by omega) ?_; intro A' c'' w4 hown1 hb4)
        go_roundw
        case rel => exact ⟨k + 1, A', c'', by omega, by go_num, by rw [HY.out HF.out]; simp, hbd.trans hb4, by rw [HY.out HF.out]; exact hown1⟩
        case measure => simp [intOf]; try omega
      | false =>
        rw [hf] at hpx
        have HPX := Lib.hid hpx.symm
        have HF := Lib.hid hf
        clear hpx hf
        go_wp2_with fail
        go_region_held3 (fun w' => w'.cell? ⟨w.heap.size, 0, none⟩ = some (.int .i64 C) ∧ w'.cell? ⟨w.heap.size, 1, none⟩ = some (.int .i64 R) ∧ w'.cell? ⟨w.heap.size, 2, none⟩ = some (.int .i64 B) ∧ w'.cell? ⟨w.heap.size, 3, none⟩ = some (.int .i64 F) ∧ w'.cell? ⟨w.heap.size, 4, none⟩ = some (.slice A0 cl.length cap) ∧ w'.cell? (ad.add k) = some (.int .i64 L[k])) (first | exact K1 | exact ⟨d0, d1, d2, d3, d4, hce⟩)
          (first
            | (go_at_call 110; refine (reached_any C R B F _ L[k] c _ h1 h2 hx.1 hx.2 h7 h8 h9).mono ?_; rw [HPX.out]; rintro e w3 ⟨rfl, hb3⟩; obtain ⟨q1, q2⟩ := bcell hb3; have K1 : w3.cell? ⟨w.heap.size, 0, none⟩ = some (.int .i64 C) ∧ w3.cell? ⟨w.heap.size, 1, none⟩ = some (.int .i64 R) ∧ w3.cell? ⟨w.heap.size, 2, none⟩ = some (.int .i64 B) ∧ w3.cell? ⟨w.heap.size, 3, none⟩ = some (.int .i64 F) ∧ w3.cell? ⟨w.heap.size, 4, none⟩ = some (.slice A0 cl.length cap) ∧ w3.cell? (ad.add k) = some (.int .i64 L[k]) := ⟨(q1 _ _ hbr.lt).trans d0, (q1 _ _ hbr.lt).trans d1, (q1 _ _ hbr.lt).trans d2, (q1 _ _ hbr.lt).trans d3, (q1 _ _ hbr.lt).trans d4, (hb3.cell (p := ad.add k) (by rw [addr_block]; exact Nat.lt_of_lt_of_le hadb hzr)).trans hce⟩))
        have hzd : wr.heap.size ≤ w3.heap.size := hb3.size
        have hbd : Below w1.heap.size w1 w3 := below_next hb.drew hzr hb3
        have hown3 := own_below (w := wr.drew) hown hb3
        go_wp2_with fail
        go_roundw
        case rel => exact ⟨k + 1, A, c', by omega, by go_num, by rw [HN.out HF.out], hbd, by rw [HN.out HF.out]; exact hown3⟩
        case measure => simp [intOf]; try omega
    · have ek : L.take k = L := List.take_of_length_le (by omega)
      rw [ek] at hown ⊢
      clear ek
      go_wp2_with fail
      go_ret
      exact ⟨_, _, rfl, own_less hown hba.size, hba.trans (hb.mono hba.size)⟩

theorem refStands_any (C R B F : Int) (A0 : Option Addr) (cap : Nat) (cl : List Int) (c : Int) (w : World) (h1 : 1 ≤ C) (h2 : C ≤ 120) (h7 : 0 ≤ B) (h8 : 0 ≤ F) (h9 : F < C - B) (hcl : cl.length ≤ 1000000) (hr : Ints w w.heap.size A0 cl) :
    Calls Try.prog 69 #[.agg #[.int .i64 C, .int .i64 R, .int .i64 B, .int .i64 F, .slice A0 cl.length cap], .int .i64 c] w (RetInts w (rstL C B F cl c)) :=
  (refStands_own C R B F A0 cap cl c w h1 h2 h7 h8 h9 hcl hr).mono fun _ _ h => h.ints

end Go.Proofs.Ytnjmkdgglpcfpaa

namespace Go.Proofs.Ytnjmkdgglpcfpaa
open Go.RowKit

/-- is a column reached from one of some stands -/
def anyR (C B F : Int) (m : List Int) (x : Int) : Bool := m.any fun s => decide (x ∈ rchL C B s (B + F + 1).toNat)
theorem anyR_snoc {C B F : Int} {m : List Int} {j : Nat} {x : Int} (hj : j < m.length) : anyR C B F (m.take (j + 1)) x = (anyR C B F (m.take j) x || decide (x ∈ rchL C B m[j] (B + F + 1).toNat)) := by
  unfold anyR
  rw [List.take_succ_eq_append_getElem hj, List.any_append]
  simp

set_option maxRecDepth 100000 in
set_option maxHeartbeats 4000000 in
theorem refLeft_any (C R B F : Int) (sl : Value) (D : Option Addr) (dap : Nat) (l : List Int) (E : Option Addr) (eap : Nat) (m : List Int) (w : World) (h1 : 1 ≤ C) (h2 : C ≤ 120) (h7 : 0 ≤ B) (h8 : 0 ≤ F) (h9 : F < C - B) (hll : l.length ≤ 1000000) (hlm : m.length ≤ 1000000) (hm : ∀ x ∈ m, 0 ≤ x ∧ x < C) (hl : Ints w w.heap.size D l) (hs : Ints w w.heap.size E m) :
    Calls Try.prog 83 #[.agg #[.int .i64 C, .int .i64 R, .int .i64 B, .int .i64 F, sl], .slice D l.length dap, .slice E m.length eap] w (RetInts w (l.filter fun x => !anyR C B F m x)) := by
  generalize hp : (fun x : Int => !anyR C B F m x) = pu
  have HP := Lib.hid hp
  clear hp
  go_enter Try.func83, Try.ntmps83
  go_wp2_with fail
  go_loopw [7, 8, 9, 10, 11] (fun v i _ _ _ wr => ∃ k : Nat, ∃ A c', k ≤ l.length ∧ i = .int .i64 k ∧ v = .slice A ((l.take k).filter pu).length c' ∧ Below w.heap.size w wr ∧ Blk wr w.heap.size 24 #[.int .i64 C, .int .i64 R, .int .i64 B, .int .i64 F, sl] ∧ wr.ownsRow (w.heap.size + 1) 3 1 (.slice A ((l.take k).filter pu).length c') ((l.take k).filter pu).length (((l.take k).filter pu).map (Value.int .i64)))
    (fun _ i _ _ _ _ => l.length - (intOf i).toNat)
  case atStart => exact ⟨0, none, 0, Nat.zero_le _, rfl, rfl, below_new _ _, Blk.new _ _ _, World.ownsRow_nil _ _ _ _⟩
  case round =>
    obtain ⟨k, A, c', hk, rfl, rfl, hb, hb0, hown⟩ := hrel
    have hlt0 := hb0.lt
    by_cases hlt : k < l.length
    · obtain ⟨ad, hA, hadb, hce⟩ := (hl.below hb).get hlt
      subst hA
      have hfl := filt_len (L := l) (k := k) (pu := pu)
      have HY := Lib.hid (filt_yes (pu := pu) hlt)
      have HN := Lib.hid (filt_no (pu := pu) hlt)
      have hll2 : (k : Int) < (l.length : Int) := by omega
      have hpx : pu l[k] = !anyR C B F m l[k] := by rw [← HP.out]
      have HPX := Lib.hid hpx
      clear hpx
      obtain ⟨x, hx⟩ : ∃ x, l[k] = x := ⟨_, rfl⟩
      rw [hx] at hce HY HN HPX
      clear hx
      go_wp2_with fail
      go_loopw [9, 10, 11] (fun b i _ w2 => ∃ j : Nat, j ≤ m.length ∧ i = .int .i64 j ∧ b = .bool (anyR C B F (m.take j) x) ∧ Below wr.heap.size wr w2)
        (fun _ i _ _ => m.length - (intOf i).toNat)
      case atStart => exact ⟨0, Nat.zero_le _, rfl, by simp [anyR], Below.refl _ _⟩
      case round =>
        obtain ⟨j, hj, rfl, rfl, hb2⟩ := hrel
        have hz2 := hb2.size
        have hbw : Below w.heap.size w wr := below_next hb hb.size hb2
        have hbj := hb0.below hb2 hlt0
        obtain ⟨d0, d1, d2, d3, d4⟩ := hbj.five
        have hcw : wr.cell? (ad.add k) = some (.int .i64 x) := (hb2.cell (p := ad.add k) (by rw [addr_block]; exact Nat.lt_trans hadb hlt0)).trans hce
        by_cases hjl : j < m.length
        · obtain ⟨ae, hE, haeb, hcf⟩ := (hs.below hbw).get hjl
          subst hE
          have hlm2 : (j : Int) < (m.length : Int) := by omega
          have hsx := hm _ (List.getElem_mem hjl)
          have HS := Lib.hid (anyR_snoc (C := C) (B := B) (F := F) (x := x) hjl)
          cases hf : anyR C B F (m.take j) x with
          | true =>
            rw [hf, Bool.true_or] at HS
            clear hf
            go_wp2_with fail
            go_region_held3 (fun w' => w'.cell? ⟨w.heap.size, 0, none⟩ = some (.int .i64 C) ∧ w'.cell? ⟨w.heap.size, 1, none⟩ = some (.int .i64 R) ∧ w'.cell? ⟨w.heap.size, 2, none⟩ = some (.int .i64 B) ∧ w'.cell? ⟨w.heap.size, 3, none⟩ = some (.int .i64 F) ∧ w'.cell? ⟨w.heap.size, 4, none⟩ = some sl ∧ w'.cell? (ad.add k) = some (.int .i64 x) ∧ w'.cell? (ae.add j) = some (.int .i64 m[j])) (first | exact K1 | exact ⟨d0, d1, d2, d3, d4, hcw, hcf⟩)
              (first
                | (go_at_call 110; refine (reached_any C R B F _ m[j] x _ h1 h2 hsx.1 hsx.2 h7 h8 h9).mono ?_; rintro e w3 ⟨rfl, hb3⟩; obtain ⟨q1, q2⟩ := bcell hb3; have K1 : w3.cell? ⟨w.heap.size, 0, none⟩ = some (.int .i64 C) ∧ w3.cell? ⟨w.heap.size, 1, none⟩ = some (.int .i64 R) ∧ w3.cell? ⟨w.heap.size, 2, none⟩ = some (.int .i64 B) ∧ w3.cell? ⟨w.heap.size, 3, none⟩ = some (.int .i64 F) ∧ w3.cell? ⟨w.heap.size, 4, none⟩ = some sl ∧ w3.cell? (ad.add k) = some (.int .i64 x) ∧ w3.cell? (ae.add j) = some (.int .i64 m[j]) := ⟨(q1 _ _ hbj.lt).trans d0, (q1 _ _ hbj.lt).trans d1, (q1 _ _ hbj.lt).trans d2, (q1 _ _ hbj.lt).trans d3, (q1 _ _ hbj.lt).trans d4, (hb3.cell (p := ad.add k) (World.block_lt_of_cell? wr _ hcw)).trans hcw, (hb3.cell (p := ae.add j) (World.block_lt_of_cell? wr _ hcf)).trans hcf⟩))
            go_wp2_with fail
            go_roundw
            case rel => exact ⟨j + 1, by omega, by go_num, by rw [HS.out], below_next hb2.drew hz2 hb3⟩
            case measure => simp [intOf]; try omega
          | false =>
            rw [hf, Bool.false_or] at HS
            clear hf
            go_wp2_with fail
            go_region_held3 (fun w' => w'.cell? ⟨w.heap.size, 0, none⟩ = some (.int .i64 C) ∧ w'.cell? ⟨w.heap.size, 1, none⟩ = some (.int .i64 R) ∧ w'.cell? ⟨w.heap.size, 2, none⟩ = some (.int .i64 B) ∧ w'.cell? ⟨w.heap.size, 3, none⟩ = some (.int .i64 F) ∧ w'.cell? ⟨w.heap.size, 4, none⟩ = some sl ∧ w'.cell? (ad.add k) = some (.int .i64 x) ∧ w'.cell? (ae.add j) = some (.int .i64 m[j])) (first | exact K1 | exact ⟨d0, d1, d2, d3, d4, hcw, hcf⟩)
              (first
                | (go_at_call 110; refine (reached_any C R B F _ m[j] x _ h1 h2 hsx.1 hsx.2 h7 h8 h9).mono ?_; rw [← HS.out]; rintro e w3 ⟨rfl, hb3⟩; obtain ⟨q1, q2⟩ := bcell hb3; have K1 : w3.cell? ⟨w.heap.size, 0, none⟩ = some (.int .i64 C) ∧ w3.cell? ⟨w.heap.size, 1, none⟩ = some (.int .i64 R) ∧ w3.cell? ⟨w.heap.size, 2, none⟩ = some (.int .i64 B) ∧ w3.cell? ⟨w.heap.size, 3, none⟩ = some (.int .i64 F) ∧ w3.cell? ⟨w.heap.size, 4, none⟩ = some sl ∧ w3.cell? (ad.add k) = some (.int .i64 x) ∧ w3.cell? (ae.add j) = some (.int .i64 m[j]) := ⟨(q1 _ _ hbj.lt).trans d0, (q1 _ _ hbj.lt).trans d1, (q1 _ _ hbj.lt).trans d2, (q1 _ _ hbj.lt).trans d3, (q1 _ _ hbj.lt).trans d4, (hb3.cell (p := ad.add k) (World.block_lt_of_cell? wr _ hcw)).trans hcw, (hb3.cell (p := ae.add j) (World.block_lt_of_cell? wr _ hcf)).trans hcf⟩))
            go_wp2_with fail
            go_roundw
            case rel => exact ⟨j + 1, by omega, by go_num, rfl, below_next hb2.drew hz2 hb3⟩
            case measure => simp [intOf]; try omega
        · obtain rfl : j = m.length := by omega
          have em : m.take m.length = m := List.take_length
          rw [em]
          clear em
          have hown2 := own_below hown hb2
          cases hf : anyR C B F m x with
          | true =>
            have HF : Hid (pu x = false) := by unfold Hid; rw [HPX.out, hf]; rfl
            clear hf
            go_wp2_with fail
            go_roundw
            case rel => exact ⟨k + 1, A, c', by omega, by go_num, by rw [HN.out HF.out], hbw, hbj, by rw [HN.out HF.out]; exact hown2⟩
            case measure => simp [intOf]; try omega
          | false =>
            have HF : Hid (pu x = true) := by unfold Hid; rw [HPX.out, hf]; rfl
            clear hf
            go_wp2_with (at_builtin; refine app1 (by rfl) _ _ (by rfl) (w.heap.size + 1) ((l.take k).filter pu) x _ (by rfl) hown2 (by rfl) (by omega) (by omega) ?_; intro A' c'' w4 hown1 hb4)
            go_roundw
            case rel => exact ⟨k + 1, A', c'', by omega, by go_num, by rw [HY.out HF.out]; simp, hbw.trans (hb4.mono (by omega)), hbj.below hb4 (by omega), by rw [HY.out HF.out]; exact hown1⟩
            case measure => simp [intOf]; try omega
    · have ek : l.take k = l := List.take_of_length_le (by omega)
      rw [ek] at hown ⊢
      clear ek
      go_wp2_with fail
      go_ret
      exact RetInts.of_own hown hb

end Go.Proofs.Ytnjmkdgglpcfpaa

