import Derived.Test.YtbhiphjifdnhmaaGreatDoorR1
import Derived.Test.YtbhiphjifdnhmaaGreatDoorV0
import Derived.Deep.QuietTactic
import Derived.BigQuiet
/- The reference: right, Cut, Degree, Holds. -/
namespace Go.Proofs.YtbhiphjifdnhmaaGreatDoor
open Go.RowKit
set_option linter.unusedSimpArgs false
set_option linter.unusedVariables false
/-- a quiet call in a quiet region -/
theorem quietL {P : Program} {f : FuncId} {args : Array Value} {w : World} {n : Nat} {v : Value} (h : Calls P f args (w.drewN n) fun e w' => e = .returned v ∧ w.drewN n = w') : Calls P f args (w.drewN n) fun e w'' => e = .returned v ∧ ∃ m, w'' = w.drewN m :=
  h.mono fun _ _ ⟨he, hm⟩ => ⟨he, n, hm.symm⟩
/-- the two days' blocks behind their boxes -/
theorem two26 (a b : Nat → Int) (w : World) : Blk ((w.alloc (.cells (va a) 26)).alloc (.cells (va b) 26)) w.heap.size 26 (va a) ∧ Blk ((w.alloc (.cells (va a) 26)).alloc (.cells (va b) 26)) (w.heap.size + 1) 26 (va b) ∧ Below w.heap.size w ((w.alloc (.cells (va a) 26)).alloc (.cells (va b) 26)) :=
  ⟨(Blk.new w 26 (va a)).alloc (.cells (va b) 26), Blk.newAt (by simp), (below_new _ _).alloc (by simp) _⟩
set_option maxRecDepth 100000 in
theorem refRight_any (a b : Nat → Int) (w : World) : Calls Tryz.prog 95 #[.agg (va a), .agg (va b)] w fun e w' => e = .returned (.bool (vok a && vok b)) ∧ Below w.heap.size w w' := by
  obtain ⟨hA, hB, hb0⟩ := two26 a b w
  cases ha : vok a
  · have HA := Lib.hid (chkV_no ha)
    clear ha
    rw [Bool.false_and]
    go_enter Tryz.func95, Tryz.ntmps95
    go_wp2_with (first
      | go_skip
      | (refine ldV 2 rfl rfl hA rfl ?_)
      | (go_at_call 43; refine (refCheck_any _ _).mono ?_; rw [HA.out]; rintro e w1 ⟨rfl, hb1⟩))
    go_ret
    exact ⟨rfl, below_next hb0 (by simp; omega) hb1⟩
  · have HA := Lib.hid (chkV_ok ha)
    clear ha
    rw [Bool.true_and]
    cases hb : vok b
    all_goals
      have HB := Lib.hid (show chkV b = _ from by first | exact chkV_ok hb | exact chkV_no hb)
      clear hb
      go_enter Tryz.func95, Tryz.ntmps95
      go_wp2_with (first
        | go_skip
        | (refine ldV 2 rfl rfl hA rfl ?_)
        | (refine ldVG 3 (by rfl) rfl hB1 rfl ?_)
        | (go_at_call 43; refine (refCheck_any _ _).mono ?_; (first | (rw [HA.out]; rintro e w1 ⟨rfl, hb1⟩; have hB1 := hB.below hb1 (by simp)) | (rw [HB.out]; rintro e w2 ⟨rfl, hb2⟩))))
      go_ret
      exact ⟨rfl, below_next (below_next hb0 (by simp; omega) hb1) (by have := hb1.size; simp at this; omega) hb2⟩
set_option maxRecDepth 100000 in
set_option maxHeartbeats 1600000 in
theorem refCut_any (a : Nat → Int) (d : Int) (w : World) : Calls Tryz.prog 41 #[.agg (va a), .int .i64 d] w (RetS w (cutAt a d) (cutE a d)) := by
  have hA : Blk ((w.alloc (.cells (va a) 26)).alloc (.cells #[.int .i64 0, .int .i64 0] 23)) w.heap.size 26 (va a) := (Blk.new w 26 (va a)).alloc _
  have hZ : Blk ((w.alloc (.cells (va a) 26)).alloc (.cells #[.int .i64 0, .int .i64 0] 23)) (w.heap.size + 1) 23 #[.int .i64 0, .int .i64 0] := Blk.newAt (by simp)
  have hb0 : Below w.heap.size w ((w.alloc (.cells (va a) 26)).alloc (.cells #[.int .i64 0, .int .i64 0] 23)) := (below_new _ _).alloc (by simp) _
  cases h1 : (decide (1 ≤ d) && decide (d ≤ 12))
  · have HR := Lib.hid (show cutAt a d = (0, 0) ∧ cutE a d = 1 by unfold cutAt cutE; rw [h1]; simp)
    have H1 := Lib.hid h1
    clear h1
    cases h0 : vok a
    all_goals
      have H0 := Lib.hid (show chkV a = _ from by first | exact chkV_ok h0 | exact chkV_no h0)
      clear h0
      go_enter Tryz.func41, Tryz.ntmps41
      go_wp2_with (first
        | go_skip
        | (refine ldV 2 rfl rfl hA rfl ?_)
        | (go_at_call 93; refine (refWithin_any _ _ _ _).mono ?_; rw [H1.out]; rintro e w2 ⟨rfl, rfl⟩)
        | (go_at_call 43; refine (refCheck_any _ _).mono ?_; rw [H0.out]; rintro e w1 ⟨rfl, hb1⟩; obtain ⟨d0, d1⟩ := (hZ.below hb1 (by simp)).two; obtain ⟨q1, q2⟩ := bcell hb1))
      refine bodyPost_ret (resS2 rfl _ _ ((hZ.below hb1 (by simp)).twoStore _ _) rfl rfl) rfl ⟨?_, ((below_next hb0 (by simp; omega) hb1).setCell (by simp) _).setCell (by simp) _⟩
      rw [HR.out.1, HR.out.2]; rfl
  · obtain ⟨l1, l2⟩ : 1 ≤ d ∧ d ≤ 12 := by simpa using h1
    have H1 := Lib.hid h1
    cases h0 : vok a
    · have HR := Lib.hid (show cutAt a d = (0, 0) ∧ cutE a d = 1 by unfold cutAt cutE; rw [h0]; simp)
      have H0 := Lib.hid (chkV_no h0)
      clear h0 h1
      go_enter Tryz.func41, Tryz.ntmps41
      go_wp2_with (first
        | go_skip
        | (refine ldV 2 rfl rfl hA rfl ?_)
        | (go_at_call 93; refine (refWithin_any _ _ _ _).mono ?_; rw [H1.out]; rintro e w2 ⟨rfl, rfl⟩)
        | (go_at_call 43; refine (refCheck_any _ _).mono ?_; rw [H0.out]; rintro e w1 ⟨rfl, hb1⟩; obtain ⟨d0, d1⟩ := (hZ.below hb1 (by simp)).two; obtain ⟨q1, q2⟩ := bcell hb1))
      refine bodyPost_ret (resS2 rfl _ _ ((hZ.below hb1 (by simp)).twoStore _ _) rfl rfl) rfl ⟨?_, ((below_next hb0 (by simp; omega) hb1).setCell (by simp) _).setCell (by simp) _⟩
      rw [HR.out.1, HR.out.2]; rfl
    · clear h1 l1 l2
      obtain ⟨l1, l2⟩ : 1 ≤ d ∧ d ≤ 12 := by simpa using H1.out
      obtain ⟨m, rfl⟩ : ∃ m : Nat, d = ((m + 1 : Nat) : Int) := ⟨d.toNat - 1, by omega⟩
      have hm : m < 12 := by omega
      have H0 := Lib.hid (chkV_ok h0)
      have HR := Lib.hid (show cutAt a ((m + 1 : Nat) : Int) = (a (2 * m), a (2 * m + 1)) ∧ cutE a ((m + 1 : Nat) : Int) = 0 by simp [cutAt, cutE, h0]; omega)
      clear h0 l1 l2
      have k1 : ((m + 1 : Nat) : Int) - 1 = (m : Int) := by omega
      have H2 := Lib.hid (show (decide (1 ≤ (m : Int) + 1) && decide ((m : Int) + 1 ≤ 12)) = true by simp; omega)
      go_enter Tryz.func41, Tryz.ntmps41
      go_wp2_with (first
        | go_skip
        | (refine ldV 2 rfl rfl hA rfl ?_)
        | (go_at_call 93; refine (refWithin_any _ _ _ _).mono ?_; (first | rw [H1.out] | rw [H2.out]); rintro e w2 ⟨rfl, rfl⟩)
        | (go_at_call 43; refine (refCheck_any _ _).mono ?_; rw [H0.out]; rintro e w1 ⟨rfl, hb1⟩; obtain ⟨d0, d1⟩ := (hZ.below hb1 (by simp)).two; obtain ⟨f0, f1⟩ := (hA.below hb1 (by simp; omega)).spans m hm; obtain ⟨q1, q2⟩ := bcell hb1))
      refine bodyPost_ret (resS2 rfl _ _ ((hZ.below hb1 (by simp)).twoStore _ _) rfl rfl) rfl ⟨?_, ((below_next hb0 (by simp; omega) hb1).setCell (by simp) _).setCell (by simp) _⟩
      rw [HR.out.1, HR.out.2]; rfl
set_option maxRecDepth 100000 in
set_option maxHeartbeats 1600000 in
theorem refDegree_any (a : Nat → Int) (n : Int) (w : World) : Calls Tryz.prog 42 #[.agg (va a), .int .i64 n] w fun e w' => e = .returned (.tuple #[.int .i64 (degR a n), .int .i64 (chkV a)]) ∧ Below w.heap.size w w' := by
  have hA := Blk.new w 26 (va a)
  have hb0 := below_new w (.cells (va a) 26)
  cases h0 : vok a
  · have H0 := Lib.hid (chkV_no h0)
    have HR := Lib.hid (show degR a n = 0 by simp [degR, h0])
    clear h0
    rw [H0.out, HR.out]
    go_enter Tryz.func42, Tryz.ntmps42
    go_wp2_with (first
      | (refine ldV 2 rfl rfl hA rfl ?_)
      | (go_at_call 43; refine (refCheck_any _ _).mono ?_; rw [H0.out]; rintro e w1 ⟨rfl, hb1⟩))
    go_ret2
    exact ⟨rfl, below_next hb0 (by simp) hb1⟩
  · have H0 := Lib.hid (chkV_ok h0)
    have HR := Lib.hid (show degR a n = degTo a n 12 by simp [degR, h0])
    clear h0
    rw [H0.out, HR.out]
    go_enter Tryz.func42, Tryz.ntmps42
    go_wp2_with (first
      | (refine ldV 2 rfl rfl hA rfl ?_)
      | (go_at_call 43; refine (refCheck_any _ _).mono ?_; rw [H0.out]; rintro e w1 ⟨rfl, hb1⟩))
    have hb2 := below_next hb0 (by simp) hb1
    have hA1 := hA.below hb1 (by simp)
    clear hb1 hA hb0
    go_loopw [6, 7, 8] (fun t6 t7 t8 wr => ∃ k : Nat, k ≤ 12 ∧ t7 = .int .i64 ((k : Int) + 1) ∧ t6 = .int .i64 (degTo a n k) ∧ Blk wr w.heap.size 26 (va a) ∧ Below w.heap.size w wr) (fun _ t7 _ _ => 13 - (intOf t7).toNat)
    case atStart => exact ⟨0, by omega, rfl, rfl, hA1, hb2⟩
    case round =>
      obtain ⟨k, hk, rfl, rfl, hA2, hb3⟩ := hrel
      clear hA1 hb2
      by_cases hlt : k < 12
      · obtain ⟨c0, c1⟩ := hA2.spans k hlt
        have q1 : (k : Int) + 1 ≤ 12 := by omega
        have q2 : (k : Int) + 1 - 1 = (k : Int) := by omega
        have q3 : IntKind.i64.wrap ((k : Int) + 1 - 1) = (k : Int) := by rw [q2]; exact IntWalk.i64_in _ (by omega)
        obtain ⟨D, hD⟩ : ∃ D, D = degTo a n k := ⟨_, rfl⟩
        obtain ⟨D', hD'⟩ : ∃ D', D' = degTo a n (k + 1) := ⟨_, rfl⟩
        have hs : D' = if hasAt a n k then (k : Int) + 1 else D := by rw [hD, hD']; rfl
        have HD' := Lib.hid hD'
        rw [← hD]
        clear hD hD'
        cases hh : hasAt a n k
        all_goals
          have HH : Hid (∀ W, Calls Tryz.prog 93 #[.int .i64 n, .int .i64 (a (2 * k)), .int .i64 (a (2 * k + 1))] W fun e w' => e = .returned (.bool _) ∧ W = w') := fun W => by
            have h := refWithin_any n (a (2 * k)) (a (2 * k + 1)) W
            rw [show (decide (a (2 * k) ≤ n) && decide (n ≤ a (2 * k + 1))) = _ from hh] at h
            exact h
          rw [hh] at hs
          have HS := Lib.hid hs
          clear hh hs
          go_wp2_with fail
          go_quiet ((go_at_call 93; exact quietL (HH.out _)))
          all_goals
            go_wp2
            go_roundw
            case rel => exact ⟨k + 1, by omega, by go_num, by rw [← HD'.out, HS.out]; rfl, hA2, below_drewN hb3 _⟩
            case measure => simp [intOf]; omega
      · obtain rfl : k = 12 := by omega
        go_wp2
        go_ret2
        exact ⟨rfl, hb3⟩
set_option maxRecDepth 100000 in
set_option maxHeartbeats 1600000 in
theorem refHolds_any (a b : Nat → Int) (w : World) : Calls Tryz.prog 48 #[.agg (va a), .agg (va b)] w fun e w' => e = .returned (.tuple #[.bool (holdsV a b), .int .i64 (chk2 a b)]) ∧ Below w.heap.size w w' := by
  obtain ⟨hA, hB, hb0⟩ := two26 a b w
  cases h0 : (vok a && vok b)
  · have H0 := Lib.hid h0
    have HR := Lib.hid (show holdsV a b = false ∧ chk2 a b = 1 by simp [holdsV, chk2, h0])
    clear h0
    rw [HR.out.1, HR.out.2]
    go_enter Tryz.func48, Tryz.ntmps48
    go_wp2_with (first
      | (refine ldV 2 rfl rfl hA rfl ?_)
      | (refine ldV 3 rfl rfl hB rfl ?_)
      | (go_at_call 95; refine (refRight_any _ _ _).mono ?_; rw [H0.out]; rintro e w1 ⟨rfl, hb1⟩))
    go_ret2
    exact ⟨rfl, below_next hb0 (by simp; omega) hb1⟩
  · have H0 := Lib.hid h0
    have HR := Lib.hid (show holdsV a b = holdsTo a b 12 ∧ chk2 a b = 0 by simp [holdsV, chk2, h0])
    clear h0
    rw [HR.out.1, HR.out.2]
    go_enter Tryz.func48, Tryz.ntmps48
    go_wp2_with (first
      | (refine ldV 2 rfl rfl hA rfl ?_)
      | (refine ldV 3 rfl rfl hB rfl ?_)
      | (go_at_call 95; refine (refRight_any _ _ _).mono ?_; rw [H0.out]; rintro e w1 ⟨rfl, hb1⟩))
    have hb2 := below_next hb0 (by simp; omega) hb1
    have hA1 := hA.below hb1 (by simp; omega)
    have hB1 := hB.below hb1 (by simp)
    clear hb1 hA hB hb0
    go_loopw [7] (fun t7 wr => ∃ k : Nat, k ≤ 12 ∧ t7 = .int .i64 k ∧ holdsTo a b k = true ∧ Blk wr w.heap.size 26 (va a) ∧ Blk wr (w.heap.size + 1) 26 (va b) ∧ Below w.heap.size w wr) (fun t7 _ => 12 - (intOf t7).toNat)
    case atStart => exact ⟨0, by omega, rfl, rfl, hA1, hB1, hb2⟩
    case round =>
      obtain ⟨k, hk, rfl, hh, hA2, hB2, hb3⟩ := hrel
      have HT := Lib.hid hh
      clear hh hA1 hB1 hb2
      by_cases hlt : k < 12
      · obtain ⟨c0, c1⟩ := hA2.spans k hlt
        obtain ⟨d0, d1⟩ := hB2.spans k hlt
        have HS := Lib.hid (holdsTo_succ a b k)
        have HF : Hid (holdsAt a b k = false → holdsTo a b 12 = false) := fun h => by
          cases hc : holdsTo a b 12
          · rfl
          · have := holdsTo_mono hc (show k + 1 ≤ 12 by omega)
            rw [HS.out, h, Bool.and_false] at this
            cases this
        by_cases l1 : a (2 * k) < b (2 * k)
        · have l0 : holdsAt a b k = false := by simp [holdsAt]; omega
          have hF := Lib.hid (HF.out l0)
          clear l0
          go_wp2_with fail
          go_quiet (fail)
          all_goals
            go_wp2
            go_ret2
            exact ⟨by rw [hF.out]; rfl, below_drewN hb3 _⟩
        · by_cases l2 : b (2 * k + 1) < a (2 * k + 1)
          · have l0 : holdsAt a b k = false := by simp [holdsAt]; omega
            have hF := Lib.hid (HF.out l0)
            clear l0
            go_wp2_with fail
            go_quiet (fail)
            all_goals
              go_wp2
              go_ret2
              exact ⟨by rw [hF.out]; rfl, below_drewN hb3 _⟩
          · have l0 := Lib.hid (show holdsAt a b k = true by simp [holdsAt]; omega)
            go_wp2_with fail
            go_quiet (fail)
            all_goals
              go_wp2
              go_roundw
              case rel => exact ⟨k + 1, by omega, by go_num, by rw [HS.out, HT.out, l0.out]; rfl, hA2, hB2, below_drewN hb3 _⟩
              case measure => simp [intOf]; omega
      · obtain rfl : k = 12 := by omega
        go_wp2
        go_ret2
        exact ⟨by rw [HT.out]; rfl, hb3⟩
end Go.Proofs.YtbhiphjifdnhmaaGreatDoor
