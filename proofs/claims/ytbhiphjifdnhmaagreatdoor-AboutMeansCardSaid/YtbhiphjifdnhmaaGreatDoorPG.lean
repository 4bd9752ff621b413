import Derived.Test.YtbhiphjifdnhmaaGreatDoorPC
import Derived.Test.YtbhiphjifdnhmaaGreatDoorR2
set_option linter.unusedSimpArgs false
set_option linter.unusedVariables false
/- The reference: defined. -/
namespace Go.Proofs.YtbhiphjifdnhmaaGreatDoor
open Go.RowKit Go.Maps
set_option maxRecDepth 100000 in
set_option maxHeartbeats 2000000 in
theorem refName_any (s : ByteArray) (hs : s.size ≤ maxLen) (w : World) : Calls Tryz.prog 107 #[.string s] w fun e w' => e = .returned (.bool (nameB s)) ∧ w = w' := by
 have hsl : s.data.toList.length = s.size := by rw [Array.length_toList]; rfl
 obtain ⟨R, hR⟩ : ∃ R, R = nameB s := ⟨_, rfl⟩
 rw [← hR]
 have hr0 : Hid (R = ((decide (1 ≤ s.size) && decide (s.size ≤ 24)) && (s.data.toList.drop 0).all letB)) := Lib.hid hR
 have HL := Lib.hid hsl
 clear hR hsl
 go_enter Tryz.func107, Tryz.ntmps107
 go_wp2_with fail
 go_loopw [3] (fun t3 wq => ∃ k : Nat, k ≤ s.size ∧ t3 = .int .i64 k ∧ Hid (R = ((decide (1 ≤ s.size) && decide (s.size ≤ 24)) && (s.data.toList.drop k).all letB)) ∧ w = wq) (fun t3 _ => s.size - (intOf t3).toNat)
 case atStart => exact ⟨0, by omega, rfl, hr0, rfl⟩
 case round =>
  obtain ⟨k, hk, rfl, hRk, rfl⟩ := hrel
  clear hr0
  by_cases hlt : k < s.size
  ·have hq : IntKind.i64.wrap ((k : Int) + 1) = (k : Int) + 1 := IntWalk.i64_in _ (by simp [maxLen] at hs; omega)
   have hdr : (s.data.toList.drop k).all letB = (letB (s[k]'hlt) && (s.data.toList.drop (k + 1)).all letB) := by
    rw [List.drop_eq_getElem_cons (by rw [HL.out]; exact hlt), List.all_cons]
    rfl
   have HD := Lib.hid hdr
   clear hdr
   by_cases c1 : 97 ≤ ((s[k]'hlt).toNat : Int)
   ·by_cases c2 : ((s[k]'hlt).toNat : Int) ≤ 122
    ·go_wp2
     go_roundw
     case rel => exact ⟨k + 1, by omega, by go_num, Lib.hid (by rw [hRk.out, HD.out]; simp only [letB, c1, c2, decide_true, Bool.and_self, Bool.true_and]), trivial⟩
     case measure => simp [intOf]; omega
    ·have hl : letB (s[k]'hlt) = false := by unfold letB; rw [decide_eq_false c2]; exact Bool.and_false _
     have HL2 := Lib.hid hl
     clear hl
     go_wp2
     go_ret
     exact ⟨ret_bool (by rw [hRk.out, HD.out, HL2.out]; simp), rfl⟩
   ·have hl : letB (s[k]'hlt) = false := by unfold letB; rw [decide_eq_false c1]; exact Bool.false_and _
    have HL2 := Lib.hid hl
    clear hl
    go_wp2
    go_ret
    exact ⟨ret_bool (by rw [hRk.out, HD.out, HL2.out]; simp), rfl⟩
  ·obtain rfl : k = s.size := by omega
   have hR1 : R = (decide (1 ≤ s.size) && decide (s.size ≤ 24)) := by rw [hRk.out, ← HL.out, List.drop_length]; simp
   have HR1 := Lib.hid hR1
   clear hR1
   by_cases h1 : 1 ≤ s.size
   ·have h1' : (1 : Int) ≤ (s.size : Int) := by omega
    by_cases h2 : s.size ≤ 24
    ·have h2' : (s.size : Int) ≤ 24 := by omega
     go_wp2
     go_ret
     exact ⟨ret_bool (by rw [HR1.out]; simp [h1, h2]), rfl⟩
    ·have h2' : ¬ (s.size : Int) ≤ 24 := by omega
     go_wp2
     go_ret
     exact ⟨ret_bool (by rw [HR1.out]; simp [h1, h2]), rfl⟩
   ·have h1' : ¬ (1 : Int) ≤ (s.size : Int) := by omega
    go_wp2
    go_ret
    exact ⟨ret_bool (by rw [HR1.out]; simp [h1]), rfl⟩
end Go.Proofs.YtbhiphjifdnhmaaGreatDoor
namespace Go.Proofs.YtbhiphjifdnhmaaGreatDoor
open Go.RowKit Go.Maps
set_option maxRecDepth 100000 in
set_option maxHeartbeats 40000000 in
theorem refDefined_any (d : Df) (w : World) (hs : d.name.size ≤ maxLen) (hos : d.of.size ≤ maxLen) (hws : d.wth.size ≤ maxLen) :
  Calls Tryz.prog 108 #[.agg (dfA d)] w fun e w' => e = .returned (.bool (formedB d)) ∧ Below w.heap.size w w' := by
 have kD0 := Blk.new w 60 (dfA d)
 have kN : Blk ((w.alloc (.cells (dfA d) 60)).alloc (.cells #[.int .i64 0, .int .i64 0, .int .i64 0, .int .i64 0, .int .i64 0, .int .i64 0, .int .i64 0, .int .i64 0, .int .i64 0, .int .i64 0, .int .i64 0, .int .i64 0, .int .i64 0, .int .i64 0, .int .i64 0, .int .i64 0, .int .i64 0, .int .i64 0, .int .i64 0, .int .i64 0, .int .i64 0, .int .i64 0, .int .i64 0, .int .i64 0] 26)) (w.heap.size + 1) 26 (va zeroV) := by rw [z24]; exact Blk.newAt (by simp)
 have kD := (kD0.alloc (.cells #[.int .i64 0, .int .i64 0, .int .i64 0, .int .i64 0, .int .i64 0, .int .i64 0, .int .i64 0, .int .i64 0, .int .i64 0, .int .i64 0, .int .i64 0, .int .i64 0, .int .i64 0, .int .i64 0, .int .i64 0, .int .i64 0, .int .i64 0, .int .i64 0, .int .i64 0, .int .i64 0, .int .i64 0, .int .i64 0, .int .i64 0, .int .i64 0] 26)).farRow (g' := w.heap.size + 1) (by omega) (va zeroV)
 have kZ := kN.setRow (va zeroV)
 have hb0 := below_new w (.cells (dfA d) 60)
 have hb1 : Below w.heap.size w (((w.alloc (.cells (dfA d) 60)).alloc (.cells #[.int .i64 0, .int .i64 0, .int .i64 0, .int .i64 0, .int .i64 0, .int .i64 0, .int .i64 0, .int .i64 0, .int .i64 0, .int .i64 0, .int .i64 0, .int .i64 0, .int .i64 0, .int .i64 0, .int .i64 0, .int .i64 0, .int .i64 0, .int .i64 0, .int .i64 0, .int .i64 0, .int .i64 0, .int .i64 0, .int .i64 0, .int .i64 0] 26)).setRow (w.heap.size + 1) (va zeroV)) := below_setRow (hb0.alloc (by simp) _) (Nat.le_succ _) _
 obtain ⟨d0, d1, d2, d3, d4⟩ := kD0.df
 obtain ⟨e0, e1, e2, e3, e4⟩ := kD.df
 obtain ⟨R, hR⟩ : ∃ R, R = formedB d := ⟨_, rfl⟩
 rw [← hR]
 unfold formedB at hR
 obtain ⟨BN, hn⟩ : ∃ B, nameB d.name = B := ⟨_, rfl⟩
 obtain ⟨BO, ho⟩ : ∃ B, nameB d.of = B := ⟨_, rfl⟩
 obtain ⟨BW, hw⟩ : ∃ B, nameB d.wth = B := ⟨_, rfl⟩
 have HN : Hid (∀ W, Calls Tryz.prog 107 #[.string d.name] W fun e w' => e = .returned (.bool BN) ∧ W = w') := by rw [← hn]; exact fun W => refName_any _ hs W
 have HO : Hid (∀ W, Calls Tryz.prog 107 #[.string d.of] W fun e w' => e = .returned (.bool BO) ∧ W = w') := by rw [← ho]; exact fun W => refName_any _ hos W
 have HW : Hid (∀ W, Calls Tryz.prog 107 #[.string d.wth] W fun e w' => e = .returned (.bool BW) ∧ W = w') := by rw [← hw]; exact fun W => refName_any _ hws W
 rw [hn, ho, hw] at hR
 clear hn ho hw
 cases BN
 ·have HR := Lib.hid (show R = false by rw [hR]; rfl)
  clear hR
  as_aux_lemma =>
   go_enter Tryz.func108, Tryz.ntmps108
   go_wp2_with (first
    | go_skip
    | (go_at_call 107; first | ((with_reducible refine (HN.out _).mono ?_); rintro e w1 ⟨rfl, rfl⟩) | ((with_reducible refine (HO.out _).mono ?_); rintro e w1 ⟨rfl, rfl⟩) | ((with_reducible refine (HW.out _).mono ?_); rintro e w1 ⟨rfl, rfl⟩))
    | (refine stV 6 28 rfl rfl kN (c := zeroV) rfl (by kernel_rfl) ?_)
    | (refine ldDaysG 42 (by rfl) rfl kD rfl ?_)
    | (refine ldDaysG 56 (by rfl) rfl kD rfl ?_)
    | (refine ldDaysG 69 (by rfl) rfl kD rfl ?_)
    | (refine ldVG 6 (by rfl) rfl kZ rfl ?_)
    | (refine wpl_eq26z (by rfl) (.tmp 70) (.tmp 71) _ rfl d.days zeroV rfl rfl ?_)
    | (go_at_call 43; refine (refCheck_any _ _).mono ?_; rw [HV.out]; rintro e w2 ⟨rfl, hb2⟩))
   go_ret
   exact ⟨ret_bool (by first | exact HR.out.symm | (rw [HR.out]; rfl)), by first | exact below_next hb1 hb1.size hb2 | exact hb1 | exact hb0⟩
 ·rw [Bool.true_and] at hR
  by_cases c1 : d.known < 0
  ·have k1d : decide (d.known < 0) = true := decide_eq_true c1
   have HR := Lib.hid (show R = false by rw [hR, show dayB d.known = false by simp [dayB]; omega]; rfl)
   clear hR
   as_aux_lemma =>
    go_enter Tryz.func108, Tryz.ntmps108
    go_wp2_with (first
     | go_skip
     | (go_at_call 107; first | ((with_reducible refine (HN.out _).mono ?_); rintro e w1 ⟨rfl, rfl⟩) | ((with_reducible refine (HO.out _).mono ?_); rintro e w1 ⟨rfl, rfl⟩) | ((with_reducible refine (HW.out _).mono ?_); rintro e w1 ⟨rfl, rfl⟩))
     | (refine stV 6 28 rfl rfl kN (c := zeroV) rfl (by kernel_rfl) ?_)
     | (refine ldDaysG 42 (by rfl) rfl kD rfl ?_)
     | (refine ldDaysG 56 (by rfl) rfl kD rfl ?_)
     | (refine ldDaysG 69 (by rfl) rfl kD rfl ?_)
     | (refine ldVG 6 (by rfl) rfl kZ rfl ?_)
     | (refine wpl_eq26z (by rfl) (.tmp 70) (.tmp 71) _ rfl d.days zeroV rfl rfl ?_)
     | (go_at_call 43; refine (refCheck_any _ _).mono ?_; rw [HV.out]; rintro e w2 ⟨rfl, hb2⟩))
    go_ret
    exact ⟨ret_bool (by first | exact HR.out.symm | (rw [HR.out]; rfl)), by first | exact below_next hb1 hb1.size hb2 | exact hb1 | exact hb0⟩
  ·have k1d : decide (d.known < 0) = false := decide_eq_false c1
   by_cases c2 : 730 < d.known
   ·have k2d : decide (730 < d.known) = true := decide_eq_true c2
    have HR := Lib.hid (show R = false by rw [hR, show dayB d.known = false by simp [dayB]; omega]; rfl)
    clear hR
    as_aux_lemma =>
     go_enter Tryz.func108, Tryz.ntmps108
     go_wp2_with (first
      | go_skip
      | (go_at_call 107; first | ((with_reducible refine (HN.out _).mono ?_); rintro e w1 ⟨rfl, rfl⟩) | ((with_reducible refine (HO.out _).mono ?_); rintro e w1 ⟨rfl, rfl⟩) | ((with_reducible refine (HW.out _).mono ?_); rintro e w1 ⟨rfl, rfl⟩))
      | (refine stV 6 28 rfl rfl kN (c := zeroV) rfl (by kernel_rfl) ?_)
      | (refine ldDaysG 42 (by rfl) rfl kD rfl ?_)
      | (refine ldDaysG 56 (by rfl) rfl kD rfl ?_)
      | (refine ldDaysG 69 (by rfl) rfl kD rfl ?_)
      | (refine ldVG 6 (by rfl) rfl kZ rfl ?_)
      | (refine wpl_eq26z (by rfl) (.tmp 70) (.tmp 71) _ rfl d.days zeroV rfl rfl ?_)
      | (go_at_call 43; refine (refCheck_any _ _).mono ?_; rw [HV.out]; rintro e w2 ⟨rfl, hb2⟩))
     go_ret
     exact ⟨ret_bool (by first | exact HR.out.symm | (rw [HR.out]; rfl)), by first | exact below_next hb1 hb1.size hb2 | exact hb1 | exact hb0⟩
   ·have k2d : decide (730 < d.known) = false := decide_eq_false c2
    rw [show dayB d.known = true by simp [dayB]; omega, Bool.true_and] at hR
    by_cases h1 : d.kind = 1
    ·rw [if_pos h1] at hR
     rw [h1] at d2 e2
     clear h1
     rcases Bool.eq_false_or_eq_true (emptyB d.of) with he | he
     ·rw [he, Bool.true_and] at hR
      obtain ⟨sof1, sof2⟩ := str_yes he
      clear he
      rcases Bool.eq_false_or_eq_true (emptyB d.wth) with he | he
      ·rw [he, Bool.true_and] at hR
       obtain ⟨swth1, swth2⟩ := str_yes he
       clear he
       cases hv : vok d.days
       all_goals
        have HR := Lib.hid (hR.trans hv)
        have HV := Lib.hid (show chkV d.days = _ by first | exact chkV_ok hv | exact chkV_no hv)
        clear hR hv
        as_aux_lemma =>
         go_enter Tryz.func108, Tryz.ntmps108
         go_wp2_with (first
          | go_skip
          | (go_at_call 107; first | ((with_reducible refine (HN.out _).mono ?_); rintro e w1 ⟨rfl, rfl⟩) | ((with_reducible refine (HO.out _).mono ?_); rintro e w1 ⟨rfl, rfl⟩) | ((with_reducible refine (HW.out _).mono ?_); rintro e w1 ⟨rfl, rfl⟩))
          | (refine stV 6 28 rfl rfl kN (c := zeroV) rfl (by kernel_rfl) ?_)
          | (refine ldDaysG 42 (by rfl) rfl kD rfl ?_)
          | (refine ldDaysG 56 (by rfl) rfl kD rfl ?_)
          | (refine ldDaysG 69 (by rfl) rfl kD rfl ?_)
          | (refine ldVG 6 (by rfl) rfl kZ rfl ?_)
          | (refine wpl_eq26z (by rfl) (.tmp 70) (.tmp 71) _ rfl d.days zeroV rfl rfl ?_)
          | (go_at_call 43; refine (refCheck_any _ _).mono ?_; rw [HV.out]; rintro e w2 ⟨rfl, hb2⟩))
         go_ret
         exact ⟨ret_bool (by first | exact HR.out.symm | (rw [HR.out]; rfl)), by first | exact below_next hb1 hb1.size hb2 | exact hb1 | exact hb0⟩
      ·have HR := Lib.hid (show R = false by rw [hR, he]; rfl)
       obtain ⟨swth1, swth2⟩ := str_no he
       clear he hR
       as_aux_lemma =>
        go_enter Tryz.func108, Tryz.ntmps108
        go_wp2_with (first
         | go_skip
         | (go_at_call 107; first | ((with_reducible refine (HN.out _).mono ?_); rintro e w1 ⟨rfl, rfl⟩) | ((with_reducible refine (HO.out _).mono ?_); rintro e w1 ⟨rfl, rfl⟩) | ((with_reducible refine (HW.out _).mono ?_); rintro e w1 ⟨rfl, rfl⟩))
         | (refine stV 6 28 rfl rfl kN (c := zeroV) rfl (by kernel_rfl) ?_)
         | (refine ldDaysG 42 (by rfl) rfl kD rfl ?_)
         | (refine ldDaysG 56 (by rfl) rfl kD rfl ?_)
         | (refine ldDaysG 69 (by rfl) rfl kD rfl ?_)
         | (refine ldVG 6 (by rfl) rfl kZ rfl ?_)
         | (refine wpl_eq26z (by rfl) (.tmp 70) (.tmp 71) _ rfl d.days zeroV rfl rfl ?_)
         | (go_at_call 43; refine (refCheck_any _ _).mono ?_; rw [HV.out]; rintro e w2 ⟨rfl, hb2⟩))
        go_ret
        exact ⟨ret_bool (by first | exact HR.out.symm | (rw [HR.out]; rfl)), by first | exact below_next hb1 hb1.size hb2 | exact hb1 | exact hb0⟩
     ·have HR := Lib.hid (show R = false by rw [hR, he]; rfl)
      obtain ⟨sof1, sof2⟩ := str_no he
      clear he hR
      as_aux_lemma =>
       go_enter Tryz.func108, Tryz.ntmps108
       go_wp2_with (first
        | go_skip
        | (go_at_call 107; first | ((with_reducible refine (HN.out _).mono ?_); rintro e w1 ⟨rfl, rfl⟩) | ((with_reducible refine (HO.out _).mono ?_); rintro e w1 ⟨rfl, rfl⟩) | ((with_reducible refine (HW.out _).mono ?_); rintro e w1 ⟨rfl, rfl⟩))
        | (refine stV 6 28 rfl rfl kN (c := zeroV) rfl (by kernel_rfl) ?_)
        | (refine ldDaysG 42 (by rfl) rfl kD rfl ?_)
        | (refine ldDaysG 56 (by rfl) rfl kD rfl ?_)
        | (refine ldDaysG 69 (by rfl) rfl kD rfl ?_)
        | (refine ldVG 6 (by rfl) rfl kZ rfl ?_)
        | (refine wpl_eq26z (by rfl) (.tmp 70) (.tmp 71) _ rfl d.days zeroV rfl rfl ?_)
        | (go_at_call 43; refine (refCheck_any _ _).mono ?_; rw [HV.out]; rintro e w2 ⟨rfl, hb2⟩))
       go_ret
       exact ⟨ret_bool (by first | exact HR.out.symm | (rw [HR.out]; rfl)), by first | exact below_next hb1 hb1.size hb2 | exact hb1 | exact hb0⟩
    ·rw [if_neg h1] at hR
     have k1 : (d.kind == 1) = false := by simp [h1]
     by_cases h2 : d.kind = 2
     ·rw [if_pos h2] at hR
      rw [h2] at d2 e2
      clear h1 h2 k1
      cases BO
      ·have HR := Lib.hid (show R = false by rw [hR]; rfl)
       clear hR
       as_aux_lemma =>
        go_enter Tryz.func108, Tryz.ntmps108
        go_wp2_with (first
         | go_skip
         | (go_at_call 107; first | ((with_reducible refine (HN.out _).mono ?_); rintro e w1 ⟨rfl, rfl⟩) | ((with_reducible refine (HO.out _).mono ?_); rintro e w1 ⟨rfl, rfl⟩) | ((with_reducible refine (HW.out _).mono ?_); rintro e w1 ⟨rfl, rfl⟩))
         | (refine stV 6 28 rfl rfl kN (c := zeroV) rfl (by kernel_rfl) ?_)
         | (refine ldDaysG 42 (by rfl) rfl kD rfl ?_)
         | (refine ldDaysG 56 (by rfl) rfl kD rfl ?_)
         | (refine ldDaysG 69 (by rfl) rfl kD rfl ?_)
         | (refine ldVG 6 (by rfl) rfl kZ rfl ?_)
         | (refine wpl_eq26z (by rfl) (.tmp 70) (.tmp 71) _ rfl d.days zeroV rfl rfl ?_)
         | (go_at_call 43; refine (refCheck_any _ _).mono ?_; rw [HV.out]; rintro e w2 ⟨rfl, hb2⟩))
        go_ret
        exact ⟨ret_bool (by first | exact HR.out.symm | (rw [HR.out]; rfl)), by first | exact below_next hb1 hb1.size hb2 | exact hb1 | exact hb0⟩
      ·rw [Bool.true_and] at hR
       rcases Bool.eq_false_or_eq_true (emptyB d.wth) with he | he
       ·rw [he, Bool.true_and] at hR
        obtain ⟨swth1, swth2⟩ := str_yes he
        clear he
        cases hv : vok d.days
        all_goals
         have HR := Lib.hid (hR.trans hv)
         have HV := Lib.hid (show chkV d.days = _ by first | exact chkV_ok hv | exact chkV_no hv)
         clear hR hv
         as_aux_lemma =>
          go_enter Tryz.func108, Tryz.ntmps108
          go_wp2_with (first
           | go_skip
           | (go_at_call 107; first | ((with_reducible refine (HN.out _).mono ?_); rintro e w1 ⟨rfl, rfl⟩) | ((with_reducible refine (HO.out _).mono ?_); rintro e w1 ⟨rfl, rfl⟩) | ((with_reducible refine (HW.out _).mono ?_); rintro e w1 ⟨rfl, rfl⟩))
           | (refine stV 6 28 rfl rfl kN (c := zeroV) rfl (by kernel_rfl) ?_)
           | (refine ldDaysG 42 (by rfl) rfl kD rfl ?_)
           | (refine ldDaysG 56 (by rfl) rfl kD rfl ?_)
           | (refine ldDaysG 69 (by rfl) rfl kD rfl ?_)
           | (refine ldVG 6 (by rfl) rfl kZ rfl ?_)
           | (refine wpl_eq26z (by rfl) (.tmp 70) (.tmp 71) _ rfl d.days zeroV rfl rfl ?_)
           | (go_at_call 43; refine (refCheck_any _ _).mono ?_; rw [HV.out]; rintro e w2 ⟨rfl, hb2⟩))
          go_ret
          exact ⟨ret_bool (by first | exact HR.out.symm | (rw [HR.out]; rfl)), by first | exact below_next hb1 hb1.size hb2 | exact hb1 | exact hb0⟩
       ·have HR := Lib.hid (show R = false by rw [hR, he]; rfl)
        obtain ⟨swth1, swth2⟩ := str_no he
        clear he hR
        as_aux_lemma =>
         go_enter Tryz.func108, Tryz.ntmps108
         go_wp2_with (first
          | go_skip
          | (go_at_call 107; first | ((with_reducible refine (HN.out _).mono ?_); rintro e w1 ⟨rfl, rfl⟩) | ((with_reducible refine (HO.out _).mono ?_); rintro e w1 ⟨rfl, rfl⟩) | ((with_reducible refine (HW.out _).mono ?_); rintro e w1 ⟨rfl, rfl⟩))
          | (refine stV 6 28 rfl rfl kN (c := zeroV) rfl (by kernel_rfl) ?_)
          | (refine ldDaysG 42 (by rfl) rfl kD rfl ?_)
          | (refine ldDaysG 56 (by rfl) rfl kD rfl ?_)
          | (refine ldDaysG 69 (by rfl) rfl kD rfl ?_)
          | (refine ldVG 6 (by rfl) rfl kZ rfl ?_)
          | (refine wpl_eq26z (by rfl) (.tmp 70) (.tmp 71) _ rfl d.days zeroV rfl rfl ?_)
          | (go_at_call 43; refine (refCheck_any _ _).mono ?_; rw [HV.out]; rintro e w2 ⟨rfl, hb2⟩))
         go_ret
         exact ⟨ret_bool (by first | exact HR.out.symm | (rw [HR.out]; rfl)), by first | exact below_next hb1 hb1.size hb2 | exact hb1 | exact hb0⟩
     ·rw [if_neg h2] at hR
      have k2 : (d.kind == 2) = false := by simp [h2]
      by_cases h3 : d.kind = 3 ∨ d.kind = 4
      ·rw [if_pos h3] at hR
       cases BO
       ·have HR := Lib.hid (show R = false by rw [hR]; rfl)
        clear hR
        rcases h3 with h3 | h3
        all_goals
         rw [h3] at d2 e2
         clear h1 h2 k1 k2 h3
         as_aux_lemma =>
          go_enter Tryz.func108, Tryz.ntmps108
          go_wp2_with (first
           | go_skip
           | (go_at_call 107; first | ((with_reducible refine (HN.out _).mono ?_); rintro e w1 ⟨rfl, rfl⟩) | ((with_reducible refine (HO.out _).mono ?_); rintro e w1 ⟨rfl, rfl⟩) | ((with_reducible refine (HW.out _).mono ?_); rintro e w1 ⟨rfl, rfl⟩))
           | (refine stV 6 28 rfl rfl kN (c := zeroV) rfl (by kernel_rfl) ?_)
           | (refine ldDaysG 42 (by rfl) rfl kD rfl ?_)
           | (refine ldDaysG 56 (by rfl) rfl kD rfl ?_)
           | (refine ldDaysG 69 (by rfl) rfl kD rfl ?_)
           | (refine ldVG 6 (by rfl) rfl kZ rfl ?_)
           | (refine wpl_eq26z (by rfl) (.tmp 70) (.tmp 71) _ rfl d.days zeroV rfl rfl ?_)
           | (go_at_call 43; refine (refCheck_any _ _).mono ?_; rw [HV.out]; rintro e w2 ⟨rfl, hb2⟩))
          go_ret
          exact ⟨ret_bool (by first | exact HR.out.symm | (rw [HR.out]; rfl)), by first | exact below_next hb1 hb1.size hb2 | exact hb1 | exact hb0⟩
       ·rw [Bool.true_and] at hR
        cases BW
        ·have HR := Lib.hid (show R = false by rw [hR]; rfl)
         clear hR
         rcases h3 with h3 | h3
         all_goals
          rw [h3] at d2 e2
          clear h1 h2 k1 k2 h3
          as_aux_lemma =>
           go_enter Tryz.func108, Tryz.ntmps108
           go_wp2_with (first
            | go_skip
            | (go_at_call 107; first | ((with_reducible refine (HN.out _).mono ?_); rintro e w1 ⟨rfl, rfl⟩) | ((with_reducible refine (HO.out _).mono ?_); rintro e w1 ⟨rfl, rfl⟩) | ((with_reducible refine (HW.out _).mono ?_); rintro e w1 ⟨rfl, rfl⟩))
            | (refine stV 6 28 rfl rfl kN (c := zeroV) rfl (by kernel_rfl) ?_)
            | (refine ldDaysG 42 (by rfl) rfl kD rfl ?_)
            | (refine ldDaysG 56 (by rfl) rfl kD rfl ?_)
            | (refine ldDaysG 69 (by rfl) rfl kD rfl ?_)
            | (refine ldVG 6 (by rfl) rfl kZ rfl ?_)
            | (refine wpl_eq26z (by rfl) (.tmp 70) (.tmp 71) _ rfl d.days zeroV rfl rfl ?_)
            | (go_at_call 43; refine (refCheck_any _ _).mono ?_; rw [HV.out]; rintro e w2 ⟨rfl, hb2⟩))
           go_ret
           exact ⟨ret_bool (by first | exact HR.out.symm | (rw [HR.out]; rfl)), by first | exact below_next hb1 hb1.size hb2 | exact hb1 | exact hb0⟩
        ·have HR := Lib.hid (show R = sameV d.days zeroV by rw [hR]; rfl)
         clear hR
         rcases h3 with h3 | h3
         all_goals
          rw [h3] at d2 e2
          clear h1 h2 k1 k2 h3
          as_aux_lemma =>
           go_enter Tryz.func108, Tryz.ntmps108
           go_wp2_with (first
            | go_skip
            | (go_at_call 107; first | ((with_reducible refine (HN.out _).mono ?_); rintro e w1 ⟨rfl, rfl⟩) | ((with_reducible refine (HO.out _).mono ?_); rintro e w1 ⟨rfl, rfl⟩) | ((with_reducible refine (HW.out _).mono ?_); rintro e w1 ⟨rfl, rfl⟩))
            | (refine stV 6 28 rfl rfl kN (c := zeroV) rfl (by kernel_rfl) ?_)
            | (refine ldDaysG 42 (by rfl) rfl kD rfl ?_)
            | (refine ldDaysG 56 (by rfl) rfl kD rfl ?_)
            | (refine ldDaysG 69 (by rfl) rfl kD rfl ?_)
            | (refine ldVG 6 (by rfl) rfl kZ rfl ?_)
            | (refine wpl_eq26z (by rfl) (.tmp 70) (.tmp 71) _ rfl d.days zeroV rfl rfl ?_)
            | (go_at_call 43; refine (refCheck_any _ _).mono ?_; rw [HV.out]; rintro e w2 ⟨rfl, hb2⟩))
           go_ret
           exact ⟨ret_bool (by first | exact HR.out.symm | (rw [HR.out]; rfl)), by first | exact below_next hb1 hb1.size hb2 | exact hb1 | exact hb0⟩
      ·rw [if_neg h3] at hR
       have HR := Lib.hid hR
       clear hR
       have k3 : (d.kind == 3) = false := by simp; omega
       have k4 : (d.kind == 4) = false := by simp; omega
       have h3' : ¬ d.kind = 3 := by omega
       have h4' : ¬ d.kind = 4 := by omega
       as_aux_lemma =>
        go_enter Tryz.func108, Tryz.ntmps108
        go_wp2_with (first
         | go_skip
         | (go_at_call 107; first | ((with_reducible refine (HN.out _).mono ?_); rintro e w1 ⟨rfl, rfl⟩) | ((with_reducible refine (HO.out _).mono ?_); rintro e w1 ⟨rfl, rfl⟩) | ((with_reducible refine (HW.out _).mono ?_); rintro e w1 ⟨rfl, rfl⟩))
         | (refine stV 6 28 rfl rfl kN (c := zeroV) rfl (by kernel_rfl) ?_)
         | (refine ldDaysG 42 (by rfl) rfl kD rfl ?_)
         | (refine ldDaysG 56 (by rfl) rfl kD rfl ?_)
         | (refine ldDaysG 69 (by rfl) rfl kD rfl ?_)
         | (refine ldVG 6 (by rfl) rfl kZ rfl ?_)
         | (refine wpl_eq26z (by rfl) (.tmp 70) (.tmp 71) _ rfl d.days zeroV rfl rfl ?_)
         | (go_at_call 43; refine (refCheck_any _ _).mono ?_; rw [HV.out]; rintro e w2 ⟨rfl, hb2⟩))
        go_ret
        exact ⟨ret_bool (by first | exact HR.out.symm | (rw [HR.out]; rfl)), by first | exact below_next hb1 hb1.size hb2 | exact hb1 | exact hb0⟩
end Go.Proofs.YtbhiphjifdnhmaaGreatDoor
