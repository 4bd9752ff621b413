import Derived.Test.YtbhiphjifdnhmaaGreatDoorK24
/- AboutNests. -/
namespace Go.Proofs.YtbhiphjifdnhmaaGreatDoor
open Go.RowKit Go.Maps
set_option linter.unusedSimpArgs false

set_option maxRecDepth 100000 in
set_option maxHeartbeats 8000000 in
theorem law3_in (hS : Hid SanityIs) (a b X1 X2 X3 X4 X5 : Nat → Int) (n lo hi wider d E1 E2 E3 E4 E5 K G clo chi : Int) (w0 : World)
    (HA : Hid (chkV a = 0)) (HB : Hid (chkV b = 0))
    (H1 : Hid (∀ W, Calls Tryz.prog 16 #[.agg (va a), .agg (va b)] W (RetV W X1 E1))) (H2 : Hid (∀ W, Calls Tryz.prog 17 #[.agg (va a), .agg (va b)] W (RetV W X2 E2)))
    (H3 : Hid (∀ W, Calls Tryz.prog 18 #[.agg (va a), .agg (va b)] W fun e w' => e = .returned (.tuple #[.agg (va X3), .int .i64 K, .int .i64 E3]) ∧ Below W.heap.size W w'))
    (H4 : Hid (∀ W, Calls Tryz.prog 19 #[.agg (va a), .agg (va b)] W (RetV W X4 E4))) (H5 : Hid (∀ W, Calls Tryz.prog 20 #[.agg #[.int .i64 lo, .int .i64 hi], .int .i64 wider] W (RetV W X5 E5)))
    (C1 : Hid (E1 = 0 → chkV X1 = 0)) (C2 : Hid (E2 = 0 → chkV X2 = 0)) (C3 : Hid (E3 = 0 → chkV X3 = 0 ∧ 1 ≤ K ∧ K ≤ 12)) (C4 : Hid (E4 = 0 ∧ chkV X4 = 0)) (C5 : Hid (E5 = 0 → chkV X5 = 0))
    (hd : 0 ≤ d ∧ d ≤ 255) (HC : Hid (∀ W, Calls Tryz.prog 21 #[.agg (va a), .int .i64 (1 + d % 12)] W (RetS W (clo, chi) 0))) (HG : Hid (∀ W, Calls Tryz.prog 22 #[.agg (va a), .int .i64 n] W fun e w' => e = .returned (.tuple #[.int .i64 G, .int .i64 0]) ∧ Below W.heap.size W w'))
    (hG : Hid ((decide (clo ≤ n) && decide (n ≤ chi)) = decide (1 + d % 12 ≤ G))) :
    Calls Tryz.prog 3 #[.agg (va a), .agg (va b), .int .i64 n, .agg #[.int .i64 lo, .int .i64 hi], .int .i64 wider, .int .u8 d] w0 fun e w' => e = .returned (.bool true) ∧ Below w0.heap.size w0 w' := by
  obtain ⟨hd1, hd2⟩ := hd
  have hK : AllB (((w0.alloc (.cells (va a) 26)).alloc (.cells (va b) 26)).alloc (.cells #[.int .i64 lo, .int .i64 hi] 23)) [(w0.heap.size, 26, va a), (w0.heap.size + 1, 26, va b), (w0.heap.size + 2, 23, #[.int .i64 lo, .int .i64 hi])] := by
    intro q hq
    simp only [List.mem_cons, List.not_mem_nil, or_false] at hq
    rcases hq with rfl | rfl | rfl
    · exact ((Blk.new _ _ _).alloc _).alloc _
    · exact (Blk.newAt (by simp)).alloc _
    · exact Blk.newAt (by simp)
  have hW : Below w0.heap.size w0 (((w0.alloc (.cells (va a) 26)).alloc (.cells (va b) 26)).alloc (.cells #[.int .i64 lo, .int .i64 hi] 23)) := ((below_new _ _).alloc (by simp) _).alloc (by simp; omega) _
  go_enter Tryz.func3, Tryz.ntmps3
  go_upto_region 8 with (first
    | (refine ldV 6 rfl rfl (hK.get 0 rfl) rfl ?_)
    | (refine ldV 7 rfl rfl (hK.get 1 rfl) rfl ?_)
    | (refine ldVG 6 (by rfl) rfl (hK.get 0 rfl) rfl ?_)
    | (refine ldVG 7 (by rfl) rfl (hK.get 1 rfl) rfl ?_)
    | (go_at_call 14; refine (check_any _ _).mono ?_; (first | rw [HA.out] | rw [HB.out]); rintro e w ⟨rfl, hb⟩; replace hW := below_next hW hW.size hb; replace hK := hK.below hb; clear hb)
    | (go_at_call 16; refine (H1.out _).mono ?_; rintro e w1 ⟨rfl, hb⟩; replace hW := (below_next hW hW.size hb).trans ((below26 w1 X1).mono (below_next hW hW.size hb).size); replace hK := (hK.below hb).push (below26 w1 X1) (new26 w1 X1); clear hb; have kN := new26z w1)
    | (go_at_call 17; refine (H2.out _).mono ?_; rintro e w2 ⟨rfl, hb⟩; replace hW := (below_next hW hW.size hb).trans ((below26 w2 X2).mono (below_next hW hW.size hb).size); replace hK := (hK.below hb).push (below26 w2 X2) (new26 w2 X2); clear hb; have kN := new26z w2)
    | (go_at_call 18; refine (H3.out _).mono ?_; rintro e w3 ⟨rfl, hb⟩; replace hW := (below_next hW hW.size hb).trans ((below26 w3 X3).mono (below_next hW hW.size hb).size); replace hK := (hK.below hb).push (below26 w3 X3) (new26 w3 X3); clear hb; have kN := new26z w3)
    | (go_at_call 19; refine (H4.out _).mono ?_; rintro e w4 ⟨rfl, hb⟩; replace hW := (below_next hW hW.size hb).trans ((below26 w4 X4).mono (below_next hW hW.size hb).size); replace hK := (hK.below hb).push (below26 w4 X4) (new26 w4 X4); clear hb; have kN := new26z w4)
    | (go_at_call 20; refine (H5.out _).mono ?_; rintro e w5 ⟨rfl, hb⟩; replace hW := (below_next hW hW.size hb).trans ((below26 w5 X5).mono (below_next hW hW.size hb).size); replace hK := (hK.below hb).push (below26 w5 X5) (new26 w5 X5); clear hb; have kN := new26z w5)
    | (refine stV _ _ rfl rfl kN rfl rfl ?_)
    | (refine ldSp 9 rfl rfl (hK.get 2 rfl) rfl ?_))
  replace hK : AllB _ [(w0.heap.size, 26, va a), (w0.heap.size + 1, 26, va b), (w0.heap.size + 2, 23, #[.int .i64 lo, .int .i64 hi]), (w1.heap.size, 26, va X1), (w2.heap.size, 26, va X2), (w3.heap.size, 26, va X3), (w4.heap.size, 26, va X4), (w5.heap.size, 26, va X5)] := hK
  go_cut [119] (fun s wx => s = .bool false ∧ AllB wx [(w0.heap.size, 26, va a), (w0.heap.size + 1, 26, va b), (w0.heap.size + 2, 23, #[.int .i64 lo, .int .i64 hi]), (w1.heap.size, 26, va X1), (w2.heap.size, 26, va X2), (w3.heap.size, 26, va X3), (w4.heap.size, 26, va X4), (w5.heap.size, 26, va X5)] ∧ Below w0.heap.size w0 wx)
  case first =>
    clear H1 H2 H3 H4 H5 HC HG hG kN hS
    obtain ⟨hE4, hX4⟩ := C4.out
    subst hE4
    replace C4 := Lib.hid hX4
    clear hX4
    by_cases hh0 : E1 = 0
    · subst hh0
      replace C1 := Lib.hid (C1.out rfl)
      by_cases hh1 : E2 = 0
      · subst hh1
        replace C2 := Lib.hid (C2.out rfl)
        by_cases hh2 : E3 = 0
        · subst hh2
          obtain ⟨c3, k1, k2⟩ := C3.out rfl
          replace C3 := Lib.hid c3
          have k3 : decide (K < 1) = false := decide_eq_false (by omega)
          have k4 : decide (12 < K) = false := decide_eq_false (by omega)
          clear c3
          by_cases hh3 : E5 = 0
          · subst hh3
            replace C5 := Lib.hid (C5.out rfl)
            go_wp2_with (first
              | go_skip
              | (refine ldVG 13 (by rfl) rfl (hK.get 3 rfl) rfl ?_)
              | (refine ldVG 15 (by rfl) rfl (hK.get 4 rfl) rfl ?_)
              | (refine ldVG 17 (by rfl) rfl (hK.get 5 rfl) rfl ?_)
              | (refine ldVG 20 (by rfl) rfl (hK.get 6 rfl) rfl ?_)
              | (refine ldVG 22 (by rfl) rfl (hK.get 7 rfl) rfl ?_)
              | (go_at_call 14; refine (check_any _ _).mono ?_; (first | rw [C1.out] | rw [C2.out] | rw [C3.out] | rw [C5.out] | rw [C4.out]); rintro e w ⟨rfl, hb⟩; replace hW := below_next hW hW.size hb; replace hK := hK.below hb; clear hb))
            go_meet
            exact ⟨rfl, hK, hW⟩
          · have g3 : (E5 == 0) = false := by simp [hh3]
            clear hh3 C5
            go_wp2_with (first
              | go_skip
              | (refine ldVG 13 (by rfl) rfl (hK.get 3 rfl) rfl ?_)
              | (refine ldVG 15 (by rfl) rfl (hK.get 4 rfl) rfl ?_)
              | (refine ldVG 17 (by rfl) rfl (hK.get 5 rfl) rfl ?_)
              | (refine ldVG 20 (by rfl) rfl (hK.get 6 rfl) rfl ?_)
              | (go_at_call 14; refine (check_any _ _).mono ?_; (first | rw [C1.out] | rw [C2.out] | rw [C3.out] | rw [C4.out]); rintro e w ⟨rfl, hb⟩; replace hW := below_next hW hW.size hb; replace hK := hK.below hb; clear hb))
            go_meet
            exact ⟨rfl, hK, hW⟩
        · have g2 : (E3 == 0) = false := by simp [hh2]
          clear hh2 C3
          by_cases hh3 : E5 = 0
          · subst hh3
            replace C5 := Lib.hid (C5.out rfl)
            go_wp2_with (first
              | go_skip
              | (refine ldVG 13 (by rfl) rfl (hK.get 3 rfl) rfl ?_)
              | (refine ldVG 15 (by rfl) rfl (hK.get 4 rfl) rfl ?_)
              | (refine ldVG 20 (by rfl) rfl (hK.get 6 rfl) rfl ?_)
              | (refine ldVG 22 (by rfl) rfl (hK.get 7 rfl) rfl ?_)
              | (go_at_call 14; refine (check_any _ _).mono ?_; (first | rw [C1.out] | rw [C2.out] | rw [C5.out] | rw [C4.out]); rintro e w ⟨rfl, hb⟩; replace hW := below_next hW hW.size hb; replace hK := hK.below hb; clear hb))
            go_meet
            exact ⟨rfl, hK, hW⟩
          · have g3 : (E5 == 0) = false := by simp [hh3]
            clear hh3 C5
            go_wp2_with (first
              | go_skip
              | (refine ldVG 13 (by rfl) rfl (hK.get 3 rfl) rfl ?_)
              | (refine ldVG 15 (by rfl) rfl (hK.get 4 rfl) rfl ?_)
              | (refine ldVG 20 (by rfl) rfl (hK.get 6 rfl) rfl ?_)
              | (go_at_call 14; refine (check_any _ _).mono ?_; (first | rw [C1.out] | rw [C2.out] | rw [C4.out]); rintro e w ⟨rfl, hb⟩; replace hW := below_next hW hW.size hb; replace hK := hK.below hb; clear hb))
            go_meet
            exact ⟨rfl, hK, hW⟩
      · have g1 : (E2 == 0) = false := by simp [hh1]
        clear hh1 C2
        by_cases hh2 : E3 = 0
        · subst hh2
          obtain ⟨c3, k1, k2⟩ := C3.out rfl
          replace C3 := Lib.hid c3
          have k3 : decide (K < 1) = false := decide_eq_false (by omega)
          have k4 : decide (12 < K) = false := decide_eq_false (by omega)
          clear c3
          by_cases hh3 : E5 = 0
          · subst hh3
            replace C5 := Lib.hid (C5.out rfl)
            go_wp2_with (first
              | go_skip
              | (refine ldVG 13 (by rfl) rfl (hK.get 3 rfl) rfl ?_)
              | (refine ldVG 17 (by rfl) rfl (hK.get 5 rfl) rfl ?_)
              | (refine ldVG 20 (by rfl) rfl (hK.get 6 rfl) rfl ?_)
              | (refine ldVG 22 (by rfl) rfl (hK.get 7 rfl) rfl ?_)
              | (go_at_call 14; refine (check_any _ _).mono ?_; (first | rw [C1.out] | rw [C3.out] | rw [C5.out] | rw [C4.out]); rintro e w ⟨rfl, hb⟩; replace hW := below_next hW hW.size hb; replace hK := hK.below hb; clear hb))
            go_meet
            exact ⟨rfl, hK, hW⟩
          · have g3 : (E5 == 0) = false := by simp [hh3]
            clear hh3 C5
            go_wp2_with (first
              | go_skip
              | (refine ldVG 13 (by rfl) rfl (hK.get 3 rfl) rfl ?_)
              | (refine ldVG 17 (by rfl) rfl (hK.get 5 rfl) rfl ?_)
              | (refine ldVG 20 (by rfl) rfl (hK.get 6 rfl) rfl ?_)
              | (go_at_call 14; refine (check_any _ _).mono ?_; (first | rw [C1.out] | rw [C3.out] | rw [C4.out]); rintro e w ⟨rfl, hb⟩; replace hW := below_next hW hW.size hb; replace hK := hK.below hb; clear hb))
            go_meet
            exact ⟨rfl, hK, hW⟩
        · have g2 : (E3 == 0) = false := by simp [hh2]
          clear hh2 C3
          by_cases hh3 : E5 = 0
          · subst hh3
            replace C5 := Lib.hid (C5.out rfl)
            go_wp2_with (first
              | go_skip
              | (refine ldVG 13 (by rfl) rfl (hK.get 3 rfl) rfl ?_)
              | (refine ldVG 20 (by rfl) rfl (hK.get 6 rfl) rfl ?_)
              | (refine ldVG 22 (by rfl) rfl (hK.get 7 rfl) rfl ?_)
              | (go_at_call 14; refine (check_any _ _).mono ?_; (first | rw [C1.out] | rw [C5.out] | rw [C4.out]); rintro e w ⟨rfl, hb⟩; replace hW := below_next hW hW.size hb; replace hK := hK.below hb; clear hb))
            go_meet
            exact ⟨rfl, hK, hW⟩
          · have g3 : (E5 == 0) = false := by simp [hh3]
            clear hh3 C5
            go_wp2_with (first
              | go_skip
              | (refine ldVG 13 (by rfl) rfl (hK.get 3 rfl) rfl ?_)
              | (refine ldVG 20 (by rfl) rfl (hK.get 6 rfl) rfl ?_)
              | (go_at_call 14; refine (check_any _ _).mono ?_; (first | rw [C1.out] | rw [C4.out]); rintro e w ⟨rfl, hb⟩; replace hW := below_next hW hW.size hb; replace hK := hK.below hb; clear hb))
            go_meet
            exact ⟨rfl, hK, hW⟩
    · have g0 : (E1 == 0) = false := by simp [hh0]
      clear hh0 C1
      by_cases hh1 : E2 = 0
      · subst hh1
        replace C2 := Lib.hid (C2.out rfl)
        by_cases hh2 : E3 = 0
        · subst hh2
          obtain ⟨c3, k1, k2⟩ := C3.out rfl
          replace C3 := Lib.hid c3
          have k3 : decide (K < 1) = false := decide_eq_false (by omega)
          have k4 : decide (12 < K) = false := decide_eq_false (by omega)
          clear c3
          by_cases hh3 : E5 = 0
          · subst hh3
            replace C5 := Lib.hid (C5.out rfl)
            go_wp2_with (first
              | go_skip
              | (refine ldVG 15 (by rfl) rfl (hK.get 4 rfl) rfl ?_)
              | (refine ldVG 17 (by rfl) rfl (hK.get 5 rfl) rfl ?_)
              | (refine ldVG 20 (by rfl) rfl (hK.get 6 rfl) rfl ?_)
              | (refine ldVG 22 (by rfl) rfl (hK.get 7 rfl) rfl ?_)
              | (go_at_call 14; refine (check_any _ _).mono ?_; (first | rw [C2.out] | rw [C3.out] | rw [C5.out] | rw [C4.out]); rintro e w ⟨rfl, hb⟩; replace hW := below_next hW hW.size hb; replace hK := hK.below hb; clear hb))
            go_meet
            exact ⟨rfl, hK, hW⟩
          · have g3 : (E5 == 0) = false := by simp [hh3]
            clear hh3 C5
            go_wp2_with (first
              | go_skip
              | (refine ldVG 15 (by rfl) rfl (hK.get 4 rfl) rfl ?_)
              | (refine ldVG 17 (by rfl) rfl (hK.get 5 rfl) rfl ?_)
              | (refine ldVG 20 (by rfl) rfl (hK.get 6 rfl) rfl ?_)
              | (go_at_call 14; refine (check_any _ _).mono ?_; (first | rw [C2.out] | rw [C3.out] | rw [C4.out]); rintro e w ⟨rfl, hb⟩; replace hW := below_next hW hW.size hb; replace hK := hK.below hb; clear hb))
            go_meet
            exact ⟨rfl, hK, hW⟩
        · have g2 : (E3 == 0) = false := by simp [hh2]
          clear hh2 C3
          by_cases hh3 : E5 = 0
          · subst hh3
            replace C5 := Lib.hid (C5.out rfl)
            go_wp2_with (first
              | go_skip
              | (refine ldVG 15 (by rfl) rfl (hK.get 4 rfl) rfl ?_)
              | (refine ldVG 20 (by rfl) rfl (hK.get 6 rfl) rfl ?_)
              | (refine ldVG 22 (by rfl) rfl (hK.get 7 rfl) rfl ?_)
              | (go_at_call 14; refine (check_any _ _).mono ?_; (first | rw [C2.out] | rw [C5.out] | rw [C4.out]); rintro e w ⟨rfl, hb⟩; replace hW := below_next hW hW.size hb; replace hK := hK.below hb; clear hb))
            go_meet
            exact ⟨rfl, hK, hW⟩
          · have g3 : (E5 == 0) = false := by simp [hh3]
            clear hh3 C5
            go_wp2_with (first
              | go_skip
              | (refine ldVG 15 (by rfl) rfl (hK.get 4 rfl) rfl ?_)
              | (refine ldVG 20 (by rfl) rfl (hK.get 6 rfl) rfl ?_)
              | (go_at_call 14; refine (check_any _ _).mono ?_; (first | rw [C2.out] | rw [C4.out]); rintro e w ⟨rfl, hb⟩; replace hW := below_next hW hW.size hb; replace hK := hK.below hb; clear hb))
            go_meet
            exact ⟨rfl, hK, hW⟩
      · have g1 : (E2 == 0) = false := by simp [hh1]
        clear hh1 C2
        by_cases hh2 : E3 = 0
        · subst hh2
          obtain ⟨c3, k1, k2⟩ := C3.out rfl
          replace C3 := Lib.hid c3
          have k3 : decide (K < 1) = false := decide_eq_false (by omega)
          have k4 : decide (12 < K) = false := decide_eq_false (by omega)
          clear c3
          by_cases hh3 : E5 = 0
          · subst hh3
            replace C5 := Lib.hid (C5.out rfl)
            go_wp2_with (first
              | go_skip
              | (refine ldVG 17 (by rfl) rfl (hK.get 5 rfl) rfl ?_)
              | (refine ldVG 20 (by rfl) rfl (hK.get 6 rfl) rfl ?_)
              | (refine ldVG 22 (by rfl) rfl (hK.get 7 rfl) rfl ?_)
              | (go_at_call 14; refine (check_any _ _).mono ?_; (first | rw [C3.out] | rw [C5.out] | rw [C4.out]); rintro e w ⟨rfl, hb⟩; replace hW := below_next hW hW.size hb; replace hK := hK.below hb; clear hb))
            go_meet
            exact ⟨rfl, hK, hW⟩
          · have g3 : (E5 == 0) = false := by simp [hh3]
            clear hh3 C5
            go_wp2_with (first
              | go_skip
              | (refine ldVG 17 (by rfl) rfl (hK.get 5 rfl) rfl ?_)
              | (refine ldVG 20 (by rfl) rfl (hK.get 6 rfl) rfl ?_)
              | (go_at_call 14; refine (check_any _ _).mono ?_; (first | rw [C3.out] | rw [C4.out]); rintro e w ⟨rfl, hb⟩; replace hW := below_next hW hW.size hb; replace hK := hK.below hb; clear hb))
            go_meet
            exact ⟨rfl, hK, hW⟩
        · have g2 : (E3 == 0) = false := by simp [hh2]
          clear hh2 C3
          by_cases hh3 : E5 = 0
          · subst hh3
            replace C5 := Lib.hid (C5.out rfl)
            go_wp2_with (first
              | go_skip
              | (refine ldVG 20 (by rfl) rfl (hK.get 6 rfl) rfl ?_)
              | (refine ldVG 22 (by rfl) rfl (hK.get 7 rfl) rfl ?_)
              | (go_at_call 14; refine (check_any _ _).mono ?_; (first | rw [C5.out] | rw [C4.out]); rintro e w ⟨rfl, hb⟩; replace hW := below_next hW hW.size hb; replace hK := hK.below hb; clear hb))
            go_meet
            exact ⟨rfl, hK, hW⟩
          · have g3 : (E5 == 0) = false := by simp [hh3]
            clear hh3 C5
            go_wp2_with (first
              | go_skip
              | (refine ldVG 20 (by rfl) rfl (hK.get 6 rfl) rfl ?_)
              | (go_at_call 14; refine (check_any _ _).mono ?_; (first | rw [C4.out]); rintro e w ⟨rfl, hb⟩; replace hW := below_next hW hW.size hb; replace hK := hK.below hb; clear hb))
            go_meet
            exact ⟨rfl, hK, hW⟩
  case rest =>
    obtain ⟨rfl, hK, hW⟩ := hcut
    clear H1 H2 H3 H4 H5 C1 C2 C3 C4 C5 HA HB
    have t1 : 0 ≤ d % 12 := Int.emod_nonneg _ (by decide)
    have t2 : d % 12 < 12 := Int.emod_lt_of_pos _ (by decide)
    by_cases l1 : clo ≤ n
    · by_cases l2 : n ≤ chi
      · have l3 : 1 + d % 12 ≤ G := by have := hG.out; simpa [l1, l2] using this
        clear hG
        go_wp2_with (first
          | go_skip
          | (refine ldV 6 rfl rfl (hK.get 0 rfl) rfl ?_)
          | (go_at_call 21; refine (HC.out _).mono ?_; rintro e wC ⟨rfl, hb⟩; replace hW := (below_next hW hW.size hb).alloc (below_next hW hW.size hb).size (.cells #[.int .i64 clo, .int .i64 chi] 23); replace hK := (hK.below hb).push (below_new wC (.cells #[.int .i64 clo, .int .i64 chi] 23)) (Blk.new wC 23 #[.int .i64 clo, .int .i64 chi]); clear hb)
          | (go_at_call 22; refine (HG.out _).mono ?_; rintro e w ⟨rfl, hb⟩; replace hW := below_next hW hW.size hb; replace hK := hK.below hb; clear hb)
          | (go_at_call 15; refine (hS.out _).mono ?_; rintro e wE ⟨rfl, hb⟩; replace hW := below_next hW hW.size hb; replace hK := hK.below hb; clear hb; have c0 : wE.cell? ⟨wC.heap.size, 0, none⟩ = some (.int .i64 clo) := (hK.get 8 rfl).cell 0; have c1 : wE.cell? ⟨wC.heap.size, 1, none⟩ = some (.int .i64 chi) := (hK.get 8 rfl).cell 1))
        go_ret
        exact ⟨ret_bool (by first | (simp; omega) | simp [l2, l3]), hW⟩
      · have l3 : ¬ 1 + d % 12 ≤ G := by have := hG.out; simpa [l1, l2] using this
        clear hG
        go_wp2_with (first
          | go_skip
          | (refine ldV 6 rfl rfl (hK.get 0 rfl) rfl ?_)
          | (go_at_call 21; refine (HC.out _).mono ?_; rintro e wC ⟨rfl, hb⟩; replace hW := (below_next hW hW.size hb).alloc (below_next hW hW.size hb).size (.cells #[.int .i64 clo, .int .i64 chi] 23); replace hK := (hK.below hb).push (below_new wC (.cells #[.int .i64 clo, .int .i64 chi] 23)) (Blk.new wC 23 #[.int .i64 clo, .int .i64 chi]); clear hb)
          | (go_at_call 22; refine (HG.out _).mono ?_; rintro e w ⟨rfl, hb⟩; replace hW := below_next hW hW.size hb; replace hK := hK.below hb; clear hb)
          | (go_at_call 15; refine (hS.out _).mono ?_; rintro e wE ⟨rfl, hb⟩; replace hW := below_next hW hW.size hb; replace hK := hK.below hb; clear hb; have c0 : wE.cell? ⟨wC.heap.size, 0, none⟩ = some (.int .i64 clo) := (hK.get 8 rfl).cell 0; have c1 : wE.cell? ⟨wC.heap.size, 1, none⟩ = some (.int .i64 chi) := (hK.get 8 rfl).cell 1))
        go_ret
        exact ⟨ret_bool (by first | (simp; omega) | simp [l2, l3]), hW⟩
    · have l3 : ¬ 1 + d % 12 ≤ G := by have := hG.out; simpa [l1] using this
      clear hG
      go_wp2_with (first
        | go_skip
        | (refine ldV 6 rfl rfl (hK.get 0 rfl) rfl ?_)
        | (go_at_call 21; refine (HC.out _).mono ?_; rintro e wC ⟨rfl, hb⟩; replace hW := (below_next hW hW.size hb).alloc (below_next hW hW.size hb).size (.cells #[.int .i64 clo, .int .i64 chi] 23); replace hK := (hK.below hb).push (below_new wC (.cells #[.int .i64 clo, .int .i64 chi] 23)) (Blk.new wC 23 #[.int .i64 clo, .int .i64 chi]); clear hb)
        | (go_at_call 22; refine (HG.out _).mono ?_; rintro e w ⟨rfl, hb⟩; replace hW := below_next hW hW.size hb; replace hK := hK.below hb; clear hb)
        | (go_at_call 15; refine (hS.out _).mono ?_; rintro e wE ⟨rfl, hb⟩; replace hW := below_next hW hW.size hb; replace hK := hK.below hb; clear hb; have c0 : wE.cell? ⟨wC.heap.size, 0, none⟩ = some (.int .i64 clo) := (hK.get 8 rfl).cell 0; have c1 : wE.cell? ⟨wC.heap.size, 1, none⟩ = some (.int .i64 chi) := (hK.get 8 rfl).cell 1))
      go_ret
      exact ⟨ret_bool (by first | (simp; omega) | simp [l3]), hW⟩
set_option maxRecDepth 100000 in
set_option maxHeartbeats 2000000 in
theorem law3_bad (hS : Hid SanityIs) (a b : Nat → Int) (n lo hi wider d : Int) (w : World) (ho : ¬ (vok a = true ∧ vok b = true)) :
    Calls Tryz.prog 3 #[.agg (va a), .agg (va b), .int .i64 n, .agg #[.int .i64 lo, .int .i64 hi], .int .i64 wider, .int .u8 d] w fun e w' => e = .returned (.bool true) ∧ Below w.heap.size w w' := by
  have hK : AllB (((w.alloc (.cells (va a) 26)).alloc (.cells (va b) 26)).alloc (.cells (#[.int .i64 lo, .int .i64 hi]) 23)) [(w.heap.size, 26, va a), (w.heap.size + 1, 26, va b), (w.heap.size + 2, 23, #[.int .i64 lo, .int .i64 hi])] := by
    intro q hq
    simp only [List.mem_cons, List.not_mem_nil, or_false] at hq
    rcases hq with rfl | rfl | rfl
    · exact (((Blk.new _ _ _).alloc _).alloc _)
    · exact ((Blk.newAt (by simp)).alloc _)
    · exact (Blk.newAt (by simp))
  have hW : Below w.heap.size w (((w.alloc (.cells (va a) 26)).alloc (.cells (va b) 26)).alloc (.cells (#[.int .i64 lo, .int .i64 hi]) 23)) := ((below_new _ _).alloc (by simp) _).alloc (by simp; omega) _
  cases ha : vok a
  · have HA := Lib.hid (chkV_no ha)
    clear ha ho
    go_enter Tryz.func3, Tryz.ntmps3
    go_wp2_with (first
      | go_skip
      | (refine ldV 6 rfl rfl (hK.get 0 rfl) rfl ?_)
      | (go_at_call 14; refine (check_any _ _).mono ?_; (first | rw [HA.out]); rintro e w ⟨rfl, hb⟩; replace hW := below_next hW hW.size hb; replace hK := hK.below hb; clear hb)
      | (go_at_call 15; refine (hS.out _).mono ?_; rintro e w ⟨rfl, hb⟩; replace hW := below_next hW hW.size hb; replace hK := hK.below hb; clear hb))
    go_ret
    exact ⟨rfl, hW⟩
  · have hb : vok b = false := by
      cases hb : vok b
      · rfl
      · exact absurd ⟨ha, hb⟩ ho
    have HA := Lib.hid (chkV_ok ha)
    have HB := Lib.hid (chkV_no hb)
    clear ha hb ho
    go_enter Tryz.func3, Tryz.ntmps3
    go_wp2_with (first
      | go_skip
      | (refine ldV 6 rfl rfl (hK.get 0 rfl) rfl ?_)
      | (refine ldVG 7 (by rfl) rfl (hK.get 1 rfl) rfl ?_)
      | (go_at_call 14; refine (check_any _ _).mono ?_; (first | rw [HA.out] | rw [HB.out]); rintro e w ⟨rfl, hb⟩; replace hW := below_next hW hW.size hb; replace hK := hK.below hb; clear hb)
      | (go_at_call 15; refine (hS.out _).mono ?_; rintro e w ⟨rfl, hb⟩; replace hW := below_next hW hW.size hb; replace hK := hK.below hb; clear hb))
    go_ret
    exact ⟨rfl, hW⟩
theorem law3_any (hS : Hid SanityIs) (a b : Nat → Int) (n lo hi wider d : Int) (hd : 0 ≤ d ∧ d ≤ 255) (w : World) :
    Calls Tryz.prog 3 #[.agg (va a), .agg (va b), .int .i64 n, .agg #[.int .i64 lo, .int .i64 hi], .int .i64 wider, .int .u8 d] w fun e w' => e = .returned (.bool true) ∧ Below w.heap.size w w' := by
  by_cases ho : vok a = true ∧ vok b = true
  · obtain ⟨ha, hb⟩ := ho
    have t1 : 0 ≤ d % 12 := Int.emod_nonneg _ (by decide)
    have t2 : d % 12 < 12 := Int.emod_lt_of_pos _ (by decide)
    refine law3_in hS a b (joinR plusM a b) (joinR lessM a b) (bothR a b) (joinR hullM a b) (aroundR lo hi wider) n lo hi wider d (joinE plusM a b) (joinE lessM a b) (bothE a b) (joinE hullM a b) (aroundE lo hi wider) (bothK a b) (degR a n) (cutAt a (1 + d % 12)).1 (cutAt a (1 + d % 12)).2 w (Lib.hid (chkV_ok ha)) (Lib.hid (chkV_ok hb))
      (Lib.hid fun W => plus_any a b W) (Lib.hid fun W => less_any a b W) (Lib.hid fun W => both_any a b W) (Lib.hid fun W => hull_any a b W) (Lib.hid fun W => around_any lo hi wider W)
      (Lib.hid fun h => ?_) (Lib.hid fun h => ?_) (Lib.hid fun h => ?_) (Lib.hid ⟨(hull_ok ha hb).1, ?_⟩) (Lib.hid fun h => chkV_ok (around_vok h)) hd (Lib.hid fun W => ?_) (Lib.hid fun W => ?_) (Lib.hid (cut_deg ha n (by omega) (by omega)))
    · obtain ⟨v, e⟩ := plus_vok ha hb h
      rw [e]; exact chkV_ok v
    · obtain ⟨v, e⟩ := less_vok ha hb h
      rw [e]; exact chkV_ok v
    · obtain ⟨_, e, _, v, k1, k2⟩ := both_ok ha hb h
      rw [e]; exact ⟨chkV_ok v, k1, k2⟩
    · rw [(hull_ok ha hb).2]; exact chkV_ok (hull_vok (vok_iff.1 ha) (vok_iff.1 hb))
    · have h := cut_any a (1 + d % 12) W
      rw [(cut_ok ha (by omega) (by omega)).1] at h
      exact h
    · have h := degree_any a n W
      rw [chkV_ok ha] at h
      exact h
  · exact law3_bad hS a b n lo hi wider d w ho
end Go.Proofs.YtbhiphjifdnhmaaGreatDoor
