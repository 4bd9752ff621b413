import Derived.Test.YtbhiphjifdnhmaaGreatDoorE40
set_option linter.unusedSimpArgs false
set_option linter.unusedVariables false
/- AboutAdds. -/
namespace Go.Proofs.YtbhiphjifdnhmaaGreatDoor
open Go.RowKit Go.Maps
set_option linter.unusedSimpArgs false
set_option maxRecDepth 100000 in
set_option maxHeartbeats 64000000 in
theorem law4_03 (hS : Hid SanityIs) (a b c X1 X2 X3 X6 X7 : Nat → Int) (d x y t0 t1 u0 u1 P1 P2 N M E6 E7 : Int) (w0 : World) (HA : Hid (chkV a = 0)) (HB : Hid (chkV b = 0)) (HCc : Hid (chkV c = 0)) 
    (hd : 0 ≤ d ∧ d ≤ 255) (hx : 0 ≤ x ∧ x ≤ 65535) (hy : 0 ≤ y ∧ y ≤ 65535)
    (HC : Hid (∀ W, Calls Tryz.prog 21 #[.agg (va a), .int .i64 (1 + d % 12)] W (RetS W (t0, t1) 0))) (HD : Hid (∀ W, Calls Tryz.prog 21 #[.agg (va b), .int .i64 (1 + d % 12)] W (RetS W (u0, u1) 0)))
    (ht : (-3000 ≤ t0 ∧ t0 ≤ t1) ∧ t1 ≤ 3000) (hu : (-3000 ≤ u0 ∧ u0 ≤ u1) ∧ u1 ≤ 3000) (hP1 : x.tmod (t1 - t0 + 1) = P1) (hP2 : y.tmod (u1 - u0 + 1) = P2) (hN : t0 + P1 = N) (hM : u0 + P2 = M) (hN2 : t0 ≤ N ∧ N ≤ t1) (hM2 : u0 ≤ M ∧ M ≤ u1)
    (H1 : Hid (∀ W, Calls Tryz.prog 16 #[.agg (va a), .agg (va b)] W (RetV W X1 0))) (G1 : Hid (∀ W, Calls Tryz.prog 16 #[.agg (va b), .agg (va a)] W (RetV W X1 0))) (H2 : Hid (∀ W, Calls Tryz.prog 17 #[.agg (va a), .agg (va b)] W (RetV W X2 3))) 
    (Q1 : Hid (∀ W, Calls Tryz.prog 23 #[.agg (va X1), .int .i64 (N + M), .int .i64 (1 + d % 12)] W fun e w' => e = .returned (.bool true) ∧ Below W.heap.size W w')) 
    (H3 : Hid (∀ W, Calls Tryz.prog 19 #[.agg (va a), .agg (va b)] W (RetV W X3 0))) (G3 : Hid (∀ W, Calls Tryz.prog 19 #[.agg (va b), .agg (va a)] W (RetV W X3 0)))
    (Q3 : Hid (∀ W, Calls Tryz.prog 23 #[.agg (va X3), .int .i64 N, .int .i64 (1 + d % 12)] W fun e w' => e = .returned (.bool true) ∧ Below W.heap.size W w')) (Q4 : Hid (∀ W, Calls Tryz.prog 23 #[.agg (va X3), .int .i64 M, .int .i64 (1 + d % 12)] W fun e w' => e = .returned (.bool true) ∧ Below W.heap.size W w')) 
    (H6 : Hid (∀ W, Calls Tryz.prog 16 #[.agg (va b), .agg (va c)] W (RetV W X6 E6))) 
    (H7 : Hid (E6 = 0 → ∀ W, Calls Tryz.prog 16 #[.agg (va X1), .agg (va c)] W (RetV W X7 E7))) (H8 : Hid (E6 = 0 → ∀ W, Calls Tryz.prog 16 #[.agg (va a), .agg (va X6)] W (RetV W X7 E7))) :
    Calls Tryz.prog 4 #[.agg (va a), .agg (va b), .agg (va c), .int .u8 d, .int .u16 x, .int .u16 y] w0 fun e w' => e = .returned (.bool true) ∧ Below w0.heap.size w0 w' := by
  obtain ⟨hd1, hd2⟩ := hd
  obtain ⟨hx1, hx2⟩ := hx
  obtain ⟨hy1, hy2⟩ := hy
  obtain ⟨⟨ht1, ht2⟩, ht3⟩ := ht
  obtain ⟨⟨hu1, hu2⟩, hu3⟩ := hu
  obtain ⟨hN1, hN2⟩ := hN2
  obtain ⟨hM1, hM2⟩ := hM2
  have HN := Lib.hid hN
  have HM := Lib.hid hM
  have HP1 := Lib.hid hP1
  have HP2 := Lib.hid hP2
  clear hN hM hP1 hP2
  have hK : AllB (((w0.alloc (.cells (va a) 26)).alloc (.cells (va b) 26)).alloc (.cells (va c) 26)) [(w0.heap.size, 26, va a), (w0.heap.size + 1, 26, va b), (w0.heap.size + 2, 26, va c)] := by
    intro q hq
    simp only [List.mem_cons, List.not_mem_nil, or_false] at hq
    rcases hq with rfl | rfl | rfl
    · exact (((Blk.new _ _ _).alloc _).alloc _)
    · exact ((Blk.newAt (by simp)).alloc _)
    · exact (Blk.newAt (by simp))
  have hW : Below w0.heap.size w0 (((w0.alloc (.cells (va a) 26)).alloc (.cells (va b) 26)).alloc (.cells (va c) 26)) := ((below_new _ _).alloc (by simp) _).alloc (by simp; omega) _
  go_enter Tryz.func4, Tryz.ntmps4
  go_upto_region 6 with (first
    | go_skip
    | (refine ldV 6 rfl rfl (hK.get 0 rfl) rfl ?_)
    | (refine ldV 7 rfl rfl (hK.get 1 rfl) rfl ?_)
    | (refine ldVG 7 (by rfl) rfl (hK.get 1 rfl) rfl ?_)
    | (refine ldVG 8 (by rfl) rfl (hK.get 2 rfl) rfl ?_)
    | (go_at_call 14; refine (check_any _ _).mono ?_; (first | rw [HA.out] | rw [HB.out] | rw [HCc.out]); rintro e w ⟨rfl, hb⟩; replace hW := below_next hW hW.size hb; replace hK := hK.below hb; clear hb)
    | (go_at_call 21; (with_reducible refine (HC.out _).mono ?_); rintro e wt ⟨rfl, hb⟩; replace hW := (below_next hW hW.size hb).alloc (below_next hW hW.size hb).size (.cells #[.int .i64 t0, .int .i64 t1] 23); replace hK := (hK.below hb).push (below_new wt (.cells #[.int .i64 t0, .int .i64 t1] 23)) (Blk.new wt 23 #[.int .i64 t0, .int .i64 t1]); clear hb)
    | (go_at_call 21; (with_reducible refine (HD.out _).mono ?_); rintro e wu ⟨rfl, hb⟩; replace hW := (below_next hW hW.size hb).alloc (below_next hW hW.size hb).size (.cells #[.int .i64 u0, .int .i64 u1] 23); replace hK := (hK.below hb).push (below_new wu (.cells #[.int .i64 u0, .int .i64 u1] 23)) (Blk.new wu 23 #[.int .i64 u0, .int .i64 u1]); clear hb))
  replace hK : AllB _ [(w0.heap.size, 26, va a), (w0.heap.size + 1, 26, va b), (w0.heap.size + 2, 26, va c), (wt.heap.size, 23, #[.int .i64 t0, .int .i64 t1]), (wu.heap.size, 23, #[.int .i64 u0, .int .i64 u1])] := hK
  clear HC HD
  obtain ⟨z0, z1⟩ := (hK.get 3 rfl).two
  have q0 : IntKind.i64.wrap (t1 - t0) = t1 - t0 := IntWalk.i64_in _ (by omega)
  have q1 : IntKind.i64.wrap (t1 - t0 + 1) = t1 - t0 + 1 := IntWalk.i64_in _ (by omega)
  have q2 : t1 - t0 + 1 ≠ 0 := by omega
  have q3 : (t1 - t0 + 1 == 0) = false := by simp; omega
  have q6 : IntKind.i64.wrap x = x := IntWalk.i64_in _ (by omega)
  have q4 := HP1.out
  have q5 : IntKind.i64.wrap P1 = P1 := IntWalk.i64_in _ (by have := HN.out; omega)
  have q7 : IntKind.i64.wrap (t0 + P1) = N := by rw [HN.out]; exact IntWalk.i64_in _ (by omega)
  go_quiet (fail)
  go_upto_region 7 with fail
  replace hK := allB_drewN hK nq
  replace hW := below_drewN hW nq
  obtain ⟨W5, hW5⟩ : ∃ W5, W5 = (wu.alloc (.cells #[.int .i64 u0, .int .i64 u1] 23)).drewN nq := ⟨_, rfl⟩
  rw [← hW5] at hK hW ⊢
  clear hW5
  clear q0 q1 q2 q3 q4 q5 q6 q7 z0 z1
  obtain ⟨z0, z1⟩ := (hK.get 4 rfl).two
  have q0 : IntKind.i64.wrap (u1 - u0) = u1 - u0 := IntWalk.i64_in _ (by omega)
  have q1 : IntKind.i64.wrap (u1 - u0 + 1) = u1 - u0 + 1 := IntWalk.i64_in _ (by omega)
  have q2 : u1 - u0 + 1 ≠ 0 := by omega
  have q3 : (u1 - u0 + 1 == 0) = false := by simp; omega
  have q6 : IntKind.i64.wrap y = y := IntWalk.i64_in _ (by omega)
  have q4 := HP2.out
  have q5 : IntKind.i64.wrap P2 = P2 := IntWalk.i64_in _ (by have := HM.out; omega)
  have q7 : IntKind.i64.wrap (u0 + P2) = M := by rw [HM.out]; exact IntWalk.i64_in _ (by omega)
  go_quiet (fail)
  go_upto_region 8 with fail
  replace hK := allB_drewN hK nq
  replace hW := below_drewN hW nq
  obtain ⟨W6, hW6⟩ : ∃ W6, W6 = W5.drewN nq := ⟨_, rfl⟩
  rw [← hW6] at hK hW ⊢
  clear hW6
  clear q0 q1 q2 q3 q4 q5 q6 q7 z0 z1
  have hN3 : -3000 ≤ N := by omega
  have hN4 : N ≤ 3000 := by omega
  have hM3 : -3000 ≤ M := by omega
  have hM4 : M ≤ 3000 := by omega
  clear hN1 hN2 hM1 hM2 ht1 ht2 ht3 hu1 hu2 hu3 HN HM HP1 HP2 hx1 hx2 hy1 hy2
  go_upto_region 11 with (first
    | go_skip
    | (refine ldV 6 rfl rfl (hK.get 0 rfl) rfl ?_)
    | (refine ldV 7 rfl rfl (hK.get 1 rfl) rfl ?_)
    | (go_at_call 16; (with_reducible refine (H1.out _).mono ?_); rintro e w1 ⟨rfl, hb⟩; replace hW := (below_next hW hW.size hb).trans ((below26 w1 X1).mono (below_next hW hW.size hb).size); replace hK := (hK.below hb).push (below26 w1 X1) (new26 w1 X1); clear hb; have kN := new26z w1)
    | (go_at_call 16; (with_reducible refine (G1.out _).mono ?_); rintro e w2 ⟨rfl, hb⟩; replace hW := (below_next hW hW.size hb).trans ((below26 w2 X1).mono (below_next hW hW.size hb).size); replace hK := (hK.below hb).push (below26 w2 X1) (new26 w2 X1); clear hb; have kN := new26z w2)
    | (go_at_call 17; (with_reducible refine (H2.out _).mono ?_); rintro e w3 ⟨rfl, hb⟩; replace hW := (below_next hW hW.size hb).trans ((below26 w3 X2).mono (below_next hW hW.size hb).size); replace hK := (hK.below hb).push (below26 w3 X2) (new26 w3 X2); clear hb; have kN := new26z w3)
    | (refine stV _ _ rfl rfl kN rfl rfl ?_))
  replace hK : AllB _ [(w0.heap.size, 26, va a), (w0.heap.size + 1, 26, va b), (w0.heap.size + 2, 26, va c), (wt.heap.size, 23, #[.int .i64 t0, .int .i64 t1]), (wu.heap.size, 23, #[.int .i64 u0, .int .i64 u1]), (w1.heap.size, 26, va X1), (w2.heap.size, 26, va X1), (w3.heap.size, 26, va X2)] := hK
  clear H1 G1 H2 kN
  have q1 : IntKind.i64.wrap (N + M) = N + M := IntWalk.i64_in _ (by omega)
  have q2 : IntKind.i64.wrap (N - M) = N - M := IntWalk.i64_in _ (by omega)
  obtain ⟨W4, hW4⟩ : ∃ W4, W4 = (w3.alloc (.cells #[.int .i64 0, .int .i64 0, .int .i64 0, .int .i64 0, .int .i64 0, .int .i64 0, .int .i64 0, .int .i64 0, .int .i64 0, .int .i64 0, .int .i64 0, .int .i64 0, .int .i64 0, .int .i64 0, .int .i64 0, .int .i64 0, .int .i64 0, .int .i64 0, .int .i64 0, .int .i64 0, .int .i64 0, .int .i64 0, .int .i64 0, .int .i64 0] 26)).setRow w3.heap.size (va X2) := ⟨_, rfl⟩
  rw [← hW4] at hK hW ⊢
  clear hW4
  go_upto_region 13 with (first
    | go_skip
    | (refine ldVG 20 (by rfl) rfl (hK.get 5 rfl) rfl ?_)
    | (refine ldVG 22 (by rfl) rfl (hK.get 6 rfl) rfl ?_)
    | (refine wpl_diff26G (by rfl) (.tmp 116) (.tmp 117) _ rfl X1 rfl rfl ?_)
    | (go_at_call 23; (with_reducible refine (Q1.out _).mono ?_); rintro e wq ⟨rfl, hb⟩; replace hW := below_next hW hW.size hb; replace hK := hK.below hb; clear hb))
  clear Q1
  go_upto_region 15 with (first
    | go_skip
    | (refine ldV 6 rfl rfl (hK.get 0 rfl) rfl ?_)
    | (refine ldV 7 rfl rfl (hK.get 1 rfl) rfl ?_)
    | (go_at_call 19; (with_reducible refine (H3.out _).mono ?_); rintro e w4 ⟨rfl, hb⟩; replace hW := (below_next hW hW.size hb).trans ((below26 w4 X3).mono (below_next hW hW.size hb).size); replace hK := (hK.below hb).push (below26 w4 X3) (new26 w4 X3); clear hb; have kN := new26z w4)
    | (go_at_call 19; (with_reducible refine (G3.out _).mono ?_); rintro e w5 ⟨rfl, hb⟩; replace hW := (below_next hW hW.size hb).trans ((below26 w5 X3).mono (below_next hW hW.size hb).size); replace hK := (hK.below hb).push (below26 w5 X3) (new26 w5 X3); clear hb; have kN := new26z w5)
    | (refine stV _ _ rfl rfl kN rfl rfl ?_))
  replace hK : AllB _ [(w0.heap.size, 26, va a), (w0.heap.size + 1, 26, va b), (w0.heap.size + 2, 26, va c), (wt.heap.size, 23, #[.int .i64 t0, .int .i64 t1]), (wu.heap.size, 23, #[.int .i64 u0, .int .i64 u1]), (w1.heap.size, 26, va X1), (w2.heap.size, 26, va X1), (w3.heap.size, 26, va X2), (w4.heap.size, 26, va X3), (w5.heap.size, 26, va X3)] := hK
  clear H3 G3 kN
  go_upto_region 17 with (first
    | go_skip
    | (refine ldVG 26 (by rfl) rfl (hK.get 8 rfl) rfl ?_)
    | (refine ldVG 28 (by rfl) rfl (hK.get 9 rfl) rfl ?_)
    | (refine wpl_diff26G (by rfl) (.tmp 165) (.tmp 166) _ rfl X3 rfl rfl ?_)
    | (go_at_call 23; (with_reducible refine (Q3.out _).mono ?_); rintro e wq ⟨rfl, hb⟩; replace hW := below_next hW hW.size hb; replace hK := hK.below hb; clear hb)
    | (go_at_call 23; (with_reducible refine (Q4.out _).mono ?_); rintro e wq ⟨rfl, hb⟩; replace hW := below_next hW hW.size hb; replace hK := hK.below hb; clear hb))
  clear Q3 Q4
  go_upto_region 23 with (first
    | go_skip
    | (refine ldV 7 rfl rfl (hK.get 1 rfl) rfl ?_)
    | (refine ldV 8 rfl rfl (hK.get 2 rfl) rfl ?_)
    | (go_at_call 16; (with_reducible refine (H6.out _).mono ?_); rintro e w7 ⟨rfl, hb⟩; replace hW := (below_next hW hW.size hb).trans ((below26 w7 X6).mono (below_next hW hW.size hb).size); replace hK := (hK.below hb).push (below26 w7 X6) (new26 w7 X6); clear hb; have kN := new26z w7)
    | (refine stV _ _ rfl rfl kN rfl rfl ?_))
  replace hK : AllB _ [(w0.heap.size, 26, va a), (w0.heap.size + 1, 26, va b), (w0.heap.size + 2, 26, va c), (wt.heap.size, 23, #[.int .i64 t0, .int .i64 t1]), (wu.heap.size, 23, #[.int .i64 u0, .int .i64 u1]), (w1.heap.size, 26, va X1), (w2.heap.size, 26, va X1), (w3.heap.size, 26, va X2), (w4.heap.size, 26, va X3), (w5.heap.size, 26, va X3), (w7.heap.size, 26, va X6)] := hK
  clear H6 kN HA HB HCc
  by_cases h6 : E6 = 0
  · subst h6
    replace H7 := Lib.hid (H7.out rfl)
    replace H8 := Lib.hid (H8.out rfl)
    go_wp2_with (first
      | go_skip
      | (refine ldV 20 rfl rfl (hK.get 5 rfl) rfl ?_)
      | (refine ldV 8 rfl rfl (hK.get 2 rfl) rfl ?_)
      | (go_at_call 16; (with_reducible refine (H7.out _).mono ?_); rintro e w8 ⟨rfl, hb⟩; replace hW := (below_next hW hW.size hb).trans ((below26 w8 X7).mono (below_next hW hW.size hb).size); replace hK := (hK.below hb).push (below26 w8 X7) (new26 w8 X7); clear hb; have kN := new26z w8)
      | (refine ldV 6 rfl rfl (hK.get 0 rfl) rfl ?_)
      | (refine ldV 34 rfl rfl (hK.get 10 rfl) rfl ?_)
      | (go_at_call 16; (with_reducible refine (H8.out _).mono ?_); rintro e w9 ⟨rfl, hb⟩; replace hW := (below_next hW hW.size hb).trans ((below26 w9 X7).mono (below_next hW hW.size hb).size); replace hK := (hK.below hb).push (below26 w9 X7) (new26 w9 X7); clear hb; have kN := new26z w9)
      | (refine stV _ _ rfl rfl kN rfl rfl ?_)
      | (go_at_call 15; refine (hS.out _).mono ?_; rintro e w ⟨rfl, hb⟩; replace hW := below_next hW hW.size hb; replace hK := hK.below hb; clear hb)
      | (refine ldVG 36 (by rfl) rfl (hK.get 11 rfl) rfl ?_)
      | (refine ldVG 38 (by rfl) rfl (hK.get 12 rfl) rfl ?_)
      | (refine wpl_same26G (by rfl) (.tmp 234) (.tmp 235) _ rfl X7 rfl rfl ?_))
    go_ret
    exact ⟨rfl, hW⟩
  · have g6 : (E6 != 0) = true := by simp [h6]
    clear h6 H7 H8
    go_wp2_with (first
      | go_skip
      | (go_at_call 15; refine (hS.out _).mono ?_; rintro e w ⟨rfl, hb⟩; replace hW := below_next hW hW.size hb; replace hK := hK.below hb; clear hb))
    go_ret
    exact ⟨rfl, hW⟩
end Go.Proofs.YtbhiphjifdnhmaaGreatDoor
