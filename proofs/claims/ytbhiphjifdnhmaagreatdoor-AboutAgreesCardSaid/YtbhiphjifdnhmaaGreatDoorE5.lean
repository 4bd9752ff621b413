import Derived.Test.YtbhiphjifdnhmaaGreatDoorK24
/- AboutAgrees. -/
namespace Go.Proofs.YtbhiphjifdnhmaaGreatDoor
open Go.RowKit Go.Maps
set_option linter.unusedSimpArgs false

set_option maxRecDepth 100000 in
set_option maxHeartbeats 8000000 in
theorem law5_in (hS : Hid SanityIs) (a b X3 X4 : Nat → Int) (n E3 K X Y Z : Int) (p q r s f g : Int → Int) (w0 : World) (HA : Hid (chkV a = 0)) (HB : Hid (chkV b = 0))
    (H3 : Hid (∀ W, Calls Tryz.prog 18 #[.agg (va a), .agg (va b)] W fun e w' => e = .returned (.tuple #[.agg (va X3), .int .i64 K, .int .i64 E3]) ∧ Below W.heap.size W w'))
    (H4 : Hid (∀ W, Calls Tryz.prog 19 #[.agg (va a), .agg (va b)] W (RetV W X4 0)))
    (HHa : Hid (∀ W, Calls Tryz.prog 24 #[.agg (va a), .agg (va X4)] W fun e w' => e = .returned (.tuple #[.bool true, .int .i64 0]) ∧ Below W.heap.size W w'))
    (HHb : Hid (∀ W, Calls Tryz.prog 24 #[.agg (va b), .agg (va X4)] W fun e w' => e = .returned (.tuple #[.bool true, .int .i64 0]) ∧ Below W.heap.size W w'))
    (HX : Hid (∀ W, Calls Tryz.prog 22 #[.agg (va a), .int .i64 n] W fun e w' => e = .returned (.tuple #[.int .i64 X, .int .i64 0]) ∧ Below W.heap.size W w'))
    (HY : Hid (∀ W, Calls Tryz.prog 22 #[.agg (va b), .int .i64 n] W fun e w' => e = .returned (.tuple #[.int .i64 Y, .int .i64 0]) ∧ Below W.heap.size W w'))
    (HE : Hid (E3 ≠ 0 → E3 = 9 ∧ (X = 0 ∨ Y = 0)))
    (HZ : Hid (E3 = 0 → ∀ W, Calls Tryz.prog 22 #[.agg (va X3), .int .i64 n] W fun e w' => e = .returned (.tuple #[.int .i64 Z, .int .i64 0]) ∧ Below W.heap.size W w'))
    (HK : Hid (E3 = 0 → (1 ≤ K ∧ K ≤ 12) ∧ Z = if K ≤ min X Y then 12 else min X Y))
    (Ca : Hid (∀ d, 1 ≤ d → d ≤ 12 → ∀ W, Calls Tryz.prog 21 #[.agg (va a), .int .i64 d] W (RetS W (p d, q d) 0)))
    (Cb : Hid (∀ d, 1 ≤ d → d ≤ 12 → ∀ W, Calls Tryz.prog 21 #[.agg (va b), .int .i64 d] W (RetS W (r d, s d) 0)))
    (Cc : Hid (E3 = 0 → ∀ d, 1 ≤ d → d ≤ 12 → ∀ W, Calls Tryz.prog 21 #[.agg (va X3), .int .i64 d] W (RetS W (f d, g d) 0)))
    (HI : Hid (E3 = 0 → ∀ d, 1 ≤ d → d ≤ 12 → (p (min d K) ≤ f d ∧ g d ≤ q (min d K)) ∧ r (min d K) ≤ f d ∧ g d ≤ s (min d K))) :
    Calls Tryz.prog 5 #[.agg (va a), .agg (va b), .int .i64 n] w0 fun e w' => e = .returned (.bool true) ∧ Below w0.heap.size w0 w' := by
  have hK : AllB ((w0.alloc (.cells (va a) 26)).alloc (.cells (va b) 26)) [(w0.heap.size, 26, va a), (w0.heap.size + 1, 26, va b)] := by
    intro q hq
    simp only [List.mem_cons, List.not_mem_nil, or_false] at hq
    rcases hq with rfl | rfl
    · exact ((Blk.new _ _ _).alloc _)
    · exact (Blk.newAt (by simp))
  have hW : Below w0.heap.size w0 ((w0.alloc (.cells (va a) 26)).alloc (.cells (va b) 26)) := (below_new _ _).alloc (by simp) _
  by_cases hE : E3 = 0
  · subst hE
    replace HZ := Lib.hid (HZ.out rfl)
    replace Cc := Lib.hid (Cc.out rfl)
    replace HI := Lib.hid (HI.out rfl)
    obtain ⟨⟨k1, k2⟩, hz⟩ := HK.out rfl
    have HZZ := Lib.hid hz
    clear hz HK HE
    go_enter Tryz.func5, Tryz.ntmps5
    go_upto_region 14 with (first
      | go_skip
      | (refine ldV 3 rfl rfl (hK.get 0 rfl) rfl ?_)
      | (refine ldV 4 rfl rfl (hK.get 1 rfl) rfl ?_)
      | (refine ldVG 4 (by rfl) rfl (hK.get 1 rfl) rfl ?_)
      | (go_at_call 14; refine (check_any _ _).mono ?_; (first | rw [HA.out] | rw [HB.out]); rintro e w ⟨rfl, hb⟩; replace hW := below_next hW hW.size hb; replace hK := hK.below hb; clear hb)
      | (go_at_call 18; refine (H3.out _).mono ?_; rintro e w3 ⟨rfl, hb⟩; replace hW := (below_next hW hW.size hb).trans ((below26 w3 X3).mono (below_next hW hW.size hb).size); replace hK := (hK.below hb).push (below26 w3 X3) (new26 w3 X3); clear hb; have kN := new26z w3)
      | (go_at_call 19; refine (H4.out _).mono ?_; rintro e w4 ⟨rfl, hb⟩; replace hW := (below_next hW hW.size hb).trans ((below26 w4 X4).mono (below_next hW hW.size hb).size); replace hK := (hK.below hb).push (below26 w4 X4) (new26 w4 X4); clear hb; have kN := new26z w4)
      | (refine stV _ _ rfl rfl kN rfl rfl ?_)
      | (refine ldV 10 rfl rfl (hK.get 3 rfl) rfl ?_)
      | (refine ldV 7 rfl rfl (hK.get 2 rfl) rfl ?_)
      | (go_at_call 24; (first | (with_reducible refine (HHa.out _).mono ?_) | (with_reducible refine (HHb.out _).mono ?_)); rintro e w5 ⟨rfl, hb⟩; replace hW := below_next hW hW.size hb; replace hK := hK.below hb; clear hb)
      | (go_at_call 22; (first | (with_reducible refine (HX.out _).mono ?_) | (with_reducible refine (HY.out _).mono ?_) | (with_reducible refine (HZ.out _).mono ?_)); rintro e w6 ⟨rfl, hb⟩; replace hW := below_next hW hW.size hb; replace hK := hK.below hb; clear hb))
    clear H3 H4 HHa HHb HX HY HZ kN
    obtain ⟨M, hM⟩ : ∃ M, M = min X Y := ⟨_, rfl⟩
    have hM2 : min X Y = M := hM.symm
    replace HZZ : Hid (Z = if K ≤ M then 12 else M) := by have := HZZ.out; rw [hM2] at this; exact this
    clear hM
    replace hK : AllB w6 [(w0.heap.size, 26, va a), (w0.heap.size + 1, 26, va b), (w3.heap.size, 26, va X3), (w4.heap.size, 26, va X4)] := hK
    go_upto_if 120 with fail
    go_cut [22] (fun s wx => s = .int .i64 Z ∧ AllB wx [(w0.heap.size, 26, va a), (w0.heap.size + 1, 26, va b), (w3.heap.size, 26, va X3), (w4.heap.size, 26, va X4)] ∧ Below w0.heap.size w0 wx)
    case first =>
      by_cases hkm : K ≤ M
      · have hz : Z = 12 := by rw [HZZ.out, if_pos hkm]
        go_wp2_with fail
        go_meet
        exact ⟨by rw [hz], hK, hW⟩
      · have hz := Lib.hid (show Z = M by rw [HZZ.out, if_neg hkm])
        go_wp2_with fail
        go_meet
        exact ⟨by rw [hz.out], hK, hW⟩
    case rest =>
      obtain ⟨rfl, hK, hW⟩ := hcut
      clear HZZ hM2
      go_upto_region 18 with fail
      go_loopw [23] (fun t23 wr => ∃ d : Int, 1 ≤ d ∧ d ≤ 13 ∧ t23 = .int .i64 d ∧ AllB wr [(w0.heap.size, 26, va a), (w0.heap.size + 1, 26, va b), (w3.heap.size, 26, va X3), (w4.heap.size, 26, va X4)] ∧ Below w0.heap.size w0 wr) (fun t23 _ => (13 - intOf t23).toNat)
      case atStart => exact ⟨1, by omega, by omega, rfl, hK, hW⟩
      case round =>
        clear hK hW
        obtain ⟨d, d1, d2, rfl, hK, hW⟩ := hrel
        by_cases hlt : d ≤ 12
        · obtain ⟨⟨i1, i2⟩, i3, i4⟩ := HI.out d d1 hlt
          have Q3 := Lib.hid (Cc.out d d1 hlt)
          obtain ⟨D, hD⟩ : ∃ D, D = min d K := ⟨_, rfl⟩
          have hD2 : min d K = D := hD.symm
          rw [hD2] at i1 i2 i3 i4
          have Qa := Lib.hid (Ca.out D (by omega) (by omega))
          have Qb := Lib.hid (Cb.out D (by omega) (by omega))
          obtain ⟨F, hF⟩ : ∃ F, F = f d := ⟨_, rfl⟩
          obtain ⟨G, hG⟩ : ∃ G, G = g d := ⟨_, rfl⟩
          obtain ⟨P, hP⟩ : ∃ P, P = p D := ⟨_, rfl⟩
          obtain ⟨Q, hQ⟩ : ∃ Q, Q = q D := ⟨_, rfl⟩
          obtain ⟨R, hR⟩ : ∃ R, R = r D := ⟨_, rfl⟩
          obtain ⟨T, hT⟩ : ∃ T, T = s D := ⟨_, rfl⟩
          rw [← hF, ← hG] at Q3
          rw [← hP, ← hQ] at Qa
          rw [← hR, ← hT] at Qb
          rw [← hF, ← hP] at i1
          rw [← hG, ← hQ] at i2
          rw [← hF, ← hR] at i3
          rw [← hG, ← hT] at i4
          clear hF hG hP hQ hR hT hD Ca Cb Cc HI
          go_wp2_with (first
            | go_skip
            | (refine ldV 7 rfl rfl (hK.get 2 rfl) rfl ?_)
            | (refine ldV 3 rfl rfl (hK.get 0 rfl) rfl ?_)
            | (refine ldV 4 rfl rfl (hK.get 1 rfl) rfl ?_)
            | (go_at_call 21; (with_reducible refine (Q3.out _).mono ?_); rintro e wX ⟨rfl, hb⟩; replace hW := (below_next hW hW.size hb).alloc (below_next hW hW.size hb).size (.cells #[.int .i64 F, .int .i64 G] 23); replace hK := (hK.below hb).push (below_new wX (.cells #[.int .i64 F, .int .i64 G] 23)) (Blk.new wX 23 #[.int .i64 F, .int .i64 G]); clear hb)
            | (go_at_call 21; (with_reducible refine (Qa.out _).mono ?_); rintro e wY ⟨rfl, hb⟩; replace hW := (below_next hW hW.size hb).alloc (below_next hW hW.size hb).size (.cells #[.int .i64 P, .int .i64 Q] 23); replace hK := (hK.below hb).push (below_new wY (.cells #[.int .i64 P, .int .i64 Q] 23)) (Blk.new wY 23 #[.int .i64 P, .int .i64 Q]); clear hb)
            | (go_at_call 21; (with_reducible refine (Qb.out _).mono ?_); rintro e wZ ⟨rfl, hb⟩; replace hW := (below_next hW hW.size hb).alloc (below_next hW hW.size hb).size (.cells #[.int .i64 R, .int .i64 T] 23); replace hK := (hK.below hb).push (below_new wZ (.cells #[.int .i64 R, .int .i64 T] 23)) (Blk.new wZ 23 #[.int .i64 R, .int .i64 T]); clear hb; have c0 := (hK.get 4 rfl).two; have c1 := (hK.get 5 rfl).two; have c2 := (hK.get 6 rfl).two; obtain ⟨x0, x1⟩ := c0; obtain ⟨y0, y1⟩ := c1; obtain ⟨z0, z1⟩ := c2))
          go_roundw
          case rel => exact ⟨d + 1, by omega, by omega, rfl, fun q hq => hK q (List.mem_append_left _ (List.mem_append_left _ (List.mem_append_left _ hq))), hW⟩
          case measure => simp [intOf]; omega
        · obtain rfl : d = 13 := by omega
          clear Ca Cb Cc HI
          go_wp2_with (first
            | go_skip
            | (go_at_call 15; refine (hS.out _).mono ?_; rintro e w ⟨rfl, hb⟩; replace hW := below_next hW hW.size hb; replace hK := hK.below hb; clear hb))
          go_ret
          exact ⟨rfl, hW⟩
  · obtain ⟨rfl, hXY⟩ := HE.out hE
    clear HE HZ HK Cc HI Ca Cb hE
    go_enter Tryz.func5, Tryz.ntmps5
    have hx : (X == 0 || Y == 0) = true := by rcases hXY with h | h <;> simp [h]
    cases hx0 : (X == 0)
    · have hy0 : (Y == 0) = true := by rw [hx0] at hx; simpa using hx
      clear hx hXY
      go_wp2_with (first
        | go_skip
        | (refine ldV 3 rfl rfl (hK.get 0 rfl) rfl ?_)
        | (refine ldV 4 rfl rfl (hK.get 1 rfl) rfl ?_)
        | (refine ldVG 4 (by rfl) rfl (hK.get 1 rfl) rfl ?_)
        | (go_at_call 14; refine (check_any _ _).mono ?_; (first | rw [HA.out] | rw [HB.out]); rintro e w ⟨rfl, hb⟩; replace hW := below_next hW hW.size hb; replace hK := hK.below hb; clear hb)
        | (go_at_call 18; refine (H3.out _).mono ?_; rintro e w3 ⟨rfl, hb⟩; replace hW := (below_next hW hW.size hb).trans ((below26 w3 X3).mono (below_next hW hW.size hb).size); replace hK := (hK.below hb).push (below26 w3 X3) (new26 w3 X3); clear hb; have kN := new26z w3)
        | (go_at_call 19; refine (H4.out _).mono ?_; rintro e w4 ⟨rfl, hb⟩; replace hW := (below_next hW hW.size hb).trans ((below26 w4 X4).mono (below_next hW hW.size hb).size); replace hK := (hK.below hb).push (below26 w4 X4) (new26 w4 X4); clear hb; have kN := new26z w4)
        | (refine stV _ _ rfl rfl kN rfl rfl ?_)
        | (refine ldV 10 rfl rfl (hK.get 3 rfl) rfl ?_)
        | (refine ldV 7 rfl rfl (hK.get 2 rfl) rfl ?_)
        | (go_at_call 24; (first | (with_reducible refine (HHa.out _).mono ?_) | (with_reducible refine (HHb.out _).mono ?_)); rintro e w5 ⟨rfl, hb⟩; replace hW := below_next hW hW.size hb; replace hK := hK.below hb; clear hb)
        | (go_at_call 22; (first | (with_reducible refine (HX.out _).mono ?_) | (with_reducible refine (HY.out _).mono ?_)); rintro e w6 ⟨rfl, hb⟩; replace hW := below_next hW hW.size hb; replace hK := hK.below hb; clear hb)
        | (go_at_call 15; refine (hS.out _).mono ?_; rintro e w ⟨rfl, hb⟩; replace hW := below_next hW hW.size hb; replace hK := hK.below hb; clear hb))
      go_ret
      exact ⟨rfl, hW⟩
    · clear hx hXY
      go_wp2_with (first
        | go_skip
        | (refine ldV 3 rfl rfl (hK.get 0 rfl) rfl ?_)
        | (refine ldV 4 rfl rfl (hK.get 1 rfl) rfl ?_)
        | (refine ldVG 4 (by rfl) rfl (hK.get 1 rfl) rfl ?_)
        | (go_at_call 14; refine (check_any _ _).mono ?_; (first | rw [HA.out] | rw [HB.out]); rintro e w ⟨rfl, hb⟩; replace hW := below_next hW hW.size hb; replace hK := hK.below hb; clear hb)
        | (go_at_call 18; refine (H3.out _).mono ?_; rintro e w3 ⟨rfl, hb⟩; replace hW := (below_next hW hW.size hb).trans ((below26 w3 X3).mono (below_next hW hW.size hb).size); replace hK := (hK.below hb).push (below26 w3 X3) (new26 w3 X3); clear hb; have kN := new26z w3)
        | (go_at_call 19; refine (H4.out _).mono ?_; rintro e w4 ⟨rfl, hb⟩; replace hW := (below_next hW hW.size hb).trans ((below26 w4 X4).mono (below_next hW hW.size hb).size); replace hK := (hK.below hb).push (below26 w4 X4) (new26 w4 X4); clear hb; have kN := new26z w4)
        | (refine stV _ _ rfl rfl kN rfl rfl ?_)
        | (refine ldV 10 rfl rfl (hK.get 3 rfl) rfl ?_)
        | (refine ldV 7 rfl rfl (hK.get 2 rfl) rfl ?_)
        | (go_at_call 24; (first | (with_reducible refine (HHa.out _).mono ?_) | (with_reducible refine (HHb.out _).mono ?_)); rintro e w5 ⟨rfl, hb⟩; replace hW := below_next hW hW.size hb; replace hK := hK.below hb; clear hb)
        | (go_at_call 22; (first | (with_reducible refine (HX.out _).mono ?_) | (with_reducible refine (HY.out _).mono ?_)); rintro e w6 ⟨rfl, hb⟩; replace hW := below_next hW hW.size hb; replace hK := hK.below hb; clear hb)
        | (go_at_call 15; refine (hS.out _).mono ?_; rintro e w ⟨rfl, hb⟩; replace hW := below_next hW hW.size hb; replace hK := hK.below hb; clear hb))
      go_ret
      exact ⟨rfl, hW⟩
set_option maxRecDepth 100000 in
set_option maxHeartbeats 2000000 in
theorem law5_bad (hS : Hid SanityIs) (a b : Nat → Int) (n : Int) (w : World) (ho : ¬ (vok a = true ∧ vok b = true)) :
    Calls Tryz.prog 5 #[.agg (va a), .agg (va b), .int .i64 n] w fun e w' => e = .returned (.bool true) ∧ Below w.heap.size w w' := by
  have hK : AllB ((w.alloc (.cells (va a) 26)).alloc (.cells (va b) 26)) [(w.heap.size, 26, va a), (w.heap.size + 1, 26, va b)] := by
    intro q hq
    simp only [List.mem_cons, List.not_mem_nil, or_false] at hq
    rcases hq with rfl | rfl
    · exact ((Blk.new _ _ _).alloc _)
    · exact (Blk.newAt (by simp))
  have hW : Below w.heap.size w ((w.alloc (.cells (va a) 26)).alloc (.cells (va b) 26)) := (below_new _ _).alloc (by simp) _
  cases ha : vok a
  · have HA := Lib.hid (chkV_no ha)
    clear ha ho
    go_enter Tryz.func5, Tryz.ntmps5
    go_wp2_with (first
      | go_skip
      | (refine ldV 3 rfl rfl (hK.get 0 rfl) rfl ?_)
      | (go_at_call 14; refine (check_any _ _).mono ?_; (first | rw [HA.out]); rintro e w ⟨rfl, hb⟩; replace hW := below_next hW hW.size hb; replace hK := hK.below hb; clear hb)
      | (go_at_call 15; refine (hS.out _).mono ?_; rintro e w ⟨rfl, hb⟩; replace hW := below_next hW hW.size hb; replace hK := hK.below hb; clear hb))
    go_ret
    exact ⟨rfl, hW⟩
  · have hb : vok b = false := by
      cases hb : vok b
      · rfl
      · exact absurd ⟨ha, hb⟩ ho
    have HA := Lib.hid (chkV_ok ha)
    have HB := Lib.hid (chkV_no hb)
    clear ha hb ho
    go_enter Tryz.func5, Tryz.ntmps5
    go_wp2_with (first
      | go_skip
      | (refine ldV 3 rfl rfl (hK.get 0 rfl) rfl ?_)
      | (refine ldVG 4 (by rfl) rfl (hK.get 1 rfl) rfl ?_)
      | (go_at_call 14; refine (check_any _ _).mono ?_; (first | rw [HA.out] | rw [HB.out]); rintro e w ⟨rfl, hb⟩; replace hW := below_next hW hW.size hb; replace hK := hK.below hb; clear hb)
      | (go_at_call 15; refine (hS.out _).mono ?_; rintro e w ⟨rfl, hb⟩; replace hW := below_next hW hW.size hb; replace hK := hK.below hb; clear hb))
    go_ret
    exact ⟨rfl, hW⟩
theorem cutA {a : Nat → Int} (ha : vok a = true) (d : Int) (h1 : 1 ≤ d) (h2 : d ≤ 12) (W : World) : Calls Tryz.prog 21 #[.agg (va a), .int .i64 d] W (RetS W ((cutAt a d).1, (cutAt a d).2) 0) := by
  have h := cut_any a d W
  rw [(cut_ok ha h1 h2).1] at h
  exact h
theorem degA {a : Nat → Int} (ha : vok a = true) (n : Int) (W : World) : Calls Tryz.prog 22 #[.agg (va a), .int .i64 n] W fun e w' => e = .returned (.tuple #[.int .i64 (degR a n), .int .i64 0]) ∧ Below W.heap.size W w' := by
  have h := degree_any a n W
  rw [chkV_ok ha] at h
  exact h
theorem law5_any (hS : Hid SanityIs) (a b : Nat → Int) (n : Int) (w : World) :
    Calls Tryz.prog 5 #[.agg (va a), .agg (va b), .int .i64 n] w fun e w' => e = .returned (.bool true) ∧ Below w.heap.size w w' := by
  by_cases ho : vok a = true ∧ vok b = true
  · obtain ⟨ha, hb⟩ := ho
    obtain ⟨⟨q1, q2⟩, q3, q4⟩ := hull_holds ha hb
    refine law5_in hS a b (bothR a b) (joinR hullM a b) n (bothE a b) (bothK a b) (degR a n) (degR b n) (degR (bothR a b) n) (fun d => (cutAt a d).1) (fun d => (cutAt a d).2) (fun d => (cutAt b d).1) (fun d => (cutAt b d).2) (fun d => (cutAt (bothR a b) d).1) (fun d => (cutAt (bothR a b) d).2) w (Lib.hid (chkV_ok ha)) (Lib.hid (chkV_ok hb))
      (Lib.hid fun W => both_any a b W) (Lib.hid fun W => ?_) (Lib.hid fun W => ?_) (Lib.hid fun W => ?_) (Lib.hid fun W => degA ha n W) (Lib.hid fun W => degA hb n W) (Lib.hid fun h => clash_deg ha hb n h) (Lib.hid fun h W => ?_) (Lib.hid fun h => ?_)
      (Lib.hid fun d h1 h2 W => cutA ha d h1 h2 W) (Lib.hid fun d h1 h2 W => cutA hb d h1 h2 W) (Lib.hid fun h d h1 h2 W => ?_) (Lib.hid fun h d h1 h2 => ?_)
    · have h := hull_any a b W
      rw [(hull_ok ha hb).1] at h
      exact h
    · have h := holds_any a (joinR hullM a b) W
      rw [q1, q2] at h
      exact h
    · have h := holds_any b (joinR hullM a b) W
      rw [q3, q4] at h
      exact h
    · obtain ⟨_, e, _, v, _, _⟩ := both_ok ha hb h
      rw [e]; exact degA v n W
    · obtain ⟨_, _, _, _, k1, k2⟩ := both_ok ha hb h
      exact ⟨⟨k1, k2⟩, both_deg ha hb n h⟩
    · obtain ⟨_, e, _, v, _, _⟩ := both_ok ha hb h
      rw [e]; exact cutA v d h1 h2 W
    · obtain ⟨c1, c2, c3, c4⟩ := both_cut ha hb h h1 h2
      exact ⟨⟨c1, c2⟩, c3, c4⟩
  · exact law5_bad hS a b n w ho
end Go.Proofs.YtbhiphjifdnhmaaGreatDoor
