import Derived.Test.YtbhiphjifdnhmaaGreatDoorK24
set_option linter.unusedSimpArgs false
set_option linter.unusedVariables false
/- AboutEqual. -/
namespace Go.Proofs.YtbhiphjifdnhmaaGreatDoor
open Go.RowKit Go.Maps

theorem sharp_num {n : Int} (h : sharpE n = 0) : -3000 ≤ n ∧ n ≤ 3000 := by
  have hb : aroundB n n 0 = true := by
    cases hb : aroundB n n 0
    · simp [sharpE, aroundE, hb] at h
    · rfl
  simp only [aroundB, Bool.and_eq_true] at hb
  exact numB_iff.1 hb.1.2.1
theorem near0_ok {a b : Nat → Int} (h : nearE a b 0 = 0) : vok a = true ∧ vok b = true := by
  unfold nearE at h
  cases ha : vok a <;> cases hb : vok b <;> simp [ha, hb] at h ⊢
theorem clash_or {a b : Nat → Int} (ha : vok a = true) (hb : vok b = true) : (bothK a b = 0 ∧ bothE a b = 9) ∨ (bothE a b = 0 ∧ 1 ≤ bothK a b) := by
  by_cases h : bothE a b = 0
  · obtain ⟨_, _, _, _, h1, _⟩ := both_ok ha hb h
    exact .inr ⟨h, h1⟩
  · exact .inl ⟨by simp [bothK, h], (clash_deg ha hb 0 h).1⟩
set_option maxRecDepth 100000 in
set_option maxHeartbeats 20000000 in
theorem law9_any (hS : Hid SanityIs) (a b : Nat → Int) (n : Int) (w : World) : Calls Tryz.prog 9 #[.agg (va a), .agg (va b), .int .i64 n] w fun e w' => e = .returned (.bool true) ∧ Below w.heap.size w w' := by
  have hK : AllB ((w.alloc (.cells (va a) 26)).alloc (.cells (va b) 26)) [(w.heap.size, 26, va a), (w.heap.size + 1, 26, va b)] := by
    intro q hq
    simp only [List.mem_cons, List.not_mem_nil, or_false] at hq
    rcases hq with rfl | rfl
    · exact (Blk.new _ _ _).alloc _
    · exact Blk.newAt (by simp)
  have hW : Below w.heap.size w ((w.alloc (.cells (va a) 26)).alloc (.cells (va b) 26)) := (below_new _ _).alloc (by simp) _
  obtain ⟨X, hX⟩ : ∃ X, X = sharpR n := ⟨_, rfl⟩
  obtain ⟨E, hE⟩ : ∃ E, E = sharpE n := ⟨_, rfl⟩
  have HX : Hid (∀ W, Calls Tryz.prog 38 #[.int .i64 n] W (RetV W X E)) := fun W => by rw [hX, hE]; exact sharp_any n W
  obtain ⟨R, hR⟩ : ∃ R, R = if nearE a b 0 = 0 then vdict (qNear 0) a b else vd0 := ⟨_, rfl⟩
  obtain ⟨F, hF⟩ : ∃ F, F = nearE a b 0 := ⟨_, rfl⟩
  have HN : Hid (∀ W, Calls Tryz.prog 28 #[.agg (va a), .agg (va b), .int .i64 0] W fun e w' => e = .returned (.tuple #[.agg #[.int .i64 R.can, .int .i64 R.must, .int .i64 R.y0, .int .i64 R.y1, .int .i64 R.n0, .int .i64 R.n1], .int .i64 F]) ∧ Below W.heap.size W w') := fun W => by rw [hR, hF]; exact near_any a b 0 W
  by_cases hE0 : E = 0
  · obtain ⟨d1, d2, d3⟩ := sharp_deg (n := n) (by rw [← hE]; exact hE0)
    obtain ⟨l1, l2⟩ := sharp_num (n := n) (by rw [← hE]; exact hE0)
    rw [← hX] at d1 d2 d3
    have H1 := Lib.hid d1
    have H2 := Lib.hid d2
    have H3 := Lib.hid d3
    clear d1 d2 d3 hE hX
    subst hE0
    by_cases hF0 : F = 0
    · obtain ⟨va', vb'⟩ := near0_ok (a := a) (b := b) (by rw [← hF]; exact hF0)
      obtain ⟨q1, q2⟩ := near0 va' vb'
      rw [if_pos (by rw [← hF]; exact hF0)] at hR
      rw [← hR] at q1 q2
      have c0 := clash_or va' vb'
      obtain ⟨U, hU⟩ : ∃ U, U = bothR a b := ⟨_, rfl⟩
      obtain ⟨K, hKK⟩ : ∃ K, K = bothK a b := ⟨_, rfl⟩
      obtain ⟨G, hG⟩ : ∃ G, G = bothE a b := ⟨_, rfl⟩
      have HJ : Hid (∀ W, Calls Tryz.prog 18 #[.agg (va a), .agg (va b)] W fun e w' => e = .returned (.tuple #[.agg (va U), .int .i64 K, .int .i64 G]) ∧ Below W.heap.size W w') := fun W => by rw [hU, hKK, hG]; exact both_any a b W
      rw [← hKK, ← hG] at c0
      rw [← hKK] at q1
      rw [q1] at HN q2
      clear hR hF q1 hU hKK hG va' vb'
      subst hF0
      rcases c0 with ⟨hk1, rfl⟩ | ⟨rfl, hk1⟩
      · have hk2 : (K == 0) = true := by simp [hk1]
        clear q2 hk1
        as_aux_lemma =>
          go_enter Tryz.func9, Tryz.ntmps9
          go_wp2_with (first
            | (go_at_call 38; refine (HX.out _).mono ?_; rintro e wS ⟨rfl, hb⟩; replace hW := (below_next hW hW.size hb).trans ((below26 wS X).mono (below_next hW hW.size hb).size); replace hK := (hK.below hb).push (below26 wS X) (new26 wS X); clear hb; have kN := new26z wS)
            | (refine stV 7 21 rfl rfl kN rfl rfl ?_)
            | (refine stV 15 75 rfl rfl kN rfl rfl ?_)
            | (refine ldV 7 rfl rfl (hK.get 2 rfl) rfl ?_)
            | (refine ldV 3 rfl rfl (hK.get 0 rfl) rfl ?_)
            | (refine ldV 4 rfl rfl (hK.get 1 rfl) rfl ?_)
            | (refine ldVG 3 (by rfl) rfl (hK.get 0 rfl) rfl ?_)
            | (refine ldVG 4 (by rfl) rfl (hK.get 1 rfl) rfl ?_)
            | (go_at_call 22; refine (degree_any _ _ _).mono ?_; (first | rw [H2.out] | rw [H3.out]); rw [H1.out]; rintro e w ⟨rfl, hb⟩; replace hW := below_next hW hW.size hb; replace hK := hK.below hb; clear hb)
            | (go_at_call 28; refine (HN.out _).mono ?_; rintro e wN ⟨rfl, hb⟩; replace hW := (below_next hW hW.size hb).alloc (below_next hW hW.size hb).size (.cells #[.int .i64 K, .int .i64 R.must, .int .i64 R.y0, .int .i64 R.y1, .int .i64 R.n0, .int .i64 R.n1] 48); replace hK := (hK.below hb).push (below_new wN (.cells #[.int .i64 K, .int .i64 R.must, .int .i64 R.y0, .int .i64 R.y1, .int .i64 R.n0, .int .i64 R.n1] 48)) (Blk.new wN 48 #[.int .i64 K, .int .i64 R.must, .int .i64 R.y0, .int .i64 R.y1, .int .i64 R.n0, .int .i64 R.n1]); clear hb; obtain ⟨k0, k1, k2, k3, k4, k5⟩ : (wN.alloc (.cells #[.int .i64 K, .int .i64 R.must, .int .i64 R.y0, .int .i64 R.y1, .int .i64 R.n0, .int .i64 R.n1] 48)).cell? ⟨wN.heap.size, 0, none⟩ = some (.int .i64 K) ∧ (wN.alloc (.cells #[.int .i64 K, .int .i64 R.must, .int .i64 R.y0, .int .i64 R.y1, .int .i64 R.n0, .int .i64 R.n1] 48)).cell? ⟨wN.heap.size, 1, none⟩ = some (.int .i64 R.must) ∧ (wN.alloc (.cells #[.int .i64 K, .int .i64 R.must, .int .i64 R.y0, .int .i64 R.y1, .int .i64 R.n0, .int .i64 R.n1] 48)).cell? ⟨wN.heap.size, 2, none⟩ = some (.int .i64 R.y0) ∧ (wN.alloc (.cells #[.int .i64 K, .int .i64 R.must, .int .i64 R.y0, .int .i64 R.y1, .int .i64 R.n0, .int .i64 R.n1] 48)).cell? ⟨wN.heap.size, 3, none⟩ = some (.int .i64 R.y1) ∧ True ∧ True := ⟨(Blk.new wN 48 #[.int .i64 K, .int .i64 R.must, .int .i64 R.y0, .int .i64 R.y1, .int .i64 R.n0, .int .i64 R.n1]).cell 0, (Blk.new wN 48 #[.int .i64 K, .int .i64 R.must, .int .i64 R.y0, .int .i64 R.y1, .int .i64 R.n0, .int .i64 R.n1]).cell 1, (Blk.new wN 48 #[.int .i64 K, .int .i64 R.must, .int .i64 R.y0, .int .i64 R.y1, .int .i64 R.n0, .int .i64 R.n1]).cell 2, (Blk.new wN 48 #[.int .i64 K, .int .i64 R.must, .int .i64 R.y0, .int .i64 R.y1, .int .i64 R.n0, .int .i64 R.n1]).cell 3, trivial, trivial⟩)
            | (go_at_call 18; refine (HJ.out _).mono ?_; rintro e wJ ⟨rfl, hb⟩; replace hW := (below_next hW hW.size hb).trans ((below26 wJ U).mono (below_next hW hW.size hb).size); replace hK := (hK.below hb).push (below26 wJ U) (new26 wJ U); have kV := hb; have kv0 := keepL (hb.trans ((below26 wJ U).mono hb.size)) k0; have kv2 := keepL (hb.trans ((below26 wJ U).mono hb.size)) k2; have kv3 := keepL (hb.trans ((below26 wJ U).mono hb.size)) k3; clear kV hb; have kN := new26z wJ))
          refine (hS.out _).mono ?_
          rintro e w ⟨rfl, hb⟩
          have ks0 := keepL hb kv0
          have ks2 := keepL hb kv2
          have ks3 := keepL hb kv3
          replace hW := below_next hW hW.size hb
          clear hK HN HX HJ kN kv0 kv2 kv3
          go_wp2_with fail
          go_ret
          exact ⟨rfl, hW⟩
      · have hk0 : ¬ K = 0 := by omega
        have hy : R.y0 = R.y1 := q2.resolve_left hk0
        have hk2 : (K == 0) = false := by simp [hk0]
        rw [← hy] at HN
        clear q2 hy
        as_aux_lemma =>
          go_enter Tryz.func9, Tryz.ntmps9
          go_wp2_with (first
            | (go_at_call 38; refine (HX.out _).mono ?_; rintro e wS ⟨rfl, hb⟩; replace hW := (below_next hW hW.size hb).trans ((below26 wS X).mono (below_next hW hW.size hb).size); replace hK := (hK.below hb).push (below26 wS X) (new26 wS X); clear hb; have kN := new26z wS)
            | (refine stV 7 21 rfl rfl kN rfl rfl ?_)
            | (refine stV 15 75 rfl rfl kN rfl rfl ?_)
            | (refine ldV 7 rfl rfl (hK.get 2 rfl) rfl ?_)
            | (refine ldV 3 rfl rfl (hK.get 0 rfl) rfl ?_)
            | (refine ldV 4 rfl rfl (hK.get 1 rfl) rfl ?_)
            | (refine ldVG 3 (by rfl) rfl (hK.get 0 rfl) rfl ?_)
            | (refine ldVG 4 (by rfl) rfl (hK.get 1 rfl) rfl ?_)
            | (go_at_call 22; refine (degree_any _ _ _).mono ?_; (first | rw [H2.out] | rw [H3.out]); rw [H1.out]; rintro e w ⟨rfl, hb⟩; replace hW := below_next hW hW.size hb; replace hK := hK.below hb; clear hb)
            | (go_at_call 28; refine (HN.out _).mono ?_; rintro e wN ⟨rfl, hb⟩; replace hW := (below_next hW hW.size hb).alloc (below_next hW hW.size hb).size (.cells #[.int .i64 K, .int .i64 R.must, .int .i64 R.y0, .int .i64 R.y0, .int .i64 R.n0, .int .i64 R.n1] 48); replace hK := (hK.below hb).push (below_new wN (.cells #[.int .i64 K, .int .i64 R.must, .int .i64 R.y0, .int .i64 R.y0, .int .i64 R.n0, .int .i64 R.n1] 48)) (Blk.new wN 48 #[.int .i64 K, .int .i64 R.must, .int .i64 R.y0, .int .i64 R.y0, .int .i64 R.n0, .int .i64 R.n1]); clear hb; obtain ⟨k0, k1, k2, k3, k4, k5⟩ : (wN.alloc (.cells #[.int .i64 K, .int .i64 R.must, .int .i64 R.y0, .int .i64 R.y0, .int .i64 R.n0, .int .i64 R.n1] 48)).cell? ⟨wN.heap.size, 0, none⟩ = some (.int .i64 K) ∧ (wN.alloc (.cells #[.int .i64 K, .int .i64 R.must, .int .i64 R.y0, .int .i64 R.y0, .int .i64 R.n0, .int .i64 R.n1] 48)).cell? ⟨wN.heap.size, 1, none⟩ = some (.int .i64 R.must) ∧ (wN.alloc (.cells #[.int .i64 K, .int .i64 R.must, .int .i64 R.y0, .int .i64 R.y0, .int .i64 R.n0, .int .i64 R.n1] 48)).cell? ⟨wN.heap.size, 2, none⟩ = some (.int .i64 R.y0) ∧ (wN.alloc (.cells #[.int .i64 K, .int .i64 R.must, .int .i64 R.y0, .int .i64 R.y0, .int .i64 R.n0, .int .i64 R.n1] 48)).cell? ⟨wN.heap.size, 3, none⟩ = some (.int .i64 R.y0) ∧ True ∧ True := ⟨(Blk.new wN 48 #[.int .i64 K, .int .i64 R.must, .int .i64 R.y0, .int .i64 R.y0, .int .i64 R.n0, .int .i64 R.n1]).cell 0, (Blk.new wN 48 #[.int .i64 K, .int .i64 R.must, .int .i64 R.y0, .int .i64 R.y0, .int .i64 R.n0, .int .i64 R.n1]).cell 1, (Blk.new wN 48 #[.int .i64 K, .int .i64 R.must, .int .i64 R.y0, .int .i64 R.y0, .int .i64 R.n0, .int .i64 R.n1]).cell 2, (Blk.new wN 48 #[.int .i64 K, .int .i64 R.must, .int .i64 R.y0, .int .i64 R.y0, .int .i64 R.n0, .int .i64 R.n1]).cell 3, trivial, trivial⟩)
            | (go_at_call 18; refine (HJ.out _).mono ?_; rintro e wJ ⟨rfl, hb⟩; replace hW := (below_next hW hW.size hb).trans ((below26 wJ U).mono (below_next hW hW.size hb).size); replace hK := (hK.below hb).push (below26 wJ U) (new26 wJ U); have kV := hb; have kv0 := keepL (hb.trans ((below26 wJ U).mono hb.size)) k0; have kv2 := keepL (hb.trans ((below26 wJ U).mono hb.size)) k2; have kv3 := keepL (hb.trans ((below26 wJ U).mono hb.size)) k3; clear kV hb; have kN := new26z wJ)
            | (go_at_call 15; refine (hS.out _).mono ?_; rintro e w ⟨rfl, hb⟩; have ks0 := keepL hb kv0; have ks2 := keepL hb kv2; have ks3 := keepL hb kv3; replace hW := below_next hW hW.size hb; replace hK := hK.below hb; clear hb))
          go_ret
          exact ⟨rfl, hW⟩
    · have hFb : (F != 0) = true := by simp [hF0]
      cases hva : vok a
      · have C1 := Lib.hid (chkV_no hva)
        have C2 := C1
        clear hva hR hF
        as_aux_lemma =>
          go_enter Tryz.func9, Tryz.ntmps9
          go_wp2_with (first
            | (go_at_call 38; refine (HX.out _).mono ?_; rintro e wS ⟨rfl, hb⟩; replace hW := (below_next hW hW.size hb).trans ((below26 wS X).mono (below_next hW hW.size hb).size); replace hK := (hK.below hb).push (below26 wS X) (new26 wS X); clear hb; have kN := new26z wS)
            | (refine stV 7 21 rfl rfl kN rfl rfl ?_)
            | (refine stV 15 75 rfl rfl kN rfl rfl ?_)
            | (refine ldV 7 rfl rfl (hK.get 2 rfl) rfl ?_)
            | (refine ldV 3 rfl rfl (hK.get 0 rfl) rfl ?_)
            | (refine ldV 4 rfl rfl (hK.get 1 rfl) rfl ?_)
            | (refine ldVG 3 (by rfl) rfl (hK.get 0 rfl) rfl ?_)
            | (refine ldVG 4 (by rfl) rfl (hK.get 1 rfl) rfl ?_)
            | (go_at_call 22; refine (degree_any _ _ _).mono ?_; (first | rw [H2.out] | rw [H3.out]); rw [H1.out]; rintro e w ⟨rfl, hb⟩; replace hW := below_next hW hW.size hb; replace hK := hK.below hb; clear hb)
            | (go_at_call 28; refine (HN.out _).mono ?_; rintro e wN ⟨rfl, hb⟩; replace hW := (below_next hW hW.size hb).alloc (below_next hW hW.size hb).size (.cells #[.int .i64 R.can, .int .i64 R.must, .int .i64 R.y0, .int .i64 R.y1, .int .i64 R.n0, .int .i64 R.n1] 48); replace hK := (hK.below hb).push (below_new wN (.cells #[.int .i64 R.can, .int .i64 R.must, .int .i64 R.y0, .int .i64 R.y1, .int .i64 R.n0, .int .i64 R.n1] 48)) (Blk.new wN 48 #[.int .i64 R.can, .int .i64 R.must, .int .i64 R.y0, .int .i64 R.y1, .int .i64 R.n0, .int .i64 R.n1]); clear hb; obtain ⟨k0, k1, k2, k3, k4, k5⟩ : (wN.alloc (.cells #[.int .i64 R.can, .int .i64 R.must, .int .i64 R.y0, .int .i64 R.y1, .int .i64 R.n0, .int .i64 R.n1] 48)).cell? ⟨wN.heap.size, 0, none⟩ = some (.int .i64 R.can) ∧ (wN.alloc (.cells #[.int .i64 R.can, .int .i64 R.must, .int .i64 R.y0, .int .i64 R.y1, .int .i64 R.n0, .int .i64 R.n1] 48)).cell? ⟨wN.heap.size, 1, none⟩ = some (.int .i64 R.must) ∧ (wN.alloc (.cells #[.int .i64 R.can, .int .i64 R.must, .int .i64 R.y0, .int .i64 R.y1, .int .i64 R.n0, .int .i64 R.n1] 48)).cell? ⟨wN.heap.size, 2, none⟩ = some (.int .i64 R.y0) ∧ (wN.alloc (.cells #[.int .i64 R.can, .int .i64 R.must, .int .i64 R.y0, .int .i64 R.y1, .int .i64 R.n0, .int .i64 R.n1] 48)).cell? ⟨wN.heap.size, 3, none⟩ = some (.int .i64 R.y1) ∧ True ∧ True := ⟨(Blk.new wN 48 #[.int .i64 R.can, .int .i64 R.must, .int .i64 R.y0, .int .i64 R.y1, .int .i64 R.n0, .int .i64 R.n1]).cell 0, (Blk.new wN 48 #[.int .i64 R.can, .int .i64 R.must, .int .i64 R.y0, .int .i64 R.y1, .int .i64 R.n0, .int .i64 R.n1]).cell 1, (Blk.new wN 48 #[.int .i64 R.can, .int .i64 R.must, .int .i64 R.y0, .int .i64 R.y1, .int .i64 R.n0, .int .i64 R.n1]).cell 2, (Blk.new wN 48 #[.int .i64 R.can, .int .i64 R.must, .int .i64 R.y0, .int .i64 R.y1, .int .i64 R.n0, .int .i64 R.n1]).cell 3, trivial, trivial⟩)
            | (go_at_call 15; refine (hS.out _).mono ?_; rintro e w ⟨rfl, hb⟩;  replace hW := below_next hW hW.size hb; replace hK := hK.below hb; clear hb)
            | (go_at_call 14; refine (check_any _ _).mono ?_; (first | rw [C1.out] | rw [C2.out]); rintro e w ⟨rfl, hb⟩; replace hW := below_next hW hW.size hb; replace hK := hK.below hb; clear hb))
          go_ret
          exact ⟨rfl, hW⟩
      · have hvb : vok b = false := by
          cases hvb : vok b
          · rfl
          · exact absurd (hF.trans (by simp [nearE, hva, hvb])) hF0
        have C1 := Lib.hid (chkV_ok hva)
        have C2 := Lib.hid (chkV_no hvb)
        clear hva hvb hR hF
        as_aux_lemma =>
          go_enter Tryz.func9, Tryz.ntmps9
          go_wp2_with (first
            | (go_at_call 38; refine (HX.out _).mono ?_; rintro e wS ⟨rfl, hb⟩; replace hW := (below_next hW hW.size hb).trans ((below26 wS X).mono (below_next hW hW.size hb).size); replace hK := (hK.below hb).push (below26 wS X) (new26 wS X); clear hb; have kN := new26z wS)
            | (refine stV 7 21 rfl rfl kN rfl rfl ?_)
            | (refine stV 15 75 rfl rfl kN rfl rfl ?_)
            | (refine ldV 7 rfl rfl (hK.get 2 rfl) rfl ?_)
            | (refine ldV 3 rfl rfl (hK.get 0 rfl) rfl ?_)
            | (refine ldV 4 rfl rfl (hK.get 1 rfl) rfl ?_)
            | (refine ldVG 3 (by rfl) rfl (hK.get 0 rfl) rfl ?_)
            | (refine ldVG 4 (by rfl) rfl (hK.get 1 rfl) rfl ?_)
            | (go_at_call 22; refine (degree_any _ _ _).mono ?_; (first | rw [H2.out] | rw [H3.out]); rw [H1.out]; rintro e w ⟨rfl, hb⟩; replace hW := below_next hW hW.size hb; replace hK := hK.below hb; clear hb)
            | (go_at_call 28; refine (HN.out _).mono ?_; rintro e wN ⟨rfl, hb⟩; replace hW := (below_next hW hW.size hb).alloc (below_next hW hW.size hb).size (.cells #[.int .i64 R.can, .int .i64 R.must, .int .i64 R.y0, .int .i64 R.y1, .int .i64 R.n0, .int .i64 R.n1] 48); replace hK := (hK.below hb).push (below_new wN (.cells #[.int .i64 R.can, .int .i64 R.must, .int .i64 R.y0, .int .i64 R.y1, .int .i64 R.n0, .int .i64 R.n1] 48)) (Blk.new wN 48 #[.int .i64 R.can, .int .i64 R.must, .int .i64 R.y0, .int .i64 R.y1, .int .i64 R.n0, .int .i64 R.n1]); clear hb; obtain ⟨k0, k1, k2, k3, k4, k5⟩ : (wN.alloc (.cells #[.int .i64 R.can, .int .i64 R.must, .int .i64 R.y0, .int .i64 R.y1, .int .i64 R.n0, .int .i64 R.n1] 48)).cell? ⟨wN.heap.size, 0, none⟩ = some (.int .i64 R.can) ∧ (wN.alloc (.cells #[.int .i64 R.can, .int .i64 R.must, .int .i64 R.y0, .int .i64 R.y1, .int .i64 R.n0, .int .i64 R.n1] 48)).cell? ⟨wN.heap.size, 1, none⟩ = some (.int .i64 R.must) ∧ (wN.alloc (.cells #[.int .i64 R.can, .int .i64 R.must, .int .i64 R.y0, .int .i64 R.y1, .int .i64 R.n0, .int .i64 R.n1] 48)).cell? ⟨wN.heap.size, 2, none⟩ = some (.int .i64 R.y0) ∧ (wN.alloc (.cells #[.int .i64 R.can, .int .i64 R.must, .int .i64 R.y0, .int .i64 R.y1, .int .i64 R.n0, .int .i64 R.n1] 48)).cell? ⟨wN.heap.size, 3, none⟩ = some (.int .i64 R.y1) ∧ True ∧ True := ⟨(Blk.new wN 48 #[.int .i64 R.can, .int .i64 R.must, .int .i64 R.y0, .int .i64 R.y1, .int .i64 R.n0, .int .i64 R.n1]).cell 0, (Blk.new wN 48 #[.int .i64 R.can, .int .i64 R.must, .int .i64 R.y0, .int .i64 R.y1, .int .i64 R.n0, .int .i64 R.n1]).cell 1, (Blk.new wN 48 #[.int .i64 R.can, .int .i64 R.must, .int .i64 R.y0, .int .i64 R.y1, .int .i64 R.n0, .int .i64 R.n1]).cell 2, (Blk.new wN 48 #[.int .i64 R.can, .int .i64 R.must, .int .i64 R.y0, .int .i64 R.y1, .int .i64 R.n0, .int .i64 R.n1]).cell 3, trivial, trivial⟩)
            | (go_at_call 15; refine (hS.out _).mono ?_; rintro e w ⟨rfl, hb⟩;  replace hW := below_next hW hW.size hb; replace hK := hK.below hb; clear hb)
            | (go_at_call 14; refine (check_any _ _).mono ?_; (first | rw [C1.out] | rw [C2.out]); rintro e w ⟨rfl, hb⟩; replace hW := below_next hW hW.size hb; replace hK := hK.below hb; clear hb))
          go_ret
          exact ⟨rfl, hW⟩
  · have hEb : (E == 0) = false := by simp [hE0]
    clear hE hX
    by_cases hF0 : F = 0
    · obtain ⟨va', vb'⟩ := near0_ok (a := a) (b := b) (by rw [← hF]; exact hF0)
      obtain ⟨q1, q2⟩ := near0 va' vb'
      rw [if_pos (by rw [← hF]; exact hF0)] at hR
      rw [← hR] at q1 q2
      have c0 := clash_or va' vb'
      obtain ⟨U, hU⟩ : ∃ U, U = bothR a b := ⟨_, rfl⟩
      obtain ⟨K, hKK⟩ : ∃ K, K = bothK a b := ⟨_, rfl⟩
      obtain ⟨G, hG⟩ : ∃ G, G = bothE a b := ⟨_, rfl⟩
      have HJ : Hid (∀ W, Calls Tryz.prog 18 #[.agg (va a), .agg (va b)] W fun e w' => e = .returned (.tuple #[.agg (va U), .int .i64 K, .int .i64 G]) ∧ Below W.heap.size W w') := fun W => by rw [hU, hKK, hG]; exact both_any a b W
      rw [← hKK, ← hG] at c0
      rw [← hKK] at q1
      rw [q1] at HN q2
      clear hR hF q1 hU hKK hG va' vb'
      subst hF0
      rcases c0 with ⟨hk1, rfl⟩ | ⟨rfl, hk1⟩
      · clear q2
        as_aux_lemma =>
          go_enter Tryz.func9, Tryz.ntmps9
          go_wp2_with (first
            | (go_at_call 38; refine (HX.out _).mono ?_; rintro e wS ⟨rfl, hb⟩; replace hW := (below_next hW hW.size hb).trans ((below26 wS X).mono (below_next hW hW.size hb).size); replace hK := (hK.below hb).push (below26 wS X) (new26 wS X); clear hb; have kN := new26z wS)
            | (refine stV 7 21 rfl rfl kN rfl rfl ?_)
            | (refine stV 15 75 rfl rfl kN rfl rfl ?_)
            | (refine ldV 7 rfl rfl (hK.get 2 rfl) rfl ?_)
            | (refine ldV 3 rfl rfl (hK.get 0 rfl) rfl ?_)
            | (refine ldV 4 rfl rfl (hK.get 1 rfl) rfl ?_)
            | (refine ldVG 3 (by rfl) rfl (hK.get 0 rfl) rfl ?_)
            | (refine ldVG 4 (by rfl) rfl (hK.get 1 rfl) rfl ?_)
            | (go_at_call 28; refine (HN.out _).mono ?_; rintro e wN ⟨rfl, hb⟩; replace hW := (below_next hW hW.size hb).alloc (below_next hW hW.size hb).size (.cells #[.int .i64 0, .int .i64 R.must, .int .i64 R.y0, .int .i64 R.y1, .int .i64 R.n0, .int .i64 R.n1] 48); replace hK := (hK.below hb).push (below_new wN (.cells #[.int .i64 0, .int .i64 R.must, .int .i64 R.y0, .int .i64 R.y1, .int .i64 R.n0, .int .i64 R.n1] 48)) (Blk.new wN 48 #[.int .i64 0, .int .i64 R.must, .int .i64 R.y0, .int .i64 R.y1, .int .i64 R.n0, .int .i64 R.n1]); clear hb; obtain ⟨k0, k1, k2, k3, k4, k5⟩ : (wN.alloc (.cells #[.int .i64 0, .int .i64 R.must, .int .i64 R.y0, .int .i64 R.y1, .int .i64 R.n0, .int .i64 R.n1] 48)).cell? ⟨wN.heap.size, 0, none⟩ = some (.int .i64 0) ∧ (wN.alloc (.cells #[.int .i64 0, .int .i64 R.must, .int .i64 R.y0, .int .i64 R.y1, .int .i64 R.n0, .int .i64 R.n1] 48)).cell? ⟨wN.heap.size, 1, none⟩ = some (.int .i64 R.must) ∧ (wN.alloc (.cells #[.int .i64 0, .int .i64 R.must, .int .i64 R.y0, .int .i64 R.y1, .int .i64 R.n0, .int .i64 R.n1] 48)).cell? ⟨wN.heap.size, 2, none⟩ = some (.int .i64 R.y0) ∧ (wN.alloc (.cells #[.int .i64 0, .int .i64 R.must, .int .i64 R.y0, .int .i64 R.y1, .int .i64 R.n0, .int .i64 R.n1] 48)).cell? ⟨wN.heap.size, 3, none⟩ = some (.int .i64 R.y1) ∧ True ∧ True := ⟨(Blk.new wN 48 #[.int .i64 0, .int .i64 R.must, .int .i64 R.y0, .int .i64 R.y1, .int .i64 R.n0, .int .i64 R.n1]).cell 0, (Blk.new wN 48 #[.int .i64 0, .int .i64 R.must, .int .i64 R.y0, .int .i64 R.y1, .int .i64 R.n0, .int .i64 R.n1]).cell 1, (Blk.new wN 48 #[.int .i64 0, .int .i64 R.must, .int .i64 R.y0, .int .i64 R.y1, .int .i64 R.n0, .int .i64 R.n1]).cell 2, (Blk.new wN 48 #[.int .i64 0, .int .i64 R.must, .int .i64 R.y0, .int .i64 R.y1, .int .i64 R.n0, .int .i64 R.n1]).cell 3, trivial, trivial⟩)
            | (go_at_call 18; refine (HJ.out _).mono ?_; rintro e wJ ⟨rfl, hb⟩; replace hW := (below_next hW hW.size hb).trans ((below26 wJ U).mono (below_next hW hW.size hb).size); replace hK := (hK.below hb).push (below26 wJ U) (new26 wJ U); have kV := hb; have kv0 := keepL (hb.trans ((below26 wJ U).mono hb.size)) k0; have kv2 := keepL (hb.trans ((below26 wJ U).mono hb.size)) k2; have kv3 := keepL (hb.trans ((below26 wJ U).mono hb.size)) k3; clear kV hb; have kN := new26z wJ))
          refine (hS.out _).mono ?_
          rintro e w ⟨rfl, hb⟩
          have ks0 := keepL hb kv0
          have ks2 := keepL hb kv2
          have ks3 := keepL hb kv3
          replace hW := below_next hW hW.size hb
          clear hK HN HX HJ kN kv0 kv2 kv3
          go_wp2_with fail
          go_ret
          exact ⟨rfl, hW⟩
      · have hk0 : ¬ K = 0 := by omega
        have hy : R.y0 = R.y1 := q2.resolve_left hk0
        have hk2 : (K == 0) = false := by simp [hk0]
        rw [← hy] at HN
        clear q2 hy
        as_aux_lemma =>
          go_enter Tryz.func9, Tryz.ntmps9
          go_wp2_with (first
            | (go_at_call 38; refine (HX.out _).mono ?_; rintro e wS ⟨rfl, hb⟩; replace hW := (below_next hW hW.size hb).trans ((below26 wS X).mono (below_next hW hW.size hb).size); replace hK := (hK.below hb).push (below26 wS X) (new26 wS X); clear hb; have kN := new26z wS)
            | (refine stV 7 21 rfl rfl kN rfl rfl ?_)
            | (refine stV 15 75 rfl rfl kN rfl rfl ?_)
            | (refine ldV 7 rfl rfl (hK.get 2 rfl) rfl ?_)
            | (refine ldV 3 rfl rfl (hK.get 0 rfl) rfl ?_)
            | (refine ldV 4 rfl rfl (hK.get 1 rfl) rfl ?_)
            | (refine ldVG 3 (by rfl) rfl (hK.get 0 rfl) rfl ?_)
            | (refine ldVG 4 (by rfl) rfl (hK.get 1 rfl) rfl ?_)
            | (go_at_call 28; refine (HN.out _).mono ?_; rintro e wN ⟨rfl, hb⟩; replace hW := (below_next hW hW.size hb).alloc (below_next hW hW.size hb).size (.cells #[.int .i64 K, .int .i64 R.must, .int .i64 R.y0, .int .i64 R.y0, .int .i64 R.n0, .int .i64 R.n1] 48); replace hK := (hK.below hb).push (below_new wN (.cells #[.int .i64 K, .int .i64 R.must, .int .i64 R.y0, .int .i64 R.y0, .int .i64 R.n0, .int .i64 R.n1] 48)) (Blk.new wN 48 #[.int .i64 K, .int .i64 R.must, .int .i64 R.y0, .int .i64 R.y0, .int .i64 R.n0, .int .i64 R.n1]); clear hb; obtain ⟨k0, k1, k2, k3, k4, k5⟩ : (wN.alloc (.cells #[.int .i64 K, .int .i64 R.must, .int .i64 R.y0, .int .i64 R.y0, .int .i64 R.n0, .int .i64 R.n1] 48)).cell? ⟨wN.heap.size, 0, none⟩ = some (.int .i64 K) ∧ (wN.alloc (.cells #[.int .i64 K, .int .i64 R.must, .int .i64 R.y0, .int .i64 R.y0, .int .i64 R.n0, .int .i64 R.n1] 48)).cell? ⟨wN.heap.size, 1, none⟩ = some (.int .i64 R.must) ∧ (wN.alloc (.cells #[.int .i64 K, .int .i64 R.must, .int .i64 R.y0, .int .i64 R.y0, .int .i64 R.n0, .int .i64 R.n1] 48)).cell? ⟨wN.heap.size, 2, none⟩ = some (.int .i64 R.y0) ∧ (wN.alloc (.cells #[.int .i64 K, .int .i64 R.must, .int .i64 R.y0, .int .i64 R.y0, .int .i64 R.n0, .int .i64 R.n1] 48)).cell? ⟨wN.heap.size, 3, none⟩ = some (.int .i64 R.y0) ∧ True ∧ True := ⟨(Blk.new wN 48 #[.int .i64 K, .int .i64 R.must, .int .i64 R.y0, .int .i64 R.y0, .int .i64 R.n0, .int .i64 R.n1]).cell 0, (Blk.new wN 48 #[.int .i64 K, .int .i64 R.must, .int .i64 R.y0, .int .i64 R.y0, .int .i64 R.n0, .int .i64 R.n1]).cell 1, (Blk.new wN 48 #[.int .i64 K, .int .i64 R.must, .int .i64 R.y0, .int .i64 R.y0, .int .i64 R.n0, .int .i64 R.n1]).cell 2, (Blk.new wN 48 #[.int .i64 K, .int .i64 R.must, .int .i64 R.y0, .int .i64 R.y0, .int .i64 R.n0, .int .i64 R.n1]).cell 3, trivial, trivial⟩)
            | (go_at_call 18; refine (HJ.out _).mono ?_; rintro e wJ ⟨rfl, hb⟩; replace hW := (below_next hW hW.size hb).trans ((below26 wJ U).mono (below_next hW hW.size hb).size); replace hK := (hK.below hb).push (below26 wJ U) (new26 wJ U); have kV := hb; have kv0 := keepL (hb.trans ((below26 wJ U).mono hb.size)) k0; have kv2 := keepL (hb.trans ((below26 wJ U).mono hb.size)) k2; have kv3 := keepL (hb.trans ((below26 wJ U).mono hb.size)) k3; clear kV hb; have kN := new26z wJ)
            | (go_at_call 15; refine (hS.out _).mono ?_; rintro e w ⟨rfl, hb⟩; have ks0 := keepL hb kv0; have ks2 := keepL hb kv2; have ks3 := keepL hb kv3; replace hW := below_next hW hW.size hb; replace hK := hK.below hb; clear hb))
          go_ret
          exact ⟨rfl, hW⟩
    · have hFb : (F != 0) = true := by simp [hF0]
      cases hva : vok a
      · have C1 := Lib.hid (chkV_no hva)
        have C2 := C1
        clear hva hR hF
        as_aux_lemma =>
          go_enter Tryz.func9, Tryz.ntmps9
          go_wp2_with (first
            | (go_at_call 38; refine (HX.out _).mono ?_; rintro e wS ⟨rfl, hb⟩; replace hW := (below_next hW hW.size hb).trans ((below26 wS X).mono (below_next hW hW.size hb).size); replace hK := (hK.below hb).push (below26 wS X) (new26 wS X); clear hb; have kN := new26z wS)
            | (refine stV 7 21 rfl rfl kN rfl rfl ?_)
            | (refine stV 15 75 rfl rfl kN rfl rfl ?_)
            | (refine ldV 7 rfl rfl (hK.get 2 rfl) rfl ?_)
            | (refine ldV 3 rfl rfl (hK.get 0 rfl) rfl ?_)
            | (refine ldV 4 rfl rfl (hK.get 1 rfl) rfl ?_)
            | (refine ldVG 3 (by rfl) rfl (hK.get 0 rfl) rfl ?_)
            | (refine ldVG 4 (by rfl) rfl (hK.get 1 rfl) rfl ?_)
            | (go_at_call 28; refine (HN.out _).mono ?_; rintro e wN ⟨rfl, hb⟩; replace hW := (below_next hW hW.size hb).alloc (below_next hW hW.size hb).size (.cells #[.int .i64 R.can, .int .i64 R.must, .int .i64 R.y0, .int .i64 R.y1, .int .i64 R.n0, .int .i64 R.n1] 48); replace hK := (hK.below hb).push (below_new wN (.cells #[.int .i64 R.can, .int .i64 R.must, .int .i64 R.y0, .int .i64 R.y1, .int .i64 R.n0, .int .i64 R.n1] 48)) (Blk.new wN 48 #[.int .i64 R.can, .int .i64 R.must, .int .i64 R.y0, .int .i64 R.y1, .int .i64 R.n0, .int .i64 R.n1]); clear hb; obtain ⟨k0, k1, k2, k3, k4, k5⟩ : (wN.alloc (.cells #[.int .i64 R.can, .int .i64 R.must, .int .i64 R.y0, .int .i64 R.y1, .int .i64 R.n0, .int .i64 R.n1] 48)).cell? ⟨wN.heap.size, 0, none⟩ = some (.int .i64 R.can) ∧ (wN.alloc (.cells #[.int .i64 R.can, .int .i64 R.must, .int .i64 R.y0, .int .i64 R.y1, .int .i64 R.n0, .int .i64 R.n1] 48)).cell? ⟨wN.heap.size, 1, none⟩ = some (.int .i64 R.must) ∧ (wN.alloc (.cells #[.int .i64 R.can, .int .i64 R.must, .int .i64 R.y0, .int .i64 R.y1, .int .i64 R.n0, .int .i64 R.n1] 48)).cell? ⟨wN.heap.size, 2, none⟩ = some (.int .i64 R.y0) ∧ (wN.alloc (.cells #[.int .i64 R.can, .int .i64 R.must, .int .i64 R.y0, .int .i64 R.y1, .int .i64 R.n0, .int .i64 R.n1] 48)).cell? ⟨wN.heap.size, 3, none⟩ = some (.int .i64 R.y1) ∧ True ∧ True := ⟨(Blk.new wN 48 #[.int .i64 R.can, .int .i64 R.must, .int .i64 R.y0, .int .i64 R.y1, .int .i64 R.n0, .int .i64 R.n1]).cell 0, (Blk.new wN 48 #[.int .i64 R.can, .int .i64 R.must, .int .i64 R.y0, .int .i64 R.y1, .int .i64 R.n0, .int .i64 R.n1]).cell 1, (Blk.new wN 48 #[.int .i64 R.can, .int .i64 R.must, .int .i64 R.y0, .int .i64 R.y1, .int .i64 R.n0, .int .i64 R.n1]).cell 2, (Blk.new wN 48 #[.int .i64 R.can, .int .i64 R.must, .int .i64 R.y0, .int .i64 R.y1, .int .i64 R.n0, .int .i64 R.n1]).cell 3, trivial, trivial⟩)
            | (go_at_call 15; refine (hS.out _).mono ?_; rintro e w ⟨rfl, hb⟩;  replace hW := below_next hW hW.size hb; replace hK := hK.below hb; clear hb)
            | (go_at_call 14; refine (check_any _ _).mono ?_; (first | rw [C1.out] | rw [C2.out]); rintro e w ⟨rfl, hb⟩; replace hW := below_next hW hW.size hb; replace hK := hK.below hb; clear hb))
          go_ret
          exact ⟨rfl, hW⟩
      · have hvb : vok b = false := by
          cases hvb : vok b
          · rfl
          · exact absurd (hF.trans (by simp [nearE, hva, hvb])) hF0
        have C1 := Lib.hid (chkV_ok hva)
        have C2 := Lib.hid (chkV_no hvb)
        clear hva hvb hR hF
        as_aux_lemma =>
          go_enter Tryz.func9, Tryz.ntmps9
          go_wp2_with (first
            | (go_at_call 38; refine (HX.out _).mono ?_; rintro e wS ⟨rfl, hb⟩; replace hW := (below_next hW hW.size hb).trans ((below26 wS X).mono (below_next hW hW.size hb).size); replace hK := (hK.below hb).push (below26 wS X) (new26 wS X); clear hb; have kN := new26z wS)
            | (refine stV 7 21 rfl rfl kN rfl rfl ?_)
            | (refine stV 15 75 rfl rfl kN rfl rfl ?_)
            | (refine ldV 7 rfl rfl (hK.get 2 rfl) rfl ?_)
            | (refine ldV 3 rfl rfl (hK.get 0 rfl) rfl ?_)
            | (refine ldV 4 rfl rfl (hK.get 1 rfl) rfl ?_)
            | (refine ldVG 3 (by rfl) rfl (hK.get 0 rfl) rfl ?_)
            | (refine ldVG 4 (by rfl) rfl (hK.get 1 rfl) rfl ?_)
            | (go_at_call 28; refine (HN.out _).mono ?_; rintro e wN ⟨rfl, hb⟩; replace hW := (below_next hW hW.size hb).alloc (below_next hW hW.size hb).size (.cells #[.int .i64 R.can, .int .i64 R.must, .int .i64 R.y0, .int .i64 R.y1, .int .i64 R.n0, .int .i64 R.n1] 48); replace hK := (hK.below hb).push (below_new wN (.cells #[.int .i64 R.can, .int .i64 R.must, .int .i64 R.y0, .int .i64 R.y1, .int .i64 R.n0, .int .i64 R.n1] 48)) (Blk.new wN 48 #[.int .i64 R.can, .int .i64 R.must, .int .i64 R.y0, .int .i64 R.y1, .int .i64 R.n0, .int .i64 R.n1]); clear hb; obtain ⟨k0, k1, k2, k3, k4, k5⟩ : (wN.alloc (.cells #[.int .i64 R.can, .int .i64 R.must, .int .i64 R.y0, .int .i64 R.y1, .int .i64 R.n0, .int .i64 R.n1] 48)).cell? ⟨wN.heap.size, 0, none⟩ = some (.int .i64 R.can) ∧ (wN.alloc (.cells #[.int .i64 R.can, .int .i64 R.must, .int .i64 R.y0, .int .i64 R.y1, .int .i64 R.n0, .int .i64 R.n1] 48)).cell? ⟨wN.heap.size, 1, none⟩ = some (.int .i64 R.must) ∧ (wN.alloc (.cells #[.int .i64 R.can, .int .i64 R.must, .int .i64 R.y0, .int .i64 R.y1, .int .i64 R.n0, .int .i64 R.n1] 48)).cell? ⟨wN.heap.size, 2, none⟩ = some (.int .i64 R.y0) ∧ (wN.alloc (.cells #[.int .i64 R.can, .int .i64 R.must, .int .i64 R.y0, .int .i64 R.y1, .int .i64 R.n0, .int .i64 R.n1] 48)).cell? ⟨wN.heap.size, 3, none⟩ = some (.int .i64 R.y1) ∧ True ∧ True := ⟨(Blk.new wN 48 #[.int .i64 R.can, .int .i64 R.must, .int .i64 R.y0, .int .i64 R.y1, .int .i64 R.n0, .int .i64 R.n1]).cell 0, (Blk.new wN 48 #[.int .i64 R.can, .int .i64 R.must, .int .i64 R.y0, .int .i64 R.y1, .int .i64 R.n0, .int .i64 R.n1]).cell 1, (Blk.new wN 48 #[.int .i64 R.can, .int .i64 R.must, .int .i64 R.y0, .int .i64 R.y1, .int .i64 R.n0, .int .i64 R.n1]).cell 2, (Blk.new wN 48 #[.int .i64 R.can, .int .i64 R.must, .int .i64 R.y0, .int .i64 R.y1, .int .i64 R.n0, .int .i64 R.n1]).cell 3, trivial, trivial⟩)
            | (go_at_call 15; refine (hS.out _).mono ?_; rintro e w ⟨rfl, hb⟩;  replace hW := below_next hW hW.size hb; replace hK := hK.below hb; clear hb)
            | (go_at_call 14; refine (check_any _ _).mono ?_; (first | rw [C1.out] | rw [C2.out]); rintro e w ⟨rfl, hb⟩; replace hW := below_next hW hW.size hb; replace hK := hK.below hb; clear hb))
          go_ret
          exact ⟨rfl, hW⟩
end Go.Proofs.YtbhiphjifdnhmaaGreatDoor
