import Derived.Test.YtbhiphjifdnhmaaGreatDoorVBefore
import Derived.Test.YtbhiphjifdnhmaaGreatDoorSBefore
import Derived.Test.YtbhiphjifdnhmaaGreatDoorV0
/- check at Before. -/
namespace Go.Proofs.YtbhiphjifdnhmaaGreatDoor
set_option linter.unusedSimpArgs false
set_option linter.unusedVariables false
open Go.RowKit

set_option maxRecDepth 100000 in
set_option maxHeartbeats 4000000 in
theorem checkBefore_any (a b : Nat → Int) (v : Vd) (w : World) (ok1 : ∀ i, i < 24 → -3000 ≤ a i ∧ a i ≤ 3000) (ok2 : ∀ i, i < 24 → -3000 ≤ b i ∧ b i ≤ 3000) : Calls Tryz.prog 79 #[.agg #[.func (.func 109) #[] #[], .func (.func 110) #[] #[], .func (.func 111) #[] #[]], .agg (va a), .agg (va b), .agg (vcs v)] w fun e w' => e = .returned (.int .i64 (checkQ qBefore a b v)) ∧ Below w.heap.size w w' := by
  obtain ⟨W, hW⟩ : ∃ W, W = (((w.alloc (.cells #[.func (.func 109) #[] #[], .func (.func 110) #[] #[], .func (.func 111) #[] #[]] 118)).alloc (.cells (va a) 26)).alloc (.cells (va b) 26)).alloc (.cells (vcs v) 48) := ⟨_, rfl⟩
  have kQ : Blk W w.heap.size 118 #[.func (.func 109) #[] #[], .func (.func 110) #[] #[], .func (.func 111) #[] #[]] := by rw [hW]; exact (((Blk.new _ _ _).alloc _).alloc _).alloc _
  have kA : Blk W (w.heap.size + 1) 26 (va a) := by rw [hW]; exact ((Blk.newAt (by simp)).alloc _).alloc _
  have kB : Blk W (w.heap.size + 1 + 1) 26 (va b) := by rw [hW]; exact (Blk.newAt (by simp)).alloc _
  have kV : Blk W (w.heap.size + 1 + 1 + 1) 48 (vcs v) := by rw [hW]; exact Blk.newAt (by simp)
  have hb0 : Below w.heap.size w W := by rw [hW]; exact (((below_new _ _).alloc (by simp) _).alloc (by simp; omega) _).alloc (by simp; omega) _
  obtain ⟨f0, f1, f2⟩ := qcells kQ
  have hR0 := canTo_le qBefore a b 12
  have hR1 := mustTo_le qBefore a b 12
  obtain ⟨R, hR⟩ : ∃ R, R = vdict qBefore a b := ⟨_, rfl⟩
  have hr0 : 0 ≤ R.can ∧ R.can ≤ 12 := by rw [hR]; exact ⟨hR0.1, hR0.2⟩
  have hr1 : 1 ≤ R.must ∧ R.must ≤ 13 := by rw [hR]; exact ⟨hR1.1, hR1.2⟩
  clear hR0 hR1
  have HR := Lib.hid hR
  clear hR
  by_cases e0 : v.can = R.can
  · by_cases e1 : v.must = R.must
    · have hn0 : (v.can != R.can) = false := by simp [e0]
      have hn1 : (v.must != R.must) = false := by simp [e1]
      have hd0 : 0 ≤ v.can ∧ v.can ≤ 12 := by rw [e0]; exact hr0
      have hd1 : 1 ≤ v.must ∧ v.must ≤ 13 := by rw [e1]; exact hr1
      have HQ := Lib.hid (show checkQ qBefore a b v = if (showsB qBefore a b v.can v.y0 v.y1 true && showsB qBefore a b (v.must - 1) v.n0 v.n1 false) = true then 0 else 8 by unfold checkQ; rw [← HR.out, if_neg (by simp [e0, e1])])
      clear e0 e1
      cases h1 : showsB qBefore a b v.can v.y0 v.y1 true
      · have H1 := Lib.hid h1
        have HF := Lib.hid (show checkQ qBefore a b v = 8 by rw [HQ.out, h1]; rfl)
        clear h1
        subst hW
        go_enter Tryz.func79, Tryz.ntmps79
        go_wp2_with (first
          | (refine ldV 5 rfl rfl kA rfl ?_)
          | (refine ldV 6 rfl rfl kB rfl ?_)
          | (refine ldV 5 rfl rfl kA1 rfl ?_)
          | (refine ldV 6 rfl rfl kB1 rfl ?_)
          | (go_at_call 78; refine (verdictBefore_any a b _ ok1 ok2).mono ?_; rw [← HR.out, show vcs R = #[.int .i64 R.can, .int .i64 R.must, .int .i64 R.y0, .int .i64 R.y1, .int .i64 R.n0, .int .i64 R.n1] from rfl]; rintro e w1 ⟨rfl, hb1⟩; have hb1' := hb1.alloc hb1.size (.cells #[.int .i64 R.can, .int .i64 R.must, .int .i64 R.y0, .int .i64 R.y1, .int .i64 R.n0, .int .i64 R.n1] 48); obtain ⟨v0, v1, v2, v3, v4, v5⟩ := vcells (kV.below hb1' kV.lt); obtain ⟨r0, r1, r2, r3, r4, r5⟩ := vcells (v := R) (Blk.new w1 48 #[.int .i64 R.can, .int .i64 R.must, .int .i64 R.y0, .int .i64 R.y1, .int .i64 R.n0, .int .i64 R.n1]); obtain ⟨g0, g1, g2⟩ := qcells (kQ.below hb1' kQ.lt); have kA1 := kA.below hb1' kA.lt; have kB1 := kB.below hb1' kB.lt; have kQ1 := kQ.below hb1' kQ.lt; have kV1 := kV.below hb1' kV.lt; clear kA kB kQ kV))
        refine (showsBefore_any a b _ _ _ _ _ ok1 ok2 (by omega) (by omega)).mono ?_
        rw [H1.out]
        rintro e w2 ⟨rfl, hb2⟩
        have hb2' := below_next hb1' hb1'.size hb2
        obtain ⟨m0, m1, m2⟩ := qcells (kQ1.below hb2 kQ1.lt)
        obtain ⟨n0, n1, n2, n3, n4, n5⟩ := vcells (kV1.below hb2 kV1.lt)
        have kA2 := kA1.below hb2 kA1.lt
        have kB2 := kB1.below hb2 kB1.lt
        clear kA1 kB1 kQ1 kV1
        go_wp2_with fail
        go_ret
        exact ⟨ret_int (by rw [HF.out]), below_next hb0 hb0.size hb2'⟩
      · have H1 := Lib.hid h1
        cases h2 : showsB qBefore a b (v.must - 1) v.n0 v.n1 false
        · have H2 := Lib.hid h2
          have HF := Lib.hid (show checkQ qBefore a b v = 8 by rw [HQ.out, h1, h2]; rfl)
          clear h1 h2
          subst hW
          go_enter Tryz.func79, Tryz.ntmps79
          go_wp2_with (first
            | (refine ldV 5 rfl rfl kA rfl ?_)
            | (refine ldV 6 rfl rfl kB rfl ?_)
            | (refine ldV 5 rfl rfl kA1 rfl ?_)
            | (refine ldV 6 rfl rfl kB1 rfl ?_)
            | (go_at_call 78; refine (verdictBefore_any a b _ ok1 ok2).mono ?_; rw [← HR.out, show vcs R = #[.int .i64 R.can, .int .i64 R.must, .int .i64 R.y0, .int .i64 R.y1, .int .i64 R.n0, .int .i64 R.n1] from rfl]; rintro e w1 ⟨rfl, hb1⟩; have hb1' := hb1.alloc hb1.size (.cells #[.int .i64 R.can, .int .i64 R.must, .int .i64 R.y0, .int .i64 R.y1, .int .i64 R.n0, .int .i64 R.n1] 48); obtain ⟨v0, v1, v2, v3, v4, v5⟩ := vcells (kV.below hb1' kV.lt); obtain ⟨r0, r1, r2, r3, r4, r5⟩ := vcells (v := R) (Blk.new w1 48 #[.int .i64 R.can, .int .i64 R.must, .int .i64 R.y0, .int .i64 R.y1, .int .i64 R.n0, .int .i64 R.n1]); obtain ⟨g0, g1, g2⟩ := qcells (kQ.below hb1' kQ.lt); have kA1 := kA.below hb1' kA.lt; have kB1 := kB.below hb1' kB.lt; have kQ1 := kQ.below hb1' kQ.lt; have kV1 := kV.below hb1' kV.lt; clear kA kB kQ kV))
          refine (showsBefore_any a b _ _ _ _ _ ok1 ok2 (by omega) (by omega)).mono ?_
          rw [H1.out]
          rintro e w2 ⟨rfl, hb2⟩
          have hb2' := below_next hb1' hb1'.size hb2
          obtain ⟨m0, m1, m2⟩ := qcells (kQ1.below hb2 kQ1.lt)
          obtain ⟨n0, n1, n2, n3, n4, n5⟩ := vcells (kV1.below hb2 kV1.lt)
          have kA2 := kA1.below hb2 kA1.lt
          have kB2 := kB1.below hb2 kB1.lt
          clear kA1 kB1 kQ1 kV1
          go_wp2_with (first
            | (refine ldVG 5 (by rfl) rfl kA2 rfl ?_)
            | (refine ldVG 6 (by rfl) rfl kB2 rfl ?_))
          refine (showsBefore_any a b _ _ _ _ _ ok1 ok2 (by omega) (by omega)).mono ?_
          rw [H2.out]
          rintro e w3 ⟨rfl, hb3⟩
          go_wp2_with fail
          go_ret
          exact ⟨ret_int (by rw [HF.out]), below_next hb0 hb0.size (below_next hb2' hb2'.size hb3)⟩
        · have H2 := Lib.hid h2
          have HF := Lib.hid (show checkQ qBefore a b v = 0 by rw [HQ.out, h1, h2]; rfl)
          clear h1 h2
          subst hW
          go_enter Tryz.func79, Tryz.ntmps79
          go_wp2_with (first
            | (refine ldV 5 rfl rfl kA rfl ?_)
            | (refine ldV 6 rfl rfl kB rfl ?_)
            | (refine ldV 5 rfl rfl kA1 rfl ?_)
            | (refine ldV 6 rfl rfl kB1 rfl ?_)
            | (go_at_call 78; refine (verdictBefore_any a b _ ok1 ok2).mono ?_; rw [← HR.out, show vcs R = #[.int .i64 R.can, .int .i64 R.must, .int .i64 R.y0, .int .i64 R.y1, .int .i64 R.n0, .int .i64 R.n1] from rfl]; rintro e w1 ⟨rfl, hb1⟩; have hb1' := hb1.alloc hb1.size (.cells #[.int .i64 R.can, .int .i64 R.must, .int .i64 R.y0, .int .i64 R.y1, .int .i64 R.n0, .int .i64 R.n1] 48); obtain ⟨v0, v1, v2, v3, v4, v5⟩ := vcells (kV.below hb1' kV.lt); obtain ⟨r0, r1, r2, r3, r4, r5⟩ := vcells (v := R) (Blk.new w1 48 #[.int .i64 R.can, .int .i64 R.must, .int .i64 R.y0, .int .i64 R.y1, .int .i64 R.n0, .int .i64 R.n1]); obtain ⟨g0, g1, g2⟩ := qcells (kQ.below hb1' kQ.lt); have kA1 := kA.below hb1' kA.lt; have kB1 := kB.below hb1' kB.lt; have kQ1 := kQ.below hb1' kQ.lt; have kV1 := kV.below hb1' kV.lt; clear kA kB kQ kV))
          refine (showsBefore_any a b _ _ _ _ _ ok1 ok2 (by omega) (by omega)).mono ?_
          rw [H1.out]
          rintro e w2 ⟨rfl, hb2⟩
          have hb2' := below_next hb1' hb1'.size hb2
          obtain ⟨m0, m1, m2⟩ := qcells (kQ1.below hb2 kQ1.lt)
          obtain ⟨n0, n1, n2, n3, n4, n5⟩ := vcells (kV1.below hb2 kV1.lt)
          have kA2 := kA1.below hb2 kA1.lt
          have kB2 := kB1.below hb2 kB1.lt
          clear kA1 kB1 kQ1 kV1
          go_wp2_with (first
            | (refine ldVG 5 (by rfl) rfl kA2 rfl ?_)
            | (refine ldVG 6 (by rfl) rfl kB2 rfl ?_))
          refine (showsBefore_any a b _ _ _ _ _ ok1 ok2 (by omega) (by omega)).mono ?_
          rw [H2.out]
          rintro e w3 ⟨rfl, hb3⟩
          go_wp2_with fail
          go_ret
          exact ⟨ret_int (by rw [HF.out]), below_next hb0 hb0.size (below_next hb2' hb2'.size hb3)⟩
    · have hn0 : (v.can != R.can) = false := by simp [e0]
      have hn1 : (v.must != R.must) = true := by simp [e1]
      have HF := Lib.hid (show checkQ qBefore a b v = 8 by unfold checkQ; rw [← HR.out, if_pos (Or.inr e1)])
      clear e0 e1
      subst hW
      go_enter Tryz.func79, Tryz.ntmps79
      go_wp2_with (first
        | (refine ldV 5 rfl rfl kA rfl ?_)
        | (refine ldV 6 rfl rfl kB rfl ?_)
        | (refine ldV 5 rfl rfl kA1 rfl ?_)
        | (refine ldV 6 rfl rfl kB1 rfl ?_)
        | (go_at_call 78; refine (verdictBefore_any a b _ ok1 ok2).mono ?_; rw [← HR.out, show vcs R = #[.int .i64 R.can, .int .i64 R.must, .int .i64 R.y0, .int .i64 R.y1, .int .i64 R.n0, .int .i64 R.n1] from rfl]; rintro e w1 ⟨rfl, hb1⟩; have hb1' := hb1.alloc hb1.size (.cells #[.int .i64 R.can, .int .i64 R.must, .int .i64 R.y0, .int .i64 R.y1, .int .i64 R.n0, .int .i64 R.n1] 48); obtain ⟨v0, v1, v2, v3, v4, v5⟩ := vcells (kV.below hb1' kV.lt); obtain ⟨r0, r1, r2, r3, r4, r5⟩ := vcells (v := R) (Blk.new w1 48 #[.int .i64 R.can, .int .i64 R.must, .int .i64 R.y0, .int .i64 R.y1, .int .i64 R.n0, .int .i64 R.n1]); obtain ⟨g0, g1, g2⟩ := qcells (kQ.below hb1' kQ.lt); have kA1 := kA.below hb1' kA.lt; have kB1 := kB.below hb1' kB.lt; have kQ1 := kQ.below hb1' kQ.lt; have kV1 := kV.below hb1' kV.lt; clear kA kB kQ kV))
      go_ret
      exact ⟨ret_int (by rw [HF.out]), below_next hb0 hb0.size hb1'⟩
  · have hn0 : (v.can != R.can) = true := by simp [e0]
    have HF := Lib.hid (show checkQ qBefore a b v = 8 by unfold checkQ; rw [← HR.out, if_pos (Or.inl e0)])
    clear e0
    subst hW
    go_enter Tryz.func79, Tryz.ntmps79
    go_wp2_with (first
      | (refine ldV 5 rfl rfl kA rfl ?_)
      | (refine ldV 6 rfl rfl kB rfl ?_)
      | (refine ldV 5 rfl rfl kA1 rfl ?_)
      | (refine ldV 6 rfl rfl kB1 rfl ?_)
      | (go_at_call 78; refine (verdictBefore_any a b _ ok1 ok2).mono ?_; rw [← HR.out, show vcs R = #[.int .i64 R.can, .int .i64 R.must, .int .i64 R.y0, .int .i64 R.y1, .int .i64 R.n0, .int .i64 R.n1] from rfl]; rintro e w1 ⟨rfl, hb1⟩; have hb1' := hb1.alloc hb1.size (.cells #[.int .i64 R.can, .int .i64 R.must, .int .i64 R.y0, .int .i64 R.y1, .int .i64 R.n0, .int .i64 R.n1] 48); obtain ⟨v0, v1, v2, v3, v4, v5⟩ := vcells (kV.below hb1' kV.lt); obtain ⟨r0, r1, r2, r3, r4, r5⟩ := vcells (v := R) (Blk.new w1 48 #[.int .i64 R.can, .int .i64 R.must, .int .i64 R.y0, .int .i64 R.y1, .int .i64 R.n0, .int .i64 R.n1]); obtain ⟨g0, g1, g2⟩ := qcells (kQ.below hb1' kQ.lt); have kA1 := kA.below hb1' kA.lt; have kB1 := kB.below hb1' kB.lt; have kQ1 := kQ.below hb1' kQ.lt; have kV1 := kV.below hb1' kV.lt; clear kA kB kQ kV))
    go_ret
    exact ⟨ret_int (by rw [HF.out]), below_next hb0 hb0.size hb1'⟩
end Go.Proofs.YtbhiphjifdnhmaaGreatDoor
