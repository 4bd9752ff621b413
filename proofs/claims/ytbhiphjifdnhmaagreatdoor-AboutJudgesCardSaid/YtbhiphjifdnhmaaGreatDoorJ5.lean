import Derived.Test.YtbhiphjifdnhmaaGreatDoorJ4
set_option linter.unusedSimpArgs false
set_option linter.unusedVariables false
/- The reference: Verdict, CheckVerdict; the law's sorts and judged. -/
namespace Go.Proofs.YtbhiphjifdnhmaaGreatDoor
open Go.RowKit

/-- degrees, or an error, as the specification tells them -/
def rvC (k m lo hi : Int) (a b : Nat → Int) : Int := if refE k m lo hi a b = 0 then dCan (canF k m lo hi a b) 12 else 0
def rvM (k m lo hi : Int) (a b : Nat → Int) : Int := if refE k m lo hi a b = 0 then dMust (mustF k m lo hi a b) 12 else 0
set_option maxRecDepth 100000 in
set_option maxHeartbeats 4000000 in
theorem refVerdict_any (k m lo hi : Int) (hk : k = 0 ∨ k = 1 ∨ k = 2) (a b : Nat → Int) (w : World) :
    Calls Tryz.prog 96 #[.agg #[.int .i64 k, .int .i64 m, .int .i64 lo, .int .i64 hi], .agg (va a), .agg (va b)] w fun e w' => e = .returned (.agg #[.int .i64 (rvC k m lo hi a b), .int .i64 (rvM k m lo hi a b), .int .i64 (refE k m lo hi a b)]) ∧ Below w.heap.size w w' := by
  obtain ⟨kS, kA, kB, hb0⟩ := four_blocks k m lo hi a b (.cells #[.int .i64 0, .int .i64 0, .int .i64 0] 140) w
  have kZ : Blk ((((w.alloc (.cells #[.int .i64 k, .int .i64 m, .int .i64 lo, .int .i64 hi] 86)).alloc (.cells (va a) 26)).alloc (.cells (va b) 26)).alloc (.cells #[.int .i64 0, .int .i64 0, .int .i64 0] 140)) (w.heap.size + 1 + 1 + 1) 140 #[.int .i64 0, .int .i64 0, .int .i64 0] := Blk.newAt (by simp)
  have hR : Hid (∀ W, Calls Tryz.prog 95 #[.agg (va a), .agg (va b)] W fun e w' => e = .returned (.bool (vok a && vok b)) ∧ Below W.heap.size W w') := fun W => refRight_any a b W
  obtain ⟨E, hE⟩ : ∃ E, E = refE k m lo hi a b := ⟨_, rfl⟩
  obtain ⟨C, hC⟩ : ∃ C, C = rvC k m lo hi a b := ⟨_, rfl⟩
  obtain ⟨M, hM⟩ : ∃ M, M = rvM k m lo hi a b := ⟨_, rfl⟩
  rw [← hE, ← hC, ← hM]
  have hb1 : (1 : Int) ≠ 0 := by decide
  have hbd : ∀ w : World, (Instr.build 140 #[(2, .int .i64 1)]).run Tryz.prog w = .ok (.agg #[.int .i64 0, .int .i64 0, .int .i64 1]) w := fun w => by kernel_rfl
  cases hv : (vok a && vok b)
  · obtain ⟨rfl, rfl, rfl⟩ : E = 1 ∧ C = 0 ∧ M = 0 := by
      have : refE k m lo hi a b = 1 := by simp only [refE, hv]; rfl
      rw [hE, hC, hM, rvC, rvM, this, if_neg hb1, if_neg hb1]; exact ⟨rfl, rfl, rfl⟩
    rw [hv] at hR
    clear hE hC hM hv hk
    go_enter Tryz.func96, Tryz.ntmps96
    go_wp2_with (first
      | go_skip
      | (refine ldV 4 rfl rfl kA rfl ?_)
      | (refine ldV 5 rfl rfl kB rfl ?_)
      | (go_at_call 95; refine (hR.out _).mono ?_; rintro e w1 ⟨rfl, h1⟩; have kZ1 := kZ.below h1 kZ.lt; obtain ⟨z0, z1, z2⟩ := kZ1.three; have y0 := kZ1.frozen 0; have y1 := kZ1.frozen 1; have y2 := kZ1.frozen 2))
    refine bodyPost_ret (resG rfl _ _ (kZ1.threeStore _ _ _) rfl) rfl ⟨rfl, (((below_next hb0 (by simp; omega) h1).setCell (by show _ ≤ w.heap.size + 1 + 1 + 1; omega) _).setCell (by show _ ≤ w.heap.size + 1 + 1 + 1; omega) _).setCell (by show _ ≤ w.heap.size + 1 + 1 + 1; omega) _⟩
  · have hv2 : vok a = true ∧ vok b = true := by simpa using hv
    have hD : Hid (∀ W, Calls Tryz.prog 133 #[.agg #[.int .i64 k, .int .i64 m, .int .i64 lo, .int .i64 hi], .agg (va a), .agg (va b)] W fun e w' => e = .returned (.agg #[.int .i64 (dCan (canF k m lo hi a b) 12), .int .i64 (dMust (mustF k m lo hi a b) 12), .int .i64 0]) ∧ Below W.heap.size W w') := fun W => refDegrees_any k m lo hi hk a b (vok_iff.1 hv2.1).all (vok_iff.1 hv2.2).all W
    rw [hv] at hR
    have hbad : sortB k m lo hi = false → E = 1 ∧ C = 0 ∧ M = 0 := fun h => by
      have : refE k m lo hi a b = 1 := by simp only [refE, hv, h]; rfl
      rw [hE, hC, hM, rvC, rvM, this, if_neg hb1, if_neg hb1]; exact ⟨rfl, rfl, rfl⟩
    have hok : sortB k m lo hi = true → E = 0 ∧ C = dCan (canF k m lo hi a b) 12 ∧ M = dMust (mustF k m lo hi a b) 12 := fun h => by
      have : refE k m lo hi a b = 0 := by simp only [refE, hv, h]; rfl
      rw [hE, hC, hM, rvC, rvM, this, if_pos rfl, if_pos rfl]; exact ⟨rfl, rfl, rfl⟩
    clear hE hC hM hv hv2
    obtain ⟨X, hX⟩ : ∃ X, X = dCan (canF k m lo hi a b) 12 := ⟨_, rfl⟩
    obtain ⟨Y, hY⟩ : ∃ Y, Y = dMust (mustF k m lo hi a b) 12 := ⟨_, rfl⟩
    rw [← hX, ← hY] at hD hok
    clear hX hY
    rcases hk with rfl | rfl | rfl
    · obtain ⟨rfl, rfl, rfl⟩ := hok (by simp [sortB])
      clear hbad hok
      go_enter Tryz.func96, Tryz.ntmps96
      go_wp2_with (first
        | go_skip
        | (refine ldV 4 rfl rfl kA rfl ?_)
        | (refine ldV 5 rfl rfl kB rfl ?_)
        | (refine ldV 4 rfl rfl kA1 rfl ?_)
        | (refine ldV 5 rfl rfl kB1 rfl ?_)
        | (refine ldSo 3 (by rfl) rfl kS1 rfl ?_)
        | (go_at_call 95; refine (hR.out _).mono ?_; rintro e w1 ⟨rfl, h1⟩; have kS1 := kS.below h1 kS.lt; obtain ⟨c0, c1, c2, c3⟩ := kS1.fourC; have kA1 := kA.below h1 kA.lt; have kB1 := kB.below h1 kB.lt; have kZ1 := kZ.below h1 kZ.lt; obtain ⟨z0, z1, z2⟩ := kZ1.three; have y0 := kZ1.frozen 0; have y1 := kZ1.frozen 1; have y2 := kZ1.frozen 2)
        | (go_at_call 133; refine (hD.out _).mono ?_; rintro e w2 ⟨rfl, h2⟩; have kZ2 := kZ1.below h2 kZ1.lt; obtain ⟨z0, z1, z2⟩ := kZ2.three; have y0 := kZ2.frozen 0; have y1 := kZ2.frozen 1; have y2 := kZ2.frozen 2))
      refine bodyPost_ret (resG rfl _ _ (kZ2.threeStore _ _ _) rfl) rfl ⟨rfl, (((below_next (below_next hb0 (by simp; omega) h1) (by have := h1.size; simp at this; omega) h2).setCell (by show _ ≤ w.heap.size + 1 + 1 + 1; omega) _).setCell (by show _ ≤ w.heap.size + 1 + 1 + 1; omega) _).setCell (by show _ ≤ w.heap.size + 1 + 1 + 1; omega) _⟩
    · by_cases g1 : m < 0
      · obtain ⟨rfl, rfl, rfl⟩ := hbad (by simp [sortB, g1])
        clear hbad hok hD
        go_enter Tryz.func96, Tryz.ntmps96
        go_wp2_with (first
          | go_skip
          | (refine ldV 4 rfl rfl kA rfl ?_)
          | (refine ldV 5 rfl rfl kB rfl ?_)
          | (refine ldV 4 rfl rfl kA1 rfl ?_)
          | (refine ldV 5 rfl rfl kB1 rfl ?_)
          | (refine ldSo 3 (by rfl) rfl kS1 rfl ?_)
          | (go_at_call 95; refine (hR.out _).mono ?_; rintro e w1 ⟨rfl, h1⟩; have kS1 := kS.below h1 kS.lt; obtain ⟨c0, c1, c2, c3⟩ := kS1.fourC; have kA1 := kA.below h1 kA.lt; have kB1 := kB.below h1 kB.lt; have kZ1 := kZ.below h1 kZ.lt; obtain ⟨z0, z1, z2⟩ := kZ1.three; have y0 := kZ1.frozen 0; have y1 := kZ1.frozen 1; have y2 := kZ1.frozen 2)
          | (go_at_call 133; refine (hD.out _).mono ?_; rintro e w2 ⟨rfl, h2⟩; have kZ2 := kZ1.below h2 kZ1.lt; obtain ⟨z0, z1, z2⟩ := kZ2.three; have y0 := kZ2.frozen 0; have y1 := kZ2.frozen 1; have y2 := kZ2.frozen 2))
        refine bodyPost_ret (resG rfl _ _ (kZ1.threeStore _ _ _) rfl) rfl ⟨rfl, (((below_next hb0 (by simp; omega) h1).setCell (by show _ ≤ w.heap.size + 1 + 1 + 1; omega) _).setCell (by show _ ≤ w.heap.size + 1 + 1 + 1; omega) _).setCell (by show _ ≤ w.heap.size + 1 + 1 + 1; omega) _⟩
      · by_cases g2 : m > 6000
        · obtain ⟨rfl, rfl, rfl⟩ := hbad (by simp [sortB, show 6000 < m from g2])
          clear hbad hok hD
          go_enter Tryz.func96, Tryz.ntmps96
          go_wp2_with (first
            | go_skip
            | (refine ldV 4 rfl rfl kA rfl ?_)
            | (refine ldV 5 rfl rfl kB rfl ?_)
            | (refine ldV 4 rfl rfl kA1 rfl ?_)
            | (refine ldV 5 rfl rfl kB1 rfl ?_)
            | (refine ldSo 3 (by rfl) rfl kS1 rfl ?_)
            | (go_at_call 95; refine (hR.out _).mono ?_; rintro e w1 ⟨rfl, h1⟩; have kS1 := kS.below h1 kS.lt; obtain ⟨c0, c1, c2, c3⟩ := kS1.fourC; have kA1 := kA.below h1 kA.lt; have kB1 := kB.below h1 kB.lt; have kZ1 := kZ.below h1 kZ.lt; obtain ⟨z0, z1, z2⟩ := kZ1.three; have y0 := kZ1.frozen 0; have y1 := kZ1.frozen 1; have y2 := kZ1.frozen 2)
            | (go_at_call 133; refine (hD.out _).mono ?_; rintro e w2 ⟨rfl, h2⟩; have kZ2 := kZ1.below h2 kZ1.lt; obtain ⟨z0, z1, z2⟩ := kZ2.three; have y0 := kZ2.frozen 0; have y1 := kZ2.frozen 1; have y2 := kZ2.frozen 2))
          refine bodyPost_ret (resG rfl _ _ (kZ1.threeStore _ _ _) rfl) rfl ⟨rfl, (((below_next hb0 (by simp; omega) h1).setCell (by show _ ≤ w.heap.size + 1 + 1 + 1; omega) _).setCell (by show _ ≤ w.heap.size + 1 + 1 + 1; omega) _).setCell (by show _ ≤ w.heap.size + 1 + 1 + 1; omega) _⟩
        · obtain ⟨rfl, rfl, rfl⟩ := hok (by simp [sortB]; omega)
          clear hbad hok
          go_enter Tryz.func96, Tryz.ntmps96
          go_wp2_with (first
            | go_skip
            | (refine ldV 4 rfl rfl kA rfl ?_)
            | (refine ldV 5 rfl rfl kB rfl ?_)
            | (refine ldV 4 rfl rfl kA1 rfl ?_)
            | (refine ldV 5 rfl rfl kB1 rfl ?_)
            | (refine ldSo 3 (by rfl) rfl kS1 rfl ?_)
            | (go_at_call 95; refine (hR.out _).mono ?_; rintro e w1 ⟨rfl, h1⟩; have kS1 := kS.below h1 kS.lt; obtain ⟨c0, c1, c2, c3⟩ := kS1.fourC; have kA1 := kA.below h1 kA.lt; have kB1 := kB.below h1 kB.lt; have kZ1 := kZ.below h1 kZ.lt; obtain ⟨z0, z1, z2⟩ := kZ1.three; have y0 := kZ1.frozen 0; have y1 := kZ1.frozen 1; have y2 := kZ1.frozen 2)
            | (go_at_call 133; refine (hD.out _).mono ?_; rintro e w2 ⟨rfl, h2⟩; have kZ2 := kZ1.below h2 kZ1.lt; obtain ⟨z0, z1, z2⟩ := kZ2.three; have y0 := kZ2.frozen 0; have y1 := kZ2.frozen 1; have y2 := kZ2.frozen 2))
          refine bodyPost_ret (resG rfl _ _ (kZ2.threeStore _ _ _) rfl) rfl ⟨rfl, (((below_next (below_next hb0 (by simp; omega) h1) (by have := h1.size; simp at this; omega) h2).setCell (by show _ ≤ w.heap.size + 1 + 1 + 1; omega) _).setCell (by show _ ≤ w.heap.size + 1 + 1 + 1; omega) _).setCell (by show _ ≤ w.heap.size + 1 + 1 + 1; omega) _⟩
    · by_cases g1 : lo > hi
      · obtain ⟨rfl, rfl, rfl⟩ := hbad (by simp [sortB, show hi < lo from g1])
        clear hbad hok hD
        go_enter Tryz.func96, Tryz.ntmps96
        go_wp2_with (first
          | go_skip
          | (refine ldV 4 rfl rfl kA rfl ?_)
          | (refine ldV 5 rfl rfl kB rfl ?_)
          | (refine ldV 4 rfl rfl kA1 rfl ?_)
          | (refine ldV 5 rfl rfl kB1 rfl ?_)
          | (refine ldSo 3 (by rfl) rfl kS1 rfl ?_)
          | (go_at_call 95; refine (hR.out _).mono ?_; rintro e w1 ⟨rfl, h1⟩; have kS1 := kS.below h1 kS.lt; obtain ⟨c0, c1, c2, c3⟩ := kS1.fourC; have kA1 := kA.below h1 kA.lt; have kB1 := kB.below h1 kB.lt; have kZ1 := kZ.below h1 kZ.lt; obtain ⟨z0, z1, z2⟩ := kZ1.three; have y0 := kZ1.frozen 0; have y1 := kZ1.frozen 1; have y2 := kZ1.frozen 2)
          | (go_at_call 133; refine (hD.out _).mono ?_; rintro e w2 ⟨rfl, h2⟩; have kZ2 := kZ1.below h2 kZ1.lt; obtain ⟨z0, z1, z2⟩ := kZ2.three; have y0 := kZ2.frozen 0; have y1 := kZ2.frozen 1; have y2 := kZ2.frozen 2))
        refine bodyPost_ret (resG rfl _ _ (kZ1.threeStore _ _ _) rfl) rfl ⟨rfl, (((below_next hb0 (by simp; omega) h1).setCell (by show _ ≤ w.heap.size + 1 + 1 + 1; omega) _).setCell (by show _ ≤ w.heap.size + 1 + 1 + 1; omega) _).setCell (by show _ ≤ w.heap.size + 1 + 1 + 1; omega) _⟩
      · obtain ⟨rfl, rfl, rfl⟩ := hok (by simp [sortB]; omega)
        clear hbad hok
        go_enter Tryz.func96, Tryz.ntmps96
        go_wp2_with (first
          | go_skip
          | (refine ldV 4 rfl rfl kA rfl ?_)
          | (refine ldV 5 rfl rfl kB rfl ?_)
          | (refine ldV 4 rfl rfl kA1 rfl ?_)
          | (refine ldV 5 rfl rfl kB1 rfl ?_)
          | (refine ldSo 3 (by rfl) rfl kS1 rfl ?_)
          | (go_at_call 95; refine (hR.out _).mono ?_; rintro e w1 ⟨rfl, h1⟩; have kS1 := kS.below h1 kS.lt; obtain ⟨c0, c1, c2, c3⟩ := kS1.fourC; have kA1 := kA.below h1 kA.lt; have kB1 := kB.below h1 kB.lt; have kZ1 := kZ.below h1 kZ.lt; obtain ⟨z0, z1, z2⟩ := kZ1.three; have y0 := kZ1.frozen 0; have y1 := kZ1.frozen 1; have y2 := kZ1.frozen 2)
          | (go_at_call 133; refine (hD.out _).mono ?_; rintro e w2 ⟨rfl, h2⟩; have kZ2 := kZ1.below h2 kZ1.lt; obtain ⟨z0, z1, z2⟩ := kZ2.three; have y0 := kZ2.frozen 0; have y1 := kZ2.frozen 1; have y2 := kZ2.frozen 2))
        refine bodyPost_ret (resG rfl _ _ (kZ2.threeStore _ _ _) rfl) rfl ⟨rfl, (((below_next (below_next hb0 (by simp; omega) h1) (by have := h1.size; simp at this; omega) h2).setCell (by show _ ≤ w.heap.size + 1 + 1 + 1; omega) _).setCell (by show _ ≤ w.heap.size + 1 + 1 + 1; omega) _).setCell (by show _ ≤ w.heap.size + 1 + 1 + 1; omega) _⟩
end Go.Proofs.YtbhiphjifdnhmaaGreatDoor
