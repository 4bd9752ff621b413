import Derived.Test.YtbhiphjifdnhmaaGreatDoorV0
/- verdict at In. -/
namespace Go.Proofs.YtbhiphjifdnhmaaGreatDoor
set_option linter.unusedSimpArgs false
set_option linter.unusedVariables false
open Go.RowKit

set_option maxRecDepth 100000 in
set_option maxHeartbeats 4000000 in
theorem verdictIn_any (lo hi : Int) (p : Nat) (a b : Nat → Int) (w : World) (ok1 : ∀ i, i < 24 → -3000 ≤ a i ∧ a i ≤ 3000) (ok2 : ∀ i, i < 24 → -3000 ≤ b i ∧ b i ≤ 3000) (hP0 : w.cell? ⟨p, 0, none⟩ = some (.int .i64 lo)) (hP1 : w.cell? ⟨p, 1, none⟩ = some (.int .i64 hi)) : Calls Tryz.prog 78 #[.agg #[.func (.func 118) #[] #[.pointer (some ⟨p, 0, none⟩)], .func (.func 119) #[] #[.pointer (some ⟨p, 0, none⟩)], .func (.func 120) #[] #[.pointer (some ⟨p, 0, none⟩)]], .agg (va a), .agg (va b)] w fun e w' => e = .returned (.agg (vcs (vdict (qIn lo hi) a b))) ∧ Below w.heap.size w w' := by
  obtain ⟨W, hW⟩ : ∃ W, W = ((((w.alloc (.cells #[.func (.func 118) #[] #[.pointer (some ⟨p, 0, none⟩)], .func (.func 119) #[] #[.pointer (some ⟨p, 0, none⟩)], .func (.func 120) #[] #[.pointer (some ⟨p, 0, none⟩)]] 118)).alloc (.cells (va a) 26)).alloc (.cells (va b) 26)).alloc (.cells #[.int .i64 0, .int .i64 0, .int .i64 0, .int .i64 0, .int .i64 0, .int .i64 0] 48)).alloc (.cells #[.int .i64 0, .int .i64 1, .int .i64 0, .int .i64 0, .int .i64 0, .int .i64 0] 48) := ⟨_, rfl⟩
  have k0 : VW W w.heap.size #[.func (.func 118) #[] #[.pointer (some ⟨p, 0, none⟩)], .func (.func 119) #[] #[.pointer (some ⟨p, 0, none⟩)], .func (.func 120) #[] #[.pointer (some ⟨p, 0, none⟩)]] a b (vdTo (qIn lo hi) a b 0) := by
    rw [hW]
    exact ⟨((((Blk.new _ _ _).alloc _).alloc _).alloc _).alloc _, (((Blk.newAt (by simp)).alloc _).alloc _).alloc _, ((Blk.newAt (by simp)).alloc _).alloc _, (Blk.newAt (by simp)).alloc _, Blk.newAt (by simp)⟩
  have hb0 : Below w.heap.size w W := by rw [hW]; exact ((((below_new _ _).alloc (by simp) _).alloc (by simp; omega) _).alloc (by simp; omega) _).alloc (by simp; omega) _
  have hQ0 := keepL hb0 hP0
  have hQ1 := keepL hb0 hP1
  have hpw : p < w.heap.size := World.block_lt_of_cell? w _ hP0
  generalize hR : vdict (qIn lo hi) a b = R
  have HR := Lib.hid hR
  clear hR
  go_enter Tryz.func78, Tryz.ntmps78
  go_wp2_with fail
  rw [← hW]
  clear hW
  go_loopw [12] (fun t12 wr => ∃ k : Nat, k ≤ 12 ∧ t12 = .int .i64 k ∧ VW wr w.heap.size #[.func (.func 118) #[] #[.pointer (some ⟨p, 0, none⟩)], .func (.func 119) #[] #[.pointer (some ⟨p, 0, none⟩)], .func (.func 120) #[] #[.pointer (some ⟨p, 0, none⟩)]] a b (vdTo (qIn lo hi) a b k) ∧ wr.cell? ⟨p, 0, none⟩ = some (.int .i64 lo) ∧ wr.cell? ⟨p, 1, none⟩ = some (.int .i64 hi) ∧ Below w.heap.size w wr) (fun t12 _ => 12 - (intOf t12).toNat)
  case atStart => exact ⟨0, by omega, rfl, k0, hQ0, hQ1, hb0⟩
  case round =>
    obtain ⟨k, hk, rfl, k1, P0, P1, hb1⟩ := hrel
    clear k0 hb0
    have hlt1 := k1.lt
    by_cases hlt : k < 12
    · have f0 := k1.q.cell 0
      have f1 := k1.q.cell 1
      simp only [List.getElem?_toArray, List.getElem?_cons_zero, List.getElem?_cons_succ] at f0 f1
      obtain ⟨c0, c1⟩ := k1.a.spans k hlt
      obtain ⟨d0, d1⟩ := k1.b.spans k hlt
      have hp0 := ok1 (2 * k) (by omega)
      have hp1 := ok1 (2 * k + 1) (by omega)
      have hp2 := ok2 (2 * k) (by omega)
      have hp3 := ok2 (2 * k + 1) (by omega)
      obtain ⟨Y, hY⟩ : ∃ Y, Y = bestAt (qIn lo hi) a b k := ⟨_, rfl⟩
      have HY := Lib.hid (show (qIn lo hi).best (a (2 * k)) (a (2 * k + 1)) (b (2 * k)) (b (2 * k + 1)) = Y from hY.symm)
      have HC := Lib.hid (show (qIn lo hi).so Y.1 Y.2 = canB (qIn lo hi) a b k by rw [hY]; rfl)
      have HYY := Lib.hid hY
      obtain ⟨Z, hZ⟩ : ∃ Z, Z = worstAt (qIn lo hi) a b k := ⟨_, rfl⟩
      have HZ := Lib.hid (show (qIn lo hi).worst (a (2 * k)) (a (2 * k + 1)) (b (2 * k)) (b (2 * k + 1)) = Z from hZ.symm)
      have HC2 := Lib.hid (show (qIn lo hi).so Z.1 Z.2 = mustB (qIn lo hi) a b k by rw [hZ]; rfl)
      have HZZ := Lib.hid hZ
      clear hY hZ
      go_wp2_with fail
      go_region_held3 (fun w' => w'.cell? ⟨w.heap.size, 1, none⟩ = some (.func (.func 119) #[] #[.pointer (some ⟨p, 0, none⟩)]) ∧ w'.cell? ⟨w.heap.size + 1, k * 2, none⟩ = some (.int .i64 (a (2 * k))) ∧ w'.cell? ⟨w.heap.size + 1, k * 2 + 1, none⟩ = some (.int .i64 (a (2 * k + 1))) ∧ w'.cell? ⟨w.heap.size + 1 + 1, k * 2, none⟩ = some (.int .i64 (b (2 * k))) ∧ w'.cell? ⟨w.heap.size + 1 + 1, k * 2 + 1, none⟩ = some (.int .i64 (b (2 * k + 1)))) (first | exact K3 | exact ⟨f1, c0, c1, d0, d1⟩ | exact keep5A ⟨f1, c0, c1, d0, d1⟩ | exact keep5A K3 | exact keep5S K3 (by simp; omega) (by simp; omega) (by simp; omega))
        ((go_at_call 119; refine (bestIn_any lo hi _ _ _ _ p _ (by first | exact P0 | exact keepL (below_new _ _).drew P0)).mono ?_; rw [HY.out]; rintro e w3 ⟨rfl, hb3⟩; (first | (have N3 : Blk w3 wr.heap.size 46 #[.int .i64 0, .int .i64 0] := Blk.below (Blk.new wr.drew 46 #[.int .i64 0, .int .i64 0]) hb3 (by simp); obtain ⟨e0, e1⟩ := N3.two; obtain ⟨g0, g1⟩ := N3.two_frozen; have K3 := keep5L hb3 (keep5L (below_new wr.drew _) ⟨f1, c0, c1, d0, d1⟩)) | have K3 := keep5L (W := wr.drew) hb3 ⟨f1, c0, c1, d0, d1⟩)))
      · obtain ⟨W2, hW2, k2, hN, R0, R1, hb2⟩ : ∃ W2, W2 = w3.alloc (.cells #[.int .i64 Y.1, .int .i64 Y.2] 46) ∧ VW W2 w.heap.size #[.func (.func 118) #[] #[.pointer (some ⟨p, 0, none⟩)], .func (.func 119) #[] #[.pointer (some ⟨p, 0, none⟩)], .func (.func 120) #[] #[.pointer (some ⟨p, 0, none⟩)]] a b (vdTo (qIn lo hi) a b k) ∧ Blk W2 w3.heap.size 46 #[.int .i64 Y.1, .int .i64 Y.2] ∧ W2.cell? ⟨p, 0, none⟩ = some (.int .i64 lo) ∧ W2.cell? ⟨p, 1, none⟩ = some (.int .i64 hi) ∧ Below w.heap.size w W2 :=
          ⟨_, rfl, (VW.below (k1.drew) hb3).alloc _, Blk.new _ _ _, keepL (below_new _ _) (keepL hb3 P0), keepL (below_new _ _) (keepL hb3 P1), (below_next hb1.drew (by show _ ≤ wr.heap.size; omega) hb3).alloc (by have : wr.heap.size ≤ w3.heap.size := hb3.size; omega) _⟩
        rw [← hW2]
        have hg : w.heap.size + 1 + 1 + 1 + 1 < w3.heap.size := by have : wr.heap.size ≤ w3.heap.size := hb3.size; omega
        clear hW2 hb3 K3
        generalize w3.heap.size = g at hg hN ⊢
        obtain ⟨x0, x1⟩ := hN.two
        have q0 := k2.q.cell 0
        simp only [List.getElem?_toArray, List.getElem?_cons_zero] at q0
        cases hm : canB (qIn lo hi) a b k
        all_goals
          have HM := Lib.hid hm
          clear hm
          go_wp2_with (go_at_call 118; refine (soIn_any lo hi _ _ p _ R0 R1).mono ?_; rw [HC.out, HM.out]; rintro e w5 ⟨rfl, hb5⟩; have k5 := k2.below hb5; obtain ⟨x0, x1⟩ := (hN.below hb5 hN.lt).two; obtain ⟨v0, v1, v2, v3, v4, v5⟩ := k5.cells; have z0 := k5.frozens 0; have z2 := k5.frozens 2; have z3 := k5.frozens 3)
        · clear x0 x1 hN k2 hg v0 v1 v2 v3 v4 v5 z0 z2 z3
          have hb6 := below_next hb2 hb2.size hb5
          have U0 := keepL hb5 R0
          have U1 := keepL hb5 R1
          clear hb5 hb2
          have hlt6 := k5.lt
          have f2 := k5.q.cell 2
          simp only [List.getElem?_toArray, List.getElem?_cons_zero, List.getElem?_cons_succ] at f2
          obtain ⟨c2, c3⟩ := k5.a.spans k hlt
          obtain ⟨d2, d3⟩ := k5.b.spans k hlt
          go_wp2_with fail
          go_region_held3 (fun w' => w'.cell? ⟨w.heap.size, 2, none⟩ = some (.func (.func 120) #[] #[.pointer (some ⟨p, 0, none⟩)]) ∧ w'.cell? ⟨w.heap.size + 1, k * 2, none⟩ = some (.int .i64 (a (2 * k))) ∧ w'.cell? ⟨w.heap.size + 1, k * 2 + 1, none⟩ = some (.int .i64 (a (2 * k + 1))) ∧ w'.cell? ⟨w.heap.size + 1 + 1, k * 2, none⟩ = some (.int .i64 (b (2 * k))) ∧ w'.cell? ⟨w.heap.size + 1 + 1, k * 2 + 1, none⟩ = some (.int .i64 (b (2 * k + 1)))) (first | exact K3 | exact ⟨f2, c2, c3, d2, d3⟩ | exact keep5A ⟨f2, c2, c3, d2, d3⟩ | exact keep5A K3 | exact keep5S K3 (by simp; omega) (by simp; omega) (by simp; omega))
            ((go_at_call 120; refine (worstIn_any lo hi _ _ _ _ p _ (by first | exact U0 | exact keepL (below_new _ _).drew U0) (by first | exact U1 | exact keepL (below_new _ _).drew U1)).mono ?_; rw [HZ.out]; rintro e w3 ⟨rfl, hb3⟩; (first | (have N3 : Blk w3 w5.heap.size 46 #[.int .i64 0, .int .i64 0] := Blk.below (Blk.new w5.drew 46 #[.int .i64 0, .int .i64 0]) hb3 (by simp); obtain ⟨e0, e1⟩ := N3.two; obtain ⟨g0, g1⟩ := N3.two_frozen; have K3 := keep5L hb3 (keep5L (below_new w5.drew _) ⟨f2, c2, c3, d2, d3⟩)) | have K3 := keep5L (W := w5.drew) hb3 ⟨f2, c2, c3, d2, d3⟩)))
          · obtain ⟨W2, hW2, k2, hN, R0, R1, hb2⟩ : ∃ W2, W2 = w3.alloc (.cells #[.int .i64 Z.1, .int .i64 Z.2] 46) ∧ VW W2 w.heap.size #[.func (.func 118) #[] #[.pointer (some ⟨p, 0, none⟩)], .func (.func 119) #[] #[.pointer (some ⟨p, 0, none⟩)], .func (.func 120) #[] #[.pointer (some ⟨p, 0, none⟩)]] a b (vdTo (qIn lo hi) a b k) ∧ Blk W2 w3.heap.size 46 #[.int .i64 Z.1, .int .i64 Z.2] ∧ W2.cell? ⟨p, 0, none⟩ = some (.int .i64 lo) ∧ W2.cell? ⟨p, 1, none⟩ = some (.int .i64 hi) ∧ Below w.heap.size w W2 :=
              ⟨_, rfl, (VW.below (k5.drew) hb3).alloc _, Blk.new _ _ _, keepL (below_new _ _) (keepL hb3 U0), keepL (below_new _ _) (keepL hb3 U1), (below_next hb6.drew (by show _ ≤ w5.heap.size; omega) hb3).alloc (by have : w5.heap.size ≤ w3.heap.size := hb3.size; omega) _⟩
            rw [← hW2]
            have hg : w.heap.size + 1 + 1 + 1 + 1 < w3.heap.size := by have : w5.heap.size ≤ w3.heap.size := hb3.size; omega
            clear hW2 hb3 K3
            generalize w3.heap.size = g at hg hN ⊢
            obtain ⟨x0, x1⟩ := hN.two
            have q0 := k2.q.cell 0
            simp only [List.getElem?_toArray, List.getElem?_cons_zero] at q0
            cases hm : mustB (qIn lo hi) a b k
            all_goals
              have HM2 := Lib.hid hm
              clear hm
              go_wp2_with (go_at_call 118; refine (soIn_any lo hi _ _ p _ R0 R1).mono ?_; rw [HC2.out, HM2.out]; rintro e w5 ⟨rfl, hb5⟩; have k5 := k2.below hb5; obtain ⟨x0, x1⟩ := (hN.below hb5 hN.lt).two; obtain ⟨v0, v1, v2, v3, v4, v5⟩ := k5.cells; have z1 := k5.frozens 1; have z4 := k5.frozens 4; have z5 := k5.frozens 5)
            · go_region
              go_wp2
              go_roundw
              case rel => exact ⟨k + 1, by omega, by go_num, (by have e : vdTo (qIn lo hi) a b (k + 1) = _ := vdTo_step (qIn lo hi) a b k; rw [e, HM.out, HM2.out, ← HYY.out, ← HZZ.out]; exact (k5.setNo _ _ _).drew), cell_far _ (cell_far _ (cell_far _ (keepL hb5 R0) (by show p ≠ w.heap.size + 1 + 1 + 1 + 1; omega)) (by show p ≠ w.heap.size + 1 + 1 + 1 + 1; omega)) (by show p ≠ w.heap.size + 1 + 1 + 1 + 1; omega), cell_far _ (cell_far _ (cell_far _ (keepL hb5 R1) (by show p ≠ w.heap.size + 1 + 1 + 1 + 1; omega)) (by show p ≠ w.heap.size + 1 + 1 + 1 + 1; omega)) (by show p ≠ w.heap.size + 1 + 1 + 1 + 1; omega), ((((below_next hb2 hb2.size hb5).setCell (by show _ ≤ w.heap.size + 1 + 1 + 1 + 1; omega) _).setCell (by show _ ≤ w.heap.size + 1 + 1 + 1 + 1; omega) _).setCell (by show _ ≤ w.heap.size + 1 + 1 + 1 + 1; omega) _).drew⟩
              case measure => simp [intOf]; omega
            · go_roundw
              case rel => exact ⟨k + 1, by omega, by go_num, (by have e : vdTo (qIn lo hi) a b (k + 1) = _ := vdTo_step (qIn lo hi) a b k; rw [e, HM.out, HM2.out, ← HYY.out, ← HZZ.out]; exact k5), keepL hb5 R0, keepL hb5 R1, below_next hb2 hb2.size hb5⟩
              case measure => simp [intOf]; omega
          · obtain ⟨W2, hW2, k2, hN, R0, R1, hb2⟩ : ∃ W2, W2 = (w3.setCell ⟨w5.heap.size, 0, none⟩ (.int .i64 Z.1)).setCell ⟨w5.heap.size, 1, none⟩ (.int .i64 Z.2) ∧ VW W2 w.heap.size #[.func (.func 118) #[] #[.pointer (some ⟨p, 0, none⟩)], .func (.func 119) #[] #[.pointer (some ⟨p, 0, none⟩)], .func (.func 120) #[] #[.pointer (some ⟨p, 0, none⟩)]] a b (vdTo (qIn lo hi) a b k) ∧ Blk W2 w5.heap.size 46 #[.int .i64 Z.1, .int .i64 Z.2] ∧ W2.cell? ⟨p, 0, none⟩ = some (.int .i64 lo) ∧ W2.cell? ⟨p, 1, none⟩ = some (.int .i64 hi) ∧ Below w.heap.size w W2 :=
              ⟨_, rfl, ((VW.below (k5.drew.alloc _) hb3).far (by show _ < w5.heap.size; omega) _).far (by show _ < w5.heap.size; omega) _, N3.twoStore _ _, cell_far _ (cell_far _ (keepL hb3 (keepL (below_new _ _).drew U0)) (by show p ≠ w5.heap.size; omega)) (by show p ≠ w5.heap.size; omega), cell_far _ (cell_far _ (keepL hb3 (keepL (below_new _ _).drew U1)) (by show p ≠ w5.heap.size; omega)) (by show p ≠ w5.heap.size; omega), ((below_next (hb6.drew.alloc (by show _ ≤ w5.heap.size; omega) _) (by simp; omega) hb3).setCell (by show _ ≤ w5.heap.size; omega) _).setCell (by show _ ≤ w5.heap.size; omega) _⟩
            rw [← hW2]
            have hg : w.heap.size + 1 + 1 + 1 + 1 < w5.heap.size := by omega
            clear hW2 hb3 K3 N3 e0 e1 g0 g1
            generalize w5.heap.size = g at hg hN ⊢
            obtain ⟨x0, x1⟩ := hN.two
            have q0 := k2.q.cell 0
            simp only [List.getElem?_toArray, List.getElem?_cons_zero] at q0
            cases hm : mustB (qIn lo hi) a b k
            all_goals
              have HM2 := Lib.hid hm
              clear hm
              go_wp2_with (go_at_call 118; refine (soIn_any lo hi _ _ p _ R0 R1).mono ?_; rw [HC2.out, HM2.out]; rintro e w5 ⟨rfl, hb5⟩; have k5 := k2.below hb5; obtain ⟨x0, x1⟩ := (hN.below hb5 hN.lt).two; obtain ⟨v0, v1, v2, v3, v4, v5⟩ := k5.cells; have z1 := k5.frozens 1; have z4 := k5.frozens 4; have z5 := k5.frozens 5)
            · go_region
              go_wp2
              go_roundw
              case rel => exact ⟨k + 1, by omega, by go_num, (by have e : vdTo (qIn lo hi) a b (k + 1) = _ := vdTo_step (qIn lo hi) a b k; rw [e, HM.out, HM2.out, ← HYY.out, ← HZZ.out]; exact (k5.setNo _ _ _).drew), cell_far _ (cell_far _ (cell_far _ (keepL hb5 R0) (by show p ≠ w.heap.size + 1 + 1 + 1 + 1; omega)) (by show p ≠ w.heap.size + 1 + 1 + 1 + 1; omega)) (by show p ≠ w.heap.size + 1 + 1 + 1 + 1; omega), cell_far _ (cell_far _ (cell_far _ (keepL hb5 R1) (by show p ≠ w.heap.size + 1 + 1 + 1 + 1; omega)) (by show p ≠ w.heap.size + 1 + 1 + 1 + 1; omega)) (by show p ≠ w.heap.size + 1 + 1 + 1 + 1; omega), ((((below_next hb2 hb2.size hb5).setCell (by show _ ≤ w.heap.size + 1 + 1 + 1 + 1; omega) _).setCell (by show _ ≤ w.heap.size + 1 + 1 + 1 + 1; omega) _).setCell (by show _ ≤ w.heap.size + 1 + 1 + 1 + 1; omega) _).drew⟩
              case measure => simp [intOf]; omega
            · go_roundw
              case rel => exact ⟨k + 1, by omega, by go_num, (by have e : vdTo (qIn lo hi) a b (k + 1) = _ := vdTo_step (qIn lo hi) a b k; rw [e, HM.out, HM2.out, ← HYY.out, ← HZZ.out]; exact k5), keepL hb5 R0, keepL hb5 R1, below_next hb2 hb2.size hb5⟩
              case measure => simp [intOf]; omega
        · go_region
          obtain ⟨W6, hW6⟩ : ∃ W6, W6 = (((w5.setCell ⟨w.heap.size + 1 + 1 + 1 + 1, 0, none⟩ (.int .i64 ((k : Int) + 1))).setCell ⟨w.heap.size + 1 + 1 + 1 + 1, 2, none⟩ (.int .i64 Y.1)).setCell ⟨w.heap.size + 1 + 1 + 1 + 1, 3, none⟩ (.int .i64 Y.2)).drew := ⟨_, rfl⟩
          have k6 : VW W6 w.heap.size #[.func (.func 118) #[] #[.pointer (some ⟨p, 0, none⟩)], .func (.func 119) #[] #[.pointer (some ⟨p, 0, none⟩)], .func (.func 120) #[] #[.pointer (some ⟨p, 0, none⟩)]] a b ⟨(k : Int) + 1, mustTo (qIn lo hi) a b k, Y.1, Y.2, (noTo (qIn lo hi) a b k).1, (noTo (qIn lo hi) a b k).2⟩ := by rw [hW6]; exact (k5.setYes _ _ _).drew
          have hb6 : Below w.heap.size w W6 := by rw [hW6]; exact ((((below_next hb2 hb2.size hb5).setCell (by show _ ≤ w.heap.size + 1 + 1 + 1 + 1; omega) _).setCell (by show _ ≤ w.heap.size + 1 + 1 + 1 + 1; omega) _).setCell (by show _ ≤ w.heap.size + 1 + 1 + 1 + 1; omega) _).drew
          have U0 : W6.cell? ⟨p, 0, none⟩ = some (.int .i64 lo) := by rw [hW6]; exact cell_far _ (cell_far _ (cell_far _ (keepL hb5 R0) (by show p ≠ w.heap.size + 1 + 1 + 1 + 1; omega)) (by show p ≠ w.heap.size + 1 + 1 + 1 + 1; omega)) (by show p ≠ w.heap.size + 1 + 1 + 1 + 1; omega)
          have U1 : W6.cell? ⟨p, 1, none⟩ = some (.int .i64 hi) := by rw [hW6]; exact cell_far _ (cell_far _ (cell_far _ (keepL hb5 R1) (by show p ≠ w.heap.size + 1 + 1 + 1 + 1; omega)) (by show p ≠ w.heap.size + 1 + 1 + 1 + 1; omega)) (by show p ≠ w.heap.size + 1 + 1 + 1 + 1; omega)
          rw [← hW6]
          clear hW6 hb5 hb2 x0 x1 hN k2 hg v0 v1 v2 v3 v4 v5 z0 z2 z3
          have hlt6 := k6.lt
          have f2 := k6.q.cell 2
          simp only [List.getElem?_toArray, List.getElem?_cons_zero, List.getElem?_cons_succ] at f2
          obtain ⟨c2, c3⟩ := k6.a.spans k hlt
          obtain ⟨d2, d3⟩ := k6.b.spans k hlt
          go_wp2_with fail
          go_region_held3 (fun w' => w'.cell? ⟨w.heap.size, 2, none⟩ = some (.func (.func 120) #[] #[.pointer (some ⟨p, 0, none⟩)]) ∧ w'.cell? ⟨w.heap.size + 1, k * 2, none⟩ = some (.int .i64 (a (2 * k))) ∧ w'.cell? ⟨w.heap.size + 1, k * 2 + 1, none⟩ = some (.int .i64 (a (2 * k + 1))) ∧ w'.cell? ⟨w.heap.size + 1 + 1, k * 2, none⟩ = some (.int .i64 (b (2 * k))) ∧ w'.cell? ⟨w.heap.size + 1 + 1, k * 2 + 1, none⟩ = some (.int .i64 (b (2 * k + 1)))) (first | exact K3 | exact ⟨f2, c2, c3, d2, d3⟩ | exact keep5A ⟨f2, c2, c3, d2, d3⟩ | exact keep5A K3 | exact keep5S K3 (by simp; omega) (by simp; omega) (by simp; omega))
            ((go_at_call 120; refine (worstIn_any lo hi _ _ _ _ p _ (by first | exact U0 | exact keepL (below_new _ _).drew U0) (by first | exact U1 | exact keepL (below_new _ _).drew U1)).mono ?_; rw [HZ.out]; rintro e w3 ⟨rfl, hb3⟩; (first | (have N3 : Blk w3 W6.heap.size 46 #[.int .i64 0, .int .i64 0] := Blk.below (Blk.new W6.drew 46 #[.int .i64 0, .int .i64 0]) hb3 (by simp); obtain ⟨e0, e1⟩ := N3.two; obtain ⟨g0, g1⟩ := N3.two_frozen; have K3 := keep5L hb3 (keep5L (below_new W6.drew _) ⟨f2, c2, c3, d2, d3⟩)) | have K3 := keep5L (W := W6.drew) hb3 ⟨f2, c2, c3, d2, d3⟩)))
          · obtain ⟨W2, hW2, k2, hN, R0, R1, hb2⟩ : ∃ W2, W2 = w3.alloc (.cells #[.int .i64 Z.1, .int .i64 Z.2] 46) ∧ VW W2 w.heap.size #[.func (.func 118) #[] #[.pointer (some ⟨p, 0, none⟩)], .func (.func 119) #[] #[.pointer (some ⟨p, 0, none⟩)], .func (.func 120) #[] #[.pointer (some ⟨p, 0, none⟩)]] a b (⟨(k : Int) + 1, mustTo (qIn lo hi) a b k, Y.1, Y.2, (noTo (qIn lo hi) a b k).1, (noTo (qIn lo hi) a b k).2⟩) ∧ Blk W2 w3.heap.size 46 #[.int .i64 Z.1, .int .i64 Z.2] ∧ W2.cell? ⟨p, 0, none⟩ = some (.int .i64 lo) ∧ W2.cell? ⟨p, 1, none⟩ = some (.int .i64 hi) ∧ Below w.heap.size w W2 :=
              ⟨_, rfl, (VW.below (k6.drew) hb3).alloc _, Blk.new _ _ _, keepL (below_new _ _) (keepL hb3 U0), keepL (below_new _ _) (keepL hb3 U1), (below_next hb6.drew (by show _ ≤ W6.heap.size; omega) hb3).alloc (by have : W6.heap.size ≤ w3.heap.size := hb3.size; omega) _⟩
            rw [← hW2]
            have hg : w.heap.size + 1 + 1 + 1 + 1 < w3.heap.size := by have : W6.heap.size ≤ w3.heap.size := hb3.size; omega
            clear hW2 hb3 K3
            generalize w3.heap.size = g at hg hN ⊢
            obtain ⟨x0, x1⟩ := hN.two
            have q0 := k2.q.cell 0
            simp only [List.getElem?_toArray, List.getElem?_cons_zero] at q0
            cases hm : mustB (qIn lo hi) a b k
            all_goals
              have HM2 := Lib.hid hm
              clear hm
              go_wp2_with (go_at_call 118; refine (soIn_any lo hi _ _ p _ R0 R1).mono ?_; rw [HC2.out, HM2.out]; rintro e w5 ⟨rfl, hb5⟩; have k5 := k2.below hb5; obtain ⟨x0, x1⟩ := (hN.below hb5 hN.lt).two; obtain ⟨v0, v1, v2, v3, v4, v5⟩ := k5.cells; have z1 := k5.frozens 1; have z4 := k5.frozens 4; have z5 := k5.frozens 5)
            · go_region
              go_wp2
              go_roundw
              case rel => exact ⟨k + 1, by omega, by go_num, (by have e : vdTo (qIn lo hi) a b (k + 1) = _ := vdTo_step (qIn lo hi) a b k; rw [e, HM.out, HM2.out, ← HYY.out, ← HZZ.out]; exact (k5.setNo _ _ _).drew), cell_far _ (cell_far _ (cell_far _ (keepL hb5 R0) (by show p ≠ w.heap.size + 1 + 1 + 1 + 1; omega)) (by show p ≠ w.heap.size + 1 + 1 + 1 + 1; omega)) (by show p ≠ w.heap.size + 1 + 1 + 1 + 1; omega), cell_far _ (cell_far _ (cell_far _ (keepL hb5 R1) (by show p ≠ w.heap.size + 1 + 1 + 1 + 1; omega)) (by show p ≠ w.heap.size + 1 + 1 + 1 + 1; omega)) (by show p ≠ w.heap.size + 1 + 1 + 1 + 1; omega), ((((below_next hb2 hb2.size hb5).setCell (by show _ ≤ w.heap.size + 1 + 1 + 1 + 1; omega) _).setCell (by show _ ≤ w.heap.size + 1 + 1 + 1 + 1; omega) _).setCell (by show _ ≤ w.heap.size + 1 + 1 + 1 + 1; omega) _).drew⟩
              case measure => simp [intOf]; omega
            · go_roundw
              case rel => exact ⟨k + 1, by omega, by go_num, (by have e : vdTo (qIn lo hi) a b (k + 1) = _ := vdTo_step (qIn lo hi) a b k; rw [e, HM.out, HM2.out, ← HYY.out, ← HZZ.out]; exact k5), keepL hb5 R0, keepL hb5 R1, below_next hb2 hb2.size hb5⟩
              case measure => simp [intOf]; omega
          · obtain ⟨W2, hW2, k2, hN, R0, R1, hb2⟩ : ∃ W2, W2 = (w3.setCell ⟨W6.heap.size, 0, none⟩ (.int .i64 Z.1)).setCell ⟨W6.heap.size, 1, none⟩ (.int .i64 Z.2) ∧ VW W2 w.heap.size #[.func (.func 118) #[] #[.pointer (some ⟨p, 0, none⟩)], .func (.func 119) #[] #[.pointer (some ⟨p, 0, none⟩)], .func (.func 120) #[] #[.pointer (some ⟨p, 0, none⟩)]] a b (⟨(k : Int) + 1, mustTo (qIn lo hi) a b k, Y.1, Y.2, (noTo (qIn lo hi) a b k).1, (noTo (qIn lo hi) a b k).2⟩) ∧ Blk W2 W6.heap.size 46 #[.int .i64 Z.1, .int .i64 Z.2] ∧ W2.cell? ⟨p, 0, none⟩ = some (.int .i64 lo) ∧ W2.cell? ⟨p, 1, none⟩ = some (.int .i64 hi) ∧ Below w.heap.size w W2 :=
              ⟨_, rfl, ((VW.below (k6.drew.alloc _) hb3).far (by show _ < W6.heap.size; omega) _).far (by show _ < W6.heap.size; omega) _, N3.twoStore _ _, cell_far _ (cell_far _ (keepL hb3 (keepL (below_new _ _).drew U0)) (by show p ≠ W6.heap.size; omega)) (by show p ≠ W6.heap.size; omega), cell_far _ (cell_far _ (keepL hb3 (keepL (below_new _ _).drew U1)) (by show p ≠ W6.heap.size; omega)) (by show p ≠ W6.heap.size; omega), ((below_next (hb6.drew.alloc (by show _ ≤ W6.heap.size; omega) _) (by simp; omega) hb3).setCell (by show _ ≤ W6.heap.size; omega) _).setCell (by show _ ≤ W6.heap.size; omega) _⟩
            rw [← hW2]
            have hg : w.heap.size + 1 + 1 + 1 + 1 < W6.heap.size := by omega
            clear hW2 hb3 K3 N3 e0 e1 g0 g1
            generalize W6.heap.size = g at hg hN ⊢
            obtain ⟨x0, x1⟩ := hN.two
            have q0 := k2.q.cell 0
            simp only [List.getElem?_toArray, List.getElem?_cons_zero] at q0
            cases hm : mustB (qIn lo hi) a b k
            all_goals
              have HM2 := Lib.hid hm
              clear hm
              go_wp2_with (go_at_call 118; refine (soIn_any lo hi _ _ p _ R0 R1).mono ?_; rw [HC2.out, HM2.out]; rintro e w5 ⟨rfl, hb5⟩; have k5 := k2.below hb5; obtain ⟨x0, x1⟩ := (hN.below hb5 hN.lt).two; obtain ⟨v0, v1, v2, v3, v4, v5⟩ := k5.cells; have z1 := k5.frozens 1; have z4 := k5.frozens 4; have z5 := k5.frozens 5)
            · go_region
              go_wp2
              go_roundw
              case rel => exact ⟨k + 1, by omega, by go_num, (by have e : vdTo (qIn lo hi) a b (k + 1) = _ := vdTo_step (qIn lo hi) a b k; rw [e, HM.out, HM2.out, ← HYY.out, ← HZZ.out]; exact (k5.setNo _ _ _).drew), cell_far _ (cell_far _ (cell_far _ (keepL hb5 R0) (by show p ≠ w.heap.size + 1 + 1 + 1 + 1; omega)) (by show p ≠ w.heap.size + 1 + 1 + 1 + 1; omega)) (by show p ≠ w.heap.size + 1 + 1 + 1 + 1; omega), cell_far _ (cell_far _ (cell_far _ (keepL hb5 R1) (by show p ≠ w.heap.size + 1 + 1 + 1 + 1; omega)) (by show p ≠ w.heap.size + 1 + 1 + 1 + 1; omega)) (by show p ≠ w.heap.size + 1 + 1 + 1 + 1; omega), ((((below_next hb2 hb2.size hb5).setCell (by show _ ≤ w.heap.size + 1 + 1 + 1 + 1; omega) _).setCell (by show _ ≤ w.heap.size + 1 + 1 + 1 + 1; omega) _).setCell (by show _ ≤ w.heap.size + 1 + 1 + 1 + 1; omega) _).drew⟩
              case measure => simp [intOf]; omega
            · go_roundw
              case rel => exact ⟨k + 1, by omega, by go_num, (by have e : vdTo (qIn lo hi) a b (k + 1) = _ := vdTo_step (qIn lo hi) a b k; rw [e, HM.out, HM2.out, ← HYY.out, ← HZZ.out]; exact k5), keepL hb5 R0, keepL hb5 R1, below_next hb2 hb2.size hb5⟩
              case measure => simp [intOf]; omega
      · obtain ⟨W2, hW2, k2, hN, R0, R1, hb2⟩ : ∃ W2, W2 = (w3.setCell ⟨wr.heap.size, 0, none⟩ (.int .i64 Y.1)).setCell ⟨wr.heap.size, 1, none⟩ (.int .i64 Y.2) ∧ VW W2 w.heap.size #[.func (.func 118) #[] #[.pointer (some ⟨p, 0, none⟩)], .func (.func 119) #[] #[.pointer (some ⟨p, 0, none⟩)], .func (.func 120) #[] #[.pointer (some ⟨p, 0, none⟩)]] a b (vdTo (qIn lo hi) a b k) ∧ Blk W2 wr.heap.size 46 #[.int .i64 Y.1, .int .i64 Y.2] ∧ W2.cell? ⟨p, 0, none⟩ = some (.int .i64 lo) ∧ W2.cell? ⟨p, 1, none⟩ = some (.int .i64 hi) ∧ Below w.heap.size w W2 :=
          ⟨_, rfl, ((VW.below (k1.drew.alloc _) hb3).far (by show _ < wr.heap.size; omega) _).far (by show _ < wr.heap.size; omega) _, N3.twoStore _ _, cell_far _ (cell_far _ (keepL hb3 (keepL (below_new _ _).drew P0)) (by show p ≠ wr.heap.size; omega)) (by show p ≠ wr.heap.size; omega), cell_far _ (cell_far _ (keepL hb3 (keepL (below_new _ _).drew P1)) (by show p ≠ wr.heap.size; omega)) (by show p ≠ wr.heap.size; omega), ((below_next (hb1.drew.alloc (by show _ ≤ wr.heap.size; omega) _) (by simp; omega) hb3).setCell (by show _ ≤ wr.heap.size; omega) _).setCell (by show _ ≤ wr.heap.size; omega) _⟩
        rw [← hW2]
        have hg : w.heap.size + 1 + 1 + 1 + 1 < wr.heap.size := by omega
        clear hW2 hb3 K3 N3 e0 e1 g0 g1
        generalize wr.heap.size = g at hg hN ⊢
        obtain ⟨x0, x1⟩ := hN.two
        have q0 := k2.q.cell 0
        simp only [List.getElem?_toArray, List.getElem?_cons_zero] at q0
        cases hm : canB (qIn lo hi) a b k
        all_goals
          have HM := Lib.hid hm
          clear hm
          go_wp2_with (go_at_call 118; refine (soIn_any lo hi _ _ p _ R0 R1).mono ?_; rw [HC.out, HM.out]; rintro e w5 ⟨rfl, hb5⟩; have k5 := k2.below hb5; obtain ⟨x0, x1⟩ := (hN.below hb5 hN.lt).two; obtain ⟨v0, v1, v2, v3, v4, v5⟩ := k5.cells; have z0 := k5.frozens 0; have z2 := k5.frozens 2; have z3 := k5.frozens 3)
        · clear x0 x1 hN k2 hg v0 v1 v2 v3 v4 v5 z0 z2 z3
          have hb6 := below_next hb2 hb2.size hb5
          have U0 := keepL hb5 R0
          have U1 := keepL hb5 R1
          clear hb5 hb2
          have hlt6 := k5.lt
          have f2 := k5.q.cell 2
          simp only [List.getElem?_toArray, List.getElem?_cons_zero, List.getElem?_cons_succ] at f2
          obtain ⟨c2, c3⟩ := k5.a.spans k hlt
          obtain ⟨d2, d3⟩ := k5.b.spans k hlt
          go_wp2_with fail
          go_region_held3 (fun w' => w'.cell? ⟨w.heap.size, 2, none⟩ = some (.func (.func 120) #[] #[.pointer (some ⟨p, 0, none⟩)]) ∧ w'.cell? ⟨w.heap.size + 1, k * 2, none⟩ = some (.int .i64 (a (2 * k))) ∧ w'.cell? ⟨w.heap.size + 1, k * 2 + 1, none⟩ = some (.int .i64 (a (2 * k + 1))) ∧ w'.cell? ⟨w.heap.size + 1 + 1, k * 2, none⟩ = some (.int .i64 (b (2 * k))) ∧ w'.cell? ⟨w.heap.size + 1 + 1, k * 2 + 1, none⟩ = some (.int .i64 (b (2 * k + 1)))) (first | exact K3 | exact ⟨f2, c2, c3, d2, d3⟩ | exact keep5A ⟨f2, c2, c3, d2, d3⟩ | exact keep5A K3 | exact keep5S K3 (by simp; omega) (by simp; omega) (by simp; omega))
            ((go_at_call 120; refine (worstIn_any lo hi _ _ _ _ p _ (by first | exact U0 | exact keepL (below_new _ _).drew U0) (by first | exact U1 | exact keepL (below_new _ _).drew U1)).mono ?_; rw [HZ.out]; rintro e w3 ⟨rfl, hb3⟩; (first | (have N3 : Blk w3 w5.heap.size 46 #[.int .i64 0, .int .i64 0] := Blk.below (Blk.new w5.drew 46 #[.int .i64 0, .int .i64 0]) hb3 (by simp); obtain ⟨e0, e1⟩ := N3.two; obtain ⟨g0, g1⟩ := N3.two_frozen; have K3 := keep5L hb3 (keep5L (below_new w5.drew _) ⟨f2, c2, c3, d2, d3⟩)) | have K3 := keep5L (W := w5.drew) hb3 ⟨f2, c2, c3, d2, d3⟩)))
          · obtain ⟨W2, hW2, k2, hN, R0, R1, hb2⟩ : ∃ W2, W2 = w3.alloc (.cells #[.int .i64 Z.1, .int .i64 Z.2] 46) ∧ VW W2 w.heap.size #[.func (.func 118) #[] #[.pointer (some ⟨p, 0, none⟩)], .func (.func 119) #[] #[.pointer (some ⟨p, 0, none⟩)], .func (.func 120) #[] #[.pointer (some ⟨p, 0, none⟩)]] a b (vdTo (qIn lo hi) a b k) ∧ Blk W2 w3.heap.size 46 #[.int .i64 Z.1, .int .i64 Z.2] ∧ W2.cell? ⟨p, 0, none⟩ = some (.int .i64 lo) ∧ W2.cell? ⟨p, 1, none⟩ = some (.int .i64 hi) ∧ Below w.heap.size w W2 :=
              ⟨_, rfl, (VW.below (k5.drew) hb3).alloc _, Blk.new _ _ _, keepL (below_new _ _) (keepL hb3 U0), keepL (below_new _ _) (keepL hb3 U1), (below_next hb6.drew (by show _ ≤ w5.heap.size; omega) hb3).alloc (by have : w5.heap.size ≤ w3.heap.size := hb3.size; omega) _⟩
            rw [← hW2]
            have hg : w.heap.size + 1 + 1 + 1 + 1 < w3.heap.size := by have : w5.heap.size ≤ w3.heap.size := hb3.size; omega
            clear hW2 hb3 K3
            generalize w3.heap.size = g at hg hN ⊢
            obtain ⟨x0, x1⟩ := hN.two
            have q0 := k2.q.cell 0
            simp only [List.getElem?_toArray, List.getElem?_cons_zero] at q0
            cases hm : mustB (qIn lo hi) a b k
            all_goals
              have HM2 := Lib.hid hm
              clear hm
              go_wp2_with (go_at_call 118; refine (soIn_any lo hi _ _ p _ R0 R1).mono ?_; rw [HC2.out, HM2.out]; rintro e w5 ⟨rfl, hb5⟩; have k5 := k2.below hb5; obtain ⟨x0, x1⟩ := (hN.below hb5 hN.lt).two; obtain ⟨v0, v1, v2, v3, v4, v5⟩ := k5.cells; have z1 := k5.frozens 1; have z4 := k5.frozens 4; have z5 := k5.frozens 5)
            · go_region
              go_wp2
              go_roundw
              case rel => exact ⟨k + 1, by omega, by go_num, (by have e : vdTo (qIn lo hi) a b (k + 1) = _ := vdTo_step (qIn lo hi) a b k; rw [e, HM.out, HM2.out, ← HYY.out, ← HZZ.out]; exact (k5.setNo _ _ _).drew), cell_far _ (cell_far _ (cell_far _ (keepL hb5 R0) (by show p ≠ w.heap.size + 1 + 1 + 1 + 1; omega)) (by show p ≠ w.heap.size + 1 + 1 + 1 + 1; omega)) (by show p ≠ w.heap.size + 1 + 1 + 1 + 1; omega), cell_far _ (cell_far _ (cell_far _ (keepL hb5 R1) (by show p ≠ w.heap.size + 1 + 1 + 1 + 1; omega)) (by show p ≠ w.heap.size + 1 + 1 + 1 + 1; omega)) (by show p ≠ w.heap.size + 1 + 1 + 1 + 1; omega), ((((below_next hb2 hb2.size hb5).setCell (by show _ ≤ w.heap.size + 1 + 1 + 1 + 1; omega) _).setCell (by show _ ≤ w.heap.size + 1 + 1 + 1 + 1; omega) _).setCell (by show _ ≤ w.heap.size + 1 + 1 + 1 + 1; omega) _).drew⟩
              case measure => simp [intOf]; omega
            · go_roundw
              case rel => exact ⟨k + 1, by omega, by go_num, (by have e : vdTo (qIn lo hi) a b (k + 1) = _ := vdTo_step (qIn lo hi) a b k; rw [e, HM.out, HM2.out, ← HYY.out, ← HZZ.out]; exact k5), keepL hb5 R0, keepL hb5 R1, below_next hb2 hb2.size hb5⟩
              case measure => simp [intOf]; omega
          · obtain ⟨W2, hW2, k2, hN, R0, R1, hb2⟩ : ∃ W2, W2 = (w3.setCell ⟨w5.heap.size, 0, none⟩ (.int .i64 Z.1)).setCell ⟨w5.heap.size, 1, none⟩ (.int .i64 Z.2) ∧ VW W2 w.heap.size #[.func (.func 118) #[] #[.pointer (some ⟨p, 0, none⟩)], .func (.func 119) #[] #[.pointer (some ⟨p, 0, none⟩)], .func (.func 120) #[] #[.pointer (some ⟨p, 0, none⟩)]] a b (vdTo (qIn lo hi) a b k) ∧ Blk W2 w5.heap.size 46 #[.int .i64 Z.1, .int .i64 Z.2] ∧ W2.cell? ⟨p, 0, none⟩ = some (.int .i64 lo) ∧ W2.cell? ⟨p, 1, none⟩ = some (.int .i64 hi) ∧ Below w.heap.size w W2 :=
              ⟨_, rfl, ((VW.below (k5.drew.alloc _) hb3).far (by show _ < w5.heap.size; omega) _).far (by show _ < w5.heap.size; omega) _, N3.twoStore _ _, cell_far _ (cell_far _ (keepL hb3 (keepL (below_new _ _).drew U0)) (by show p ≠ w5.heap.size; omega)) (by show p ≠ w5.heap.size; omega), cell_far _ (cell_far _ (keepL hb3 (keepL (below_new _ _).drew U1)) (by show p ≠ w5.heap.size; omega)) (by show p ≠ w5.heap.size; omega), ((below_next (hb6.drew.alloc (by show _ ≤ w5.heap.size; omega) _) (by simp; omega) hb3).setCell (by show _ ≤ w5.heap.size; omega) _).setCell (by show _ ≤ w5.heap.size; omega) _⟩
            rw [← hW2]
            have hg : w.heap.size + 1 + 1 + 1 + 1 < w5.heap.size := by omega
            clear hW2 hb3 K3 N3 e0 e1 g0 g1
            generalize w5.heap.size = g at hg hN ⊢
            obtain ⟨x0, x1⟩ := hN.two
            have q0 := k2.q.cell 0
            simp only [List.getElem?_toArray, List.getElem?_cons_zero] at q0
            cases hm : mustB (qIn lo hi) a b k
            all_goals
              have HM2 := Lib.hid hm
              clear hm
              go_wp2_with (go_at_call 118; refine (soIn_any lo hi _ _ p _ R0 R1).mono ?_; rw [HC2.out, HM2.out]; rintro e w5 ⟨rfl, hb5⟩; have k5 := k2.below hb5; obtain ⟨x0, x1⟩ := (hN.below hb5 hN.lt).two; obtain ⟨v0, v1, v2, v3, v4, v5⟩ := k5.cells; have z1 := k5.frozens 1; have z4 := k5.frozens 4; have z5 := k5.frozens 5)
            · go_region
              go_wp2
              go_roundw
              case rel => exact ⟨k + 1, by omega, by go_num, (by have e : vdTo (qIn lo hi) a b (k + 1) = _ := vdTo_step (qIn lo hi) a b k; rw [e, HM.out, HM2.out, ← HYY.out, ← HZZ.out]; exact (k5.setNo _ _ _).drew), cell_far _ (cell_far _ (cell_far _ (keepL hb5 R0) (by show p ≠ w.heap.size + 1 + 1 + 1 + 1; omega)) (by show p ≠ w.heap.size + 1 + 1 + 1 + 1; omega)) (by show p ≠ w.heap.size + 1 + 1 + 1 + 1; omega), cell_far _ (cell_far _ (cell_far _ (keepL hb5 R1) (by show p ≠ w.heap.size + 1 + 1 + 1 + 1; omega)) (by show p ≠ w.heap.size + 1 + 1 + 1 + 1; omega)) (by show p ≠ w.heap.size + 1 + 1 + 1 + 1; omega), ((((below_next hb2 hb2.size hb5).setCell (by show _ ≤ w.heap.size + 1 + 1 + 1 + 1; omega) _).setCell (by show _ ≤ w.heap.size + 1 + 1 + 1 + 1; omega) _).setCell (by show _ ≤ w.heap.size + 1 + 1 + 1 + 1; omega) _).drew⟩
              case measure => simp [intOf]; omega
            · go_roundw
              case rel => exact ⟨k + 1, by omega, by go_num, (by have e : vdTo (qIn lo hi) a b (k + 1) = _ := vdTo_step (qIn lo hi) a b k; rw [e, HM.out, HM2.out, ← HYY.out, ← HZZ.out]; exact k5), keepL hb5 R0, keepL hb5 R1, below_next hb2 hb2.size hb5⟩
              case measure => simp [intOf]; omega
        · go_region
          obtain ⟨W6, hW6⟩ : ∃ W6, W6 = (((w5.setCell ⟨w.heap.size + 1 + 1 + 1 + 1, 0, none⟩ (.int .i64 ((k : Int) + 1))).setCell ⟨w.heap.size + 1 + 1 + 1 + 1, 2, none⟩ (.int .i64 Y.1)).setCell ⟨w.heap.size + 1 + 1 + 1 + 1, 3, none⟩ (.int .i64 Y.2)).drew := ⟨_, rfl⟩
          have k6 : VW W6 w.heap.size #[.func (.func 118) #[] #[.pointer (some ⟨p, 0, none⟩)], .func (.func 119) #[] #[.pointer (some ⟨p, 0, none⟩)], .func (.func 120) #[] #[.pointer (some ⟨p, 0, none⟩)]] a b ⟨(k : Int) + 1, mustTo (qIn lo hi) a b k, Y.1, Y.2, (noTo (qIn lo hi) a b k).1, (noTo (qIn lo hi) a b k).2⟩ := by rw [hW6]; exact (k5.setYes _ _ _).drew
          have hb6 : Below w.heap.size w W6 := by rw [hW6]; exact ((((below_next hb2 hb2.size hb5).setCell (by show _ ≤ w.heap.size + 1 + 1 + 1 + 1; omega) _).setCell (by show _ ≤ w.heap.size + 1 + 1 + 1 + 1; omega) _).setCell (by show _ ≤ w.heap.size + 1 + 1 + 1 + 1; omega) _).drew
          have U0 : W6.cell? ⟨p, 0, none⟩ = some (.int .i64 lo) := by rw [hW6]; exact cell_far _ (cell_far _ (cell_far _ (keepL hb5 R0) (by show p ≠ w.heap.size + 1 + 1 + 1 + 1; omega)) (by show p ≠ w.heap.size + 1 + 1 + 1 + 1; omega)) (by show p ≠ w.heap.size + 1 + 1 + 1 + 1; omega)
          have U1 : W6.cell? ⟨p, 1, none⟩ = some (.int .i64 hi) := by rw [hW6]; exact cell_far _ (cell_far _ (cell_far _ (keepL hb5 R1) (by show p ≠ w.heap.size + 1 + 1 + 1 + 1; omega)) (by show p ≠ w.heap.size + 1 + 1 + 1 + 1; omega)) (by show p ≠ w.heap.size + 1 + 1 + 1 + 1; omega)
          rw [← hW6]
          clear hW6 hb5 hb2 x0 x1 hN k2 hg v0 v1 v2 v3 v4 v5 z0 z2 z3
          have hlt6 := k6.lt
          have f2 := k6.q.cell 2
          simp only [List.getElem?_toArray, List.getElem?_cons_zero, List.getElem?_cons_succ] at f2
          obtain ⟨c2, c3⟩ := k6.a.spans k hlt
          obtain ⟨d2, d3⟩ := k6.b.spans k hlt
          go_wp2_with fail
          go_region_held3 (fun w' => w'.cell? ⟨w.heap.size, 2, none⟩ = some (.func (.func 120) #[] #[.pointer (some ⟨p, 0, none⟩)]) ∧ w'.cell? ⟨w.heap.size + 1, k * 2, none⟩ = some (.int .i64 (a (2 * k))) ∧ w'.cell? ⟨w.heap.size + 1, k * 2 + 1, none⟩ = some (.int .i64 (a (2 * k + 1))) ∧ w'.cell? ⟨w.heap.size + 1 + 1, k * 2, none⟩ = some (.int .i64 (b (2 * k))) ∧ w'.cell? ⟨w.heap.size + 1 + 1, k * 2 + 1, none⟩ = some (.int .i64 (b (2 * k + 1)))) (first | exact K3 | exact ⟨f2, c2, c3, d2, d3⟩ | exact keep5A ⟨f2, c2, c3, d2, d3⟩ | exact keep5A K3 | exact keep5S K3 (by simp; omega) (by simp; omega) (by simp; omega))
            ((go_at_call 120; refine (worstIn_any lo hi _ _ _ _ p _ (by first | exact U0 | exact keepL (below_new _ _).drew U0) (by first | exact U1 | exact keepL (below_new _ _).drew U1)).mono ?_; rw [HZ.out]; rintro e w3 ⟨rfl, hb3⟩; (first | (have N3 : Blk w3 W6.heap.size 46 #[.int .i64 0, .int .i64 0] := Blk.below (Blk.new W6.drew 46 #[.int .i64 0, .int .i64 0]) hb3 (by simp); obtain ⟨e0, e1⟩ := N3.two; obtain ⟨g0, g1⟩ := N3.two_frozen; have K3 := keep5L hb3 (keep5L (below_new W6.drew _) ⟨f2, c2, c3, d2, d3⟩)) | have K3 := keep5L (W := W6.drew) hb3 ⟨f2, c2, c3, d2, d3⟩)))
          · obtain ⟨W2, hW2, k2, hN, R0, R1, hb2⟩ : ∃ W2, W2 = w3.alloc (.cells #[.int .i64 Z.1, .int .i64 Z.2] 46) ∧ VW W2 w.heap.size #[.func (.func 118) #[] #[.pointer (some ⟨p, 0, none⟩)], .func (.func 119) #[] #[.pointer (some ⟨p, 0, none⟩)], .func (.func 120) #[] #[.pointer (some ⟨p, 0, none⟩)]] a b (⟨(k : Int) + 1, mustTo (qIn lo hi) a b k, Y.1, Y.2, (noTo (qIn lo hi) a b k).1, (noTo (qIn lo hi) a b k).2⟩) ∧ Blk W2 w3.heap.size 46 #[.int .i64 Z.1, .int .i64 Z.2] ∧ W2.cell? ⟨p, 0, none⟩ = some (.int .i64 lo) ∧ W2.cell? ⟨p, 1, none⟩ = some (.int .i64 hi) ∧ Below w.heap.size w W2 :=
              ⟨_, rfl, (VW.below (k6.drew) hb3).alloc _, Blk.new _ _ _, keepL (below_new _ _) (keepL hb3 U0), keepL (below_new _ _) (keepL hb3 U1), (below_next hb6.drew (by show _ ≤ W6.heap.size; omega) hb3).alloc (by have : W6.heap.size ≤ w3.heap.size := hb3.size; omega) _⟩
            rw [← hW2]
            have hg : w.heap.size + 1 + 1 + 1 + 1 < w3.heap.size := by have : W6.heap.size ≤ w3.heap.size := hb3.size; omega
            clear hW2 hb3 K3
            generalize w3.heap.size = g at hg hN ⊢
            obtain ⟨x0, x1⟩ := hN.two
            have q0 := k2.q.cell 0
            simp only [List.getElem?_toArray, List.getElem?_cons_zero] at q0
            cases hm : mustB (qIn lo hi) a b k
            all_goals
              have HM2 := Lib.hid hm
              clear hm
              go_wp2_with (go_at_call 118; refine (soIn_any lo hi _ _ p _ R0 R1).mono ?_; rw [HC2.out, HM2.out]; rintro e w5 ⟨rfl, hb5⟩; have k5 := k2.below hb5; obtain ⟨x0, x1⟩ := (hN.below hb5 hN.lt).two; obtain ⟨v0, v1, v2, v3, v4, v5⟩ := k5.cells; have z1 := k5.frozens 1; have z4 := k5.frozens 4; have z5 := k5.frozens 5)
            · go_region
              go_wp2
              go_roundw
              case rel => exact ⟨k + 1, by omega, by go_num, (by have e : vdTo (qIn lo hi) a b (k + 1) = _ := vdTo_step (qIn lo hi) a b k; rw [e, HM.out, HM2.out, ← HYY.out, ← HZZ.out]; exact (k5.setNo _ _ _).drew), cell_far _ (cell_far _ (cell_far _ (keepL hb5 R0) (by show p ≠ w.heap.size + 1 + 1 + 1 + 1; omega)) (by show p ≠ w.heap.size + 1 + 1 + 1 + 1; omega)) (by show p ≠ w.heap.size + 1 + 1 + 1 + 1; omega), cell_far _ (cell_far _ (cell_far _ (keepL hb5 R1) (by show p ≠ w.heap.size + 1 + 1 + 1 + 1; omega)) (by show p ≠ w.heap.size + 1 + 1 + 1 + 1; omega)) (by show p ≠ w.heap.size + 1 + 1 + 1 + 1; omega), ((((below_next hb2 hb2.size hb5).setCell (by show _ ≤ w.heap.size + 1 + 1 + 1 + 1; omega) _).setCell (by show _ ≤ w.heap.size + 1 + 1 + 1 + 1; omega) _).setCell (by show _ ≤ w.heap.size + 1 + 1 + 1 + 1; omega) _).drew⟩
              case measure => simp [intOf]; omega
            · go_roundw
              case rel => exact ⟨k + 1, by omega, by go_num, (by have e : vdTo (qIn lo hi) a b (k + 1) = _ := vdTo_step (qIn lo hi) a b k; rw [e, HM.out, HM2.out, ← HYY.out, ← HZZ.out]; exact k5), keepL hb5 R0, keepL hb5 R1, below_next hb2 hb2.size hb5⟩
              case measure => simp [intOf]; omega
          · obtain ⟨W2, hW2, k2, hN, R0, R1, hb2⟩ : ∃ W2, W2 = (w3.setCell ⟨W6.heap.size, 0, none⟩ (.int .i64 Z.1)).setCell ⟨W6.heap.size, 1, none⟩ (.int .i64 Z.2) ∧ VW W2 w.heap.size #[.func (.func 118) #[] #[.pointer (some ⟨p, 0, none⟩)], .func (.func 119) #[] #[.pointer (some ⟨p, 0, none⟩)], .func (.func 120) #[] #[.pointer (some ⟨p, 0, none⟩)]] a b (⟨(k : Int) + 1, mustTo (qIn lo hi) a b k, Y.1, Y.2, (noTo (qIn lo hi) a b k).1, (noTo (qIn lo hi) a b k).2⟩) ∧ Blk W2 W6.heap.size 46 #[.int .i64 Z.1, .int .i64 Z.2] ∧ W2.cell? ⟨p, 0, none⟩ = some (.int .i64 lo) ∧ W2.cell? ⟨p, 1, none⟩ = some (.int .i64 hi) ∧ Below w.heap.size w W2 :=
              ⟨_, rfl, ((VW.below (k6.drew.alloc _) hb3).far (by show _ < W6.heap.size; omega) _).far (by show _ < W6.heap.size; omega) _, N3.twoStore _ _, cell_far _ (cell_far _ (keepL hb3 (keepL (below_new _ _).drew U0)) (by show p ≠ W6.heap.size; omega)) (by show p ≠ W6.heap.size; omega), cell_far _ (cell_far _ (keepL hb3 (keepL (below_new _ _).drew U1)) (by show p ≠ W6.heap.size; omega)) (by show p ≠ W6.heap.size; omega), ((below_next (hb6.drew.alloc (by show _ ≤ W6.heap.size; omega) _) (by simp; omega) hb3).setCell (by show _ ≤ W6.heap.size; omega) _).setCell (by show _ ≤ W6.heap.size; omega) _⟩
            rw [← hW2]
            have hg : w.heap.size + 1 + 1 + 1 + 1 < W6.heap.size := by omega
            clear hW2 hb3 K3 N3 e0 e1 g0 g1
            generalize W6.heap.size = g at hg hN ⊢
            obtain ⟨x0, x1⟩ := hN.two
            have q0 := k2.q.cell 0
            simp only [List.getElem?_toArray, List.getElem?_cons_zero] at q0
            cases hm : mustB (qIn lo hi) a b k
            all_goals
              have HM2 := Lib.hid hm
              clear hm
              go_wp2_with (go_at_call 118; refine (soIn_any lo hi _ _ p _ R0 R1).mono ?_; rw [HC2.out, HM2.out]; rintro e w5 ⟨rfl, hb5⟩; have k5 := k2.below hb5; obtain ⟨x0, x1⟩ := (hN.below hb5 hN.lt).two; obtain ⟨v0, v1, v2, v3, v4, v5⟩ := k5.cells; have z1 := k5.frozens 1; have z4 := k5.frozens 4; have z5 := k5.frozens 5)
            · go_region
              go_wp2
              go_roundw
              case rel => exact ⟨k + 1, by omega, by go_num, (by have e : vdTo (qIn lo hi) a b (k + 1) = _ := vdTo_step (qIn lo hi) a b k; rw [e, HM.out, HM2.out, ← HYY.out, ← HZZ.out]; exact (k5.setNo _ _ _).drew), cell_far _ (cell_far _ (cell_far _ (keepL hb5 R0) (by show p ≠ w.heap.size + 1 + 1 + 1 + 1; omega)) (by show p ≠ w.heap.size + 1 + 1 + 1 + 1; omega)) (by show p ≠ w.heap.size + 1 + 1 + 1 + 1; omega), cell_far _ (cell_far _ (cell_far _ (keepL hb5 R1) (by show p ≠ w.heap.size + 1 + 1 + 1 + 1; omega)) (by show p ≠ w.heap.size + 1 + 1 + 1 + 1; omega)) (by show p ≠ w.heap.size + 1 + 1 + 1 + 1; omega), ((((below_next hb2 hb2.size hb5).setCell (by show _ ≤ w.heap.size + 1 + 1 + 1 + 1; omega) _).setCell (by show _ ≤ w.heap.size + 1 + 1 + 1 + 1; omega) _).setCell (by show _ ≤ w.heap.size + 1 + 1 + 1 + 1; omega) _).drew⟩
              case measure => simp [intOf]; omega
            · go_roundw
              case rel => exact ⟨k + 1, by omega, by go_num, (by have e : vdTo (qIn lo hi) a b (k + 1) = _ := vdTo_step (qIn lo hi) a b k; rw [e, HM.out, HM2.out, ← HYY.out, ← HZZ.out]; exact k5), keepL hb5 R0, keepL hb5 R1, below_next hb2 hb2.size hb5⟩
              case measure => simp [intOf]; omega
    · obtain rfl : k = 12 := by omega
      have zz := k1.z
      obtain ⟨v0, v1, v2, v3, v4, v5⟩ := k1.cells
      have z0 := k1.z.cell 0
      have z1 := k1.z.cell 1
      have z2 := k1.z.cell 2
      have z3 := k1.z.cell 3
      have z4 := k1.z.cell 4
      have z5 := k1.z.cell 5
      have y0 := k1.z.frozen 0
      have y1 := k1.z.frozen 1
      have y2 := k1.z.frozen 2
      have y3 := k1.z.frozen 3
      have y4 := k1.z.frozen 4
      have y5 := k1.z.frozen 5
      simp only [vcs, List.getElem?_toArray, List.getElem?_cons_zero, List.getElem?_cons_succ] at z0 z1 z2 z3 z4 z5
      go_wp2
      refine bodyPost_ret (results_cell_row rfl _ _ (w.heap.size + 1 + 1 + 1) 48 (vcs R) (0, 0) _ rfl (by rw [← HR.out]; exact k1.z.sixStore _ _ _ _ _ _) Tryz.underlying48 rfl (by kernel_rfl)) rfl ⟨rfl, ?_⟩
      exact ((((((hb1.setCell (by show _ ≤ w.heap.size + 1 + 1 + 1; omega) _).setCell (by show _ ≤ w.heap.size + 1 + 1 + 1; omega) _).setCell (by show _ ≤ w.heap.size + 1 + 1 + 1; omega) _).setCell (by show _ ≤ w.heap.size + 1 + 1 + 1; omega) _).setCell (by show _ ≤ w.heap.size + 1 + 1 + 1; omega) _).setCell (by show _ ≤ w.heap.size + 1 + 1 + 1; omega) _)
end Go.Proofs.YtbhiphjifdnhmaaGreatDoor
