import Derived.Test.YtbhiphjifdnhmaaGreatDoorA8
/- Both. -/
namespace Go.Proofs.YtbhiphjifdnhmaaGreatDoor
open Go.RowKit

theorem keep4A {W : World} {p q i0 i1 : Nat} {x0 x1 y0 y1 : Value} {o : Obj} (h : W.cell? ⟨p, i0, none⟩ = some x0 ∧ W.cell? ⟨p, i1, none⟩ = some x1 ∧ W.cell? ⟨q, i0, none⟩ = some y0 ∧ W.cell? ⟨q, i1, none⟩ = some y1) :
    (W.alloc o).cell? ⟨p, i0, none⟩ = some x0 ∧ (W.alloc o).cell? ⟨p, i1, none⟩ = some x1 ∧ (W.alloc o).cell? ⟨q, i0, none⟩ = some y0 ∧ (W.alloc o).cell? ⟨q, i1, none⟩ = some y1 :=
  ⟨keepL (below_new _ _) h.1, keepL (below_new _ _) h.2.1, keepL (below_new _ _) h.2.2.1, keepL (below_new _ _) h.2.2.2⟩
theorem keep4L {W w2 : World} {p q i0 i1 : Nat} {x0 x1 y0 y1 : Value} (hb : Below W.heap.size W w2) (h : W.cell? ⟨p, i0, none⟩ = some x0 ∧ W.cell? ⟨p, i1, none⟩ = some x1 ∧ W.cell? ⟨q, i0, none⟩ = some y0 ∧ W.cell? ⟨q, i1, none⟩ = some y1) :
    w2.cell? ⟨p, i0, none⟩ = some x0 ∧ w2.cell? ⟨p, i1, none⟩ = some x1 ∧ w2.cell? ⟨q, i0, none⟩ = some y0 ∧ w2.cell? ⟨q, i1, none⟩ = some y1 :=
  ⟨keepL hb h.1, keepL hb h.2.1, keepL hb h.2.2.1, keepL hb h.2.2.2⟩

set_option maxRecDepth 100000 in
set_option maxHeartbeats 1600000 in
theorem both_any (a b : Nat → Int) (w : World) : Calls Tryz.prog 18 #[.agg (va a), .agg (va b)] w fun e w' => e = .returned (.tuple #[.agg (va (bothR a b)), .int .i64 (bothK a b), .int .i64 (bothE a b)]) ∧ Below w.heap.size w w' := by
  have hA := ((Blk.new w 26 (va a)).alloc (.cells (va b) 26)).alloc (.cells #[.int .i64 0, .int .i64 0, .int .i64 0, .int .i64 0, .int .i64 0, .int .i64 0, .int .i64 0, .int .i64 0, .int .i64 0, .int .i64 0, .int .i64 0, .int .i64 0, .int .i64 0, .int .i64 0, .int .i64 0, .int .i64 0, .int .i64 0, .int .i64 0, .int .i64 0, .int .i64 0, .int .i64 0, .int .i64 0, .int .i64 0, .int .i64 0] 26)
  have hB : Blk (((w.alloc (.cells (va a) 26)).alloc (.cells (va b) 26)).alloc (.cells #[.int .i64 0, .int .i64 0, .int .i64 0, .int .i64 0, .int .i64 0, .int .i64 0, .int .i64 0, .int .i64 0, .int .i64 0, .int .i64 0, .int .i64 0, .int .i64 0, .int .i64 0, .int .i64 0, .int .i64 0, .int .i64 0, .int .i64 0, .int .i64 0, .int .i64 0, .int .i64 0, .int .i64 0, .int .i64 0, .int .i64 0, .int .i64 0] 26)) (w.heap.size + 1) 26 (va b) := (Blk.newAt (by simp)).alloc _
  have hZ : Blk (((w.alloc (.cells (va a) 26)).alloc (.cells (va b) 26)).alloc (.cells #[.int .i64 0, .int .i64 0, .int .i64 0, .int .i64 0, .int .i64 0, .int .i64 0, .int .i64 0, .int .i64 0, .int .i64 0, .int .i64 0, .int .i64 0, .int .i64 0, .int .i64 0, .int .i64 0, .int .i64 0, .int .i64 0, .int .i64 0, .int .i64 0, .int .i64 0, .int .i64 0, .int .i64 0, .int .i64 0, .int .i64 0, .int .i64 0] 26)) (w.heap.size + 1 + 1) 26 (va zeroV) := by rw [z24]; exact Blk.newAt (by simp)
  have hb0 : Below w.heap.size w (((w.alloc (.cells (va a) 26)).alloc (.cells (va b) 26)).alloc (.cells #[.int .i64 0, .int .i64 0, .int .i64 0, .int .i64 0, .int .i64 0, .int .i64 0, .int .i64 0, .int .i64 0, .int .i64 0, .int .i64 0, .int .i64 0, .int .i64 0, .int .i64 0, .int .i64 0, .int .i64 0, .int .i64 0, .int .i64 0, .int .i64 0, .int .i64 0, .int .i64 0, .int .i64 0, .int .i64 0, .int .i64 0, .int .i64 0] 26)) := ((below_new _ _).alloc (by simp) _).alloc (by simp; omega) _
  cases h0 : (vok a && vok b)
  · have H0 := Lib.hid (chk2_no h0)
    have HR := Lib.hid (show bothE a b = 1 ∧ bothR a b = zeroV ∧ bothK a b = 0 by simp [bothE, bothR, bothK, h0, orZero])
    clear h0
    rw [HR.out.1, HR.out.2.1, HR.out.2.2]
    go_enter Tryz.func18, Tryz.ntmps18
    go_wp2_with (first
      | (refine ldV 2 rfl rfl hA rfl ?_)
      | (refine ldV 3 rfl rfl hB rfl ?_)
      | (refine stV 4 18 rfl rfl hZ1 rfl (congrArg Value.agg z24) ?_)
      | (go_at_call 72; refine (checkTwo_any _ _ _).mono ?_; rw [H0.out]; rintro e w1 ⟨rfl, hb1⟩; have hZ1 := hZ.below hb1 (by simp)))
    exact bodyPost_ret (resV3 rfl _ _ (hZ1.setRow _) rfl rfl rfl) rfl ⟨rfl, below_setRow (below_next hb0 (by simp; omega) hb1) (by omega) _⟩
  · have H0 := Lib.hid (chk2_ok h0)
    have HR := Lib.hid (show bothE a b = if bothN a b 12 = 0 then 9 else 0 by simp [bothE, h0])
    clear h0
    go_enter Tryz.func18, Tryz.ntmps18
    go_wp2_with (first
      | (refine ldV 2 rfl rfl hA rfl ?_)
      | (refine ldV 3 rfl rfl hB rfl ?_)
      | (go_at_call 72; refine (checkTwo_any _ _ _).mono ?_; rw [H0.out]; rintro e w1 ⟨rfl, hb1⟩))
    have hb2 := below_next hb0 (by simp; omega) hb1
    have hz1 : w.heap.size + 1 + 1 + 1 ≤ w1.heap.size := by have := hb1.size; simpa using this
    have hA1 := ((hA.below hb1 (by simp; omega)).alloc (.cells #[.int .i64 0, .int .i64 0, .int .i64 0, .int .i64 0, .int .i64 0, .int .i64 0, .int .i64 0, .int .i64 0, .int .i64 0, .int .i64 0, .int .i64 0, .int .i64 0, .int .i64 0, .int .i64 0, .int .i64 0, .int .i64 0, .int .i64 0, .int .i64 0, .int .i64 0, .int .i64 0, .int .i64 0, .int .i64 0, .int .i64 0, .int .i64 0] 26)).alloc (.cells #[.int .i64 0, .int .i64 0] 23)
    have hB1 := ((hB.below hb1 (by simp)).alloc (.cells #[.int .i64 0, .int .i64 0, .int .i64 0, .int .i64 0, .int .i64 0, .int .i64 0, .int .i64 0, .int .i64 0, .int .i64 0, .int .i64 0, .int .i64 0, .int .i64 0, .int .i64 0, .int .i64 0, .int .i64 0, .int .i64 0, .int .i64 0, .int .i64 0, .int .i64 0, .int .i64 0, .int .i64 0, .int .i64 0, .int .i64 0, .int .i64 0] 26)).alloc (.cells #[.int .i64 0, .int .i64 0] 23)
    have hZ1 := ((hZ.below hb1 (by simp)).alloc (.cells #[.int .i64 0, .int .i64 0, .int .i64 0, .int .i64 0, .int .i64 0, .int .i64 0, .int .i64 0, .int .i64 0, .int .i64 0, .int .i64 0, .int .i64 0, .int .i64 0, .int .i64 0, .int .i64 0, .int .i64 0, .int .i64 0, .int .i64 0, .int .i64 0, .int .i64 0, .int .i64 0, .int .i64 0, .int .i64 0, .int .i64 0, .int .i64 0] 26)).alloc (.cells #[.int .i64 0, .int .i64 0] 23)
    have hC1 : Blk ((w1.alloc (.cells #[.int .i64 0, .int .i64 0, .int .i64 0, .int .i64 0, .int .i64 0, .int .i64 0, .int .i64 0, .int .i64 0, .int .i64 0, .int .i64 0, .int .i64 0, .int .i64 0, .int .i64 0, .int .i64 0, .int .i64 0, .int .i64 0, .int .i64 0, .int .i64 0, .int .i64 0, .int .i64 0, .int .i64 0, .int .i64 0, .int .i64 0, .int .i64 0] 26)).alloc (.cells #[.int .i64 0, .int .i64 0] 23)) w1.heap.size 26 (va (firstV (bothV a b) 0)) := by rw [z24, firstV_zero]; exact (Blk.new _ _ _).alloc _
    have hL1 : Blk ((w1.alloc (.cells #[.int .i64 0, .int .i64 0, .int .i64 0, .int .i64 0, .int .i64 0, .int .i64 0, .int .i64 0, .int .i64 0, .int .i64 0, .int .i64 0, .int .i64 0, .int .i64 0, .int .i64 0, .int .i64 0, .int .i64 0, .int .i64 0, .int .i64 0, .int .i64 0, .int .i64 0, .int .i64 0, .int .i64 0, .int .i64 0, .int .i64 0, .int .i64 0] 26)).alloc (.cells #[.int .i64 0, .int .i64 0] 23)) (w1.heap.size + 1) 23 #[.int .i64 (lastTo a b 0).1, .int .i64 (lastTo a b 0).2] := Blk.newAt (by simp)
    have hb3 := (hb2.alloc (by omega) (.cells #[.int .i64 0, .int .i64 0, .int .i64 0, .int .i64 0, .int .i64 0, .int .i64 0, .int .i64 0, .int .i64 0, .int .i64 0, .int .i64 0, .int .i64 0, .int .i64 0, .int .i64 0, .int .i64 0, .int .i64 0, .int .i64 0, .int .i64 0, .int .i64 0, .int .i64 0, .int .i64 0, .int .i64 0, .int .i64 0, .int .i64 0, .int .i64 0] 26)).alloc (by simp; omega) (.cells #[.int .i64 0, .int .i64 0] 23)
    clear hb1 hb2 hA hB hZ hb0
    go_loopw [10, 20] (fun t10 t20 wr => ∃ k : Nat, k ≤ 12 ∧ t20 = .int .i64 k ∧ t10 = .int .i64 (bothN a b k) ∧ Blk wr w.heap.size 26 (va a) ∧ Blk wr (w.heap.size + 1) 26 (va b) ∧ Blk wr (w.heap.size + 1 + 1) 26 (va zeroV) ∧ Blk wr w1.heap.size 26 (va (firstV (bothV a b) k)) ∧ Blk wr (w1.heap.size + 1) 23 #[.int .i64 (lastTo a b k).1, .int .i64 (lastTo a b k).2] ∧ Below w.heap.size w wr) (fun _ t20 _ => 12 - (intOf t20).toNat)
    case atStart => exact ⟨0, by omega, rfl, rfl, hA1, hB1, hZ1, hC1, hL1, hb3⟩
    case round =>
      obtain ⟨k, hk, rfl, rfl, hA2, hB2, hZ2, hC2, hL2, hb4⟩ := hrel
      clear hA1 hB1 hZ1 hC1 hL1 hb3
      have hlt3 := hL2.lt
      by_cases hlt : k < 12
      · obtain ⟨c0, c1⟩ := hA2.spans k hlt
        obtain ⟨d0, d1⟩ := hB2.spans k hlt
        obtain ⟨M, hM⟩ : ∃ M, M = meetV a b := ⟨_, rfl⟩
        have HX := Lib.hid (show (meetM (a (2 * k)) (a (2 * k + 1)) (b (2 * k)) (b (2 * k + 1))).1 = M (2 * k) ∧ (meetM (a (2 * k)) (a (2 * k + 1)) (b (2 * k)) (b (2 * k + 1))).2 = M (2 * k + 1) from by rw [hM, meetV, joinV_lo, joinV_hi]; exact ⟨rfl, rfl⟩)
        have HM := Lib.hid hM
        clear hM
        go_wp2_with fail
        go_region_held3 (fun w' => w'.cell? ⟨w.heap.size, k * 2, none⟩ = some (.int .i64 (a (2 * k))) ∧ w'.cell? ⟨w.heap.size, k * 2 + 1, none⟩ = some (.int .i64 (a (2 * k + 1))) ∧ w'.cell? ⟨w.heap.size + 1, k * 2, none⟩ = some (.int .i64 (b (2 * k))) ∧ w'.cell? ⟨w.heap.size + 1, k * 2 + 1, none⟩ = some (.int .i64 (b (2 * k + 1)))) (first | exact K3 | exact ⟨c0, c1, d0, d1⟩ | exact keep4A ⟨c0, c1, d0, d1⟩ | exact keep4A K3 | exact keep4S K3 (by simp; omega) (by simp; omega))
          ((go_at_call 73; refine (meet_any _ _ _ _ _).mono ?_; rw [HX.out.1, HX.out.2]; rintro e w3 ⟨rfl, hb5⟩; (first | (have N3 : Blk w3 wr.heap.size 23 #[.int .i64 0, .int .i64 0] := Blk.below (Blk.new wr.drew 23 #[.int .i64 0, .int .i64 0]) hb5 (by simp); obtain ⟨e0, e1⟩ := N3.two; obtain ⟨g0, g1⟩ := N3.two_frozen; have K3 := keep4L hb5 (keep4A ⟨c0, c1, d0, d1⟩)) | have K3 := keep4L (W := wr.drew) hb5 ⟨c0, c1, d0, d1⟩)))
        · obtain ⟨W2, hW2, hA4, hB4, hZ4, hC4, hL4, hN4, hb6⟩ : ∃ W2, W2 = w3.alloc (.cells #[.int .i64 (M (2 * k)), .int .i64 (M (2 * k + 1))] 23) ∧ Blk W2 w.heap.size 26 (va a) ∧ Blk W2 (w.heap.size + 1) 26 (va b) ∧ Blk W2 (w.heap.size + 1 + 1) 26 (va zeroV) ∧ Blk W2 w1.heap.size 26 (va (firstV (bothV a b) k)) ∧ Blk W2 (w1.heap.size + 1) 23 #[.int .i64 (lastTo a b k).1, .int .i64 (lastTo a b k).2] ∧ Blk W2 w3.heap.size 23 #[.int .i64 (M (2 * k)), .int .i64 (M (2 * k + 1))] ∧ Below w.heap.size w W2 :=
            ⟨_, rfl, (Blk.below (w := wr.drew) hA2 hb5 (by show _ < wr.heap.size; omega)).alloc _, (Blk.below (w := wr.drew) hB2 hb5 (by show _ < wr.heap.size; omega)).alloc _, (Blk.below (w := wr.drew) hZ2 hb5 (by show _ < wr.heap.size; omega)).alloc _, (Blk.below (w := wr.drew) hC2 hb5 (by show _ < wr.heap.size; omega)).alloc _, (Blk.below (w := wr.drew) hL2 hb5 hlt3).alloc _, Blk.new _ _ _,
              (below_next hb4.drew (by show _ ≤ wr.heap.size; omega) hb5).alloc (by have : wr.heap.size ≤ w3.heap.size := hb5.size; omega) _⟩
          rw [← hW2]
          have hg : w1.heap.size + 1 < w3.heap.size := by have : wr.heap.size ≤ w3.heap.size := hb5.size; omega
          clear hW2 hb5 K3 hA2 hB2 hZ2 hC2 hL2 c0 c1 d0 d1
          generalize w3.heap.size = g at hg hN4 ⊢
          obtain ⟨e0, e1⟩ := hN4.two
          cases hm : meets a b k
          all_goals
            have HMt := Lib.hid (show decide (M (2 * k) ≤ M (2 * k + 1)) = meets a b k by rw [HM.out]; rfl)
            have HN := Lib.hid (show bothN a b (k + 1) = if meets a b k = true then (k : Int) + 1 else bothN a b k from rfl)
            have HLT := Lib.hid (show lastTo a b (k + 1) = if meets a b k = true then (meetV a b (2 * k), meetV a b (2 * k + 1)) else lastTo a b k from rfl)
            rw [hm] at HMt HN HLT
            rw [← HM.out] at HLT
            clear hm
            have hzW : g < W2.heap.size := hN4.lt
            go_wp2_with (go_at_call 62; refine (isSpan_any _ _ _).mono ?_; rw [HMt.out]; rintro e w5 ⟨rfl, hb7⟩; obtain ⟨f0, f1⟩ := (hN4.below hb7 hzW).two; obtain ⟨l0, l1⟩ := (hL4.below hb7 (by omega)).two; obtain ⟨l2, l3⟩ := (hL4.below hb7 (by omega)).two_frozen; have hC5 := hC4.below hb7 (by omega); have p0 := hC5.va (k * 2) (by omega); have p1 := hC5.va (k * 2 + 1) (by omega); have p2 := hC5.frozen (k * 2); have p3 := hC5.frozen (k * 2 + 1))
          · go_roundw
            case rel => exact ⟨k + 1, by omega, by go_num, by rw [HN.out]; rfl, (((hA4.below hb7 (by omega)).far (by show _ ≠ w1.heap.size; omega) _).far (by show _ ≠ w1.heap.size; omega) _), (((hB4.below hb7 (by omega)).far (by show _ ≠ w1.heap.size; omega) _).far (by show _ ≠ w1.heap.size; omega) _), (((hZ4.below hb7 (by omega)).far (by show _ ≠ w1.heap.size; omega) _).far (by show _ ≠ w1.heap.size; omega) _), by have := hC5.joinStep hlt; rw [bothV_lo, bothV_hi, HLT.out] at this; exact this, by rw [HLT.out]; exact (((hL4.below hb7 (by omega)).far (by show _ ≠ w1.heap.size; omega) _).far (by show _ ≠ w1.heap.size; omega) _),
              ((below_next hb6 (by omega) hb7).setCell (by show _ ≤ w1.heap.size; omega) _).setCell (by show _ ≤ w1.heap.size; omega) _⟩
            case measure => simp [intOf]; omega
          · go_roundw
            case rel => exact ⟨k + 1, by omega, by go_num, by rw [HN.out]; rfl, (((((hA4.below hb7 (by omega)).far (by show _ ≠ w1.heap.size + 1; omega) _).far (by show _ ≠ w1.heap.size + 1; omega) _).far (by show _ ≠ w1.heap.size; omega) _).far (by show _ ≠ w1.heap.size; omega) _), (((((hB4.below hb7 (by omega)).far (by show _ ≠ w1.heap.size + 1; omega) _).far (by show _ ≠ w1.heap.size + 1; omega) _).far (by show _ ≠ w1.heap.size; omega) _).far (by show _ ≠ w1.heap.size; omega) _), (((((hZ4.below hb7 (by omega)).far (by show _ ≠ w1.heap.size + 1; omega) _).far (by show _ ≠ w1.heap.size + 1; omega) _).far (by show _ ≠ w1.heap.size; omega) _).far (by show _ ≠ w1.heap.size; omega) _), by have := ((hC5.far (p := ⟨w1.heap.size + 1, 0, none⟩) (by show _ ≠ w1.heap.size + 1; omega) (.int .i64 (M (2 * k)))).far (p := ⟨w1.heap.size + 1, 1, none⟩) (by show _ ≠ w1.heap.size + 1; omega) (.int .i64 (M (2 * k + 1)))).joinStep hlt; rw [bothV_lo, bothV_hi, HLT.out] at this; exact this, by rw [HLT.out]; exact ((((hL4.below hb7 (by omega)).twoStore _ _).far (by show _ ≠ w1.heap.size; omega) _).far (by show _ ≠ w1.heap.size; omega) _),
              ((((below_next hb6 (by omega) hb7).setCell (by show _ ≤ w1.heap.size + 1; omega) _).setCell (by show _ ≤ w1.heap.size + 1; omega) _).setCell (by show _ ≤ w1.heap.size; omega) _).setCell (by show _ ≤ w1.heap.size; omega) _⟩
            case measure => simp [intOf]; omega
        · obtain ⟨W2, hW2, hA4, hB4, hZ4, hC4, hL4, hN4, hb6⟩ : ∃ W2, W2 = (w3.setCell ⟨wr.heap.size, 0, none⟩ (.int .i64 (M (2 * k)))).setCell ⟨wr.heap.size, 1, none⟩ (.int .i64 (M (2 * k + 1))) ∧ Blk W2 w.heap.size 26 (va a) ∧ Blk W2 (w.heap.size + 1) 26 (va b) ∧ Blk W2 (w.heap.size + 1 + 1) 26 (va zeroV) ∧ Blk W2 w1.heap.size 26 (va (firstV (bothV a b) k)) ∧ Blk W2 (w1.heap.size + 1) 23 #[.int .i64 (lastTo a b k).1, .int .i64 (lastTo a b k).2] ∧ Blk W2 wr.heap.size 23 #[.int .i64 (M (2 * k)), .int .i64 (M (2 * k + 1))] ∧ Below w.heap.size w W2 :=
            ⟨_, rfl, ((Blk.below (w := wr.drew.alloc (.cells #[.int .i64 0, .int .i64 0] 23)) (Blk.alloc (w := wr.drew) hA2 _) hb5 (by simp; omega)).far (by show _ ≠ wr.heap.size; omega) _).far (by show _ ≠ wr.heap.size; omega) _, ((Blk.below (w := wr.drew.alloc (.cells #[.int .i64 0, .int .i64 0] 23)) (Blk.alloc (w := wr.drew) hB2 _) hb5 (by simp; omega)).far (by show _ ≠ wr.heap.size; omega) _).far (by show _ ≠ wr.heap.size; omega) _, ((Blk.below (w := wr.drew.alloc (.cells #[.int .i64 0, .int .i64 0] 23)) (Blk.alloc (w := wr.drew) hZ2 _) hb5 (by simp; omega)).far (by show _ ≠ wr.heap.size; omega) _).far (by show _ ≠ wr.heap.size; omega) _, ((Blk.below (w := wr.drew.alloc (.cells #[.int .i64 0, .int .i64 0] 23)) (Blk.alloc (w := wr.drew) hC2 _) hb5 (by simp; omega)).far (by show _ ≠ wr.heap.size; omega) _).far (by show _ ≠ wr.heap.size; omega) _, ((Blk.below (w := wr.drew.alloc (.cells #[.int .i64 0, .int .i64 0] 23)) (Blk.alloc (w := wr.drew) hL2 _) hb5 (by simp; omega)).far (by show _ ≠ wr.heap.size; omega) _).far (by show _ ≠ wr.heap.size; omega) _, N3.twoStore _ _,
              ((below_next (hb4.drew.alloc (by show _ ≤ wr.heap.size; omega) _) (by simp; omega) hb5).setCell (by show _ ≤ wr.heap.size; omega) _).setCell (by show _ ≤ wr.heap.size; omega) _⟩
          rw [← hW2]
          have hg : w1.heap.size + 1 < wr.heap.size := hlt3
          clear hW2 hb5 K3 N3 e0 e1 g0 g1 hA2 hB2 hZ2 hC2 hL2 c0 c1 d0 d1 hlt3 hb4
          generalize wr.heap.size = g at hg hN4 ⊢
          obtain ⟨e0, e1⟩ := hN4.two
          cases hm : meets a b k
          all_goals
            have HMt := Lib.hid (show decide (M (2 * k) ≤ M (2 * k + 1)) = meets a b k by rw [HM.out]; rfl)
            have HN := Lib.hid (show bothN a b (k + 1) = if meets a b k = true then (k : Int) + 1 else bothN a b k from rfl)
            have HLT := Lib.hid (show lastTo a b (k + 1) = if meets a b k = true then (meetV a b (2 * k), meetV a b (2 * k + 1)) else lastTo a b k from rfl)
            rw [hm] at HMt HN HLT
            rw [← HM.out] at HLT
            clear hm
            have hzW : g < W2.heap.size := hN4.lt
            go_wp2_with (go_at_call 62; refine (isSpan_any _ _ _).mono ?_; rw [HMt.out]; rintro e w5 ⟨rfl, hb7⟩; obtain ⟨f0, f1⟩ := (hN4.below hb7 hzW).two; obtain ⟨l0, l1⟩ := (hL4.below hb7 (by omega)).two; obtain ⟨l2, l3⟩ := (hL4.below hb7 (by omega)).two_frozen; have hC5 := hC4.below hb7 (by omega); have p0 := hC5.va (k * 2) (by omega); have p1 := hC5.va (k * 2 + 1) (by omega); have p2 := hC5.frozen (k * 2); have p3 := hC5.frozen (k * 2 + 1))
          · go_roundw
            case rel => exact ⟨k + 1, by omega, by go_num, by rw [HN.out]; rfl, (((hA4.below hb7 (by omega)).far (by show _ ≠ w1.heap.size; omega) _).far (by show _ ≠ w1.heap.size; omega) _), (((hB4.below hb7 (by omega)).far (by show _ ≠ w1.heap.size; omega) _).far (by show _ ≠ w1.heap.size; omega) _), (((hZ4.below hb7 (by omega)).far (by show _ ≠ w1.heap.size; omega) _).far (by show _ ≠ w1.heap.size; omega) _), by have := hC5.joinStep hlt; rw [bothV_lo, bothV_hi, HLT.out] at this; exact this, by rw [HLT.out]; exact (((hL4.below hb7 (by omega)).far (by show _ ≠ w1.heap.size; omega) _).far (by show _ ≠ w1.heap.size; omega) _),
              ((below_next hb6 (by omega) hb7).setCell (by show _ ≤ w1.heap.size; omega) _).setCell (by show _ ≤ w1.heap.size; omega) _⟩
            case measure => simp [intOf]; omega
          · go_roundw
            case rel => exact ⟨k + 1, by omega, by go_num, by rw [HN.out]; rfl, (((((hA4.below hb7 (by omega)).far (by show _ ≠ w1.heap.size + 1; omega) _).far (by show _ ≠ w1.heap.size + 1; omega) _).far (by show _ ≠ w1.heap.size; omega) _).far (by show _ ≠ w1.heap.size; omega) _), (((((hB4.below hb7 (by omega)).far (by show _ ≠ w1.heap.size + 1; omega) _).far (by show _ ≠ w1.heap.size + 1; omega) _).far (by show _ ≠ w1.heap.size; omega) _).far (by show _ ≠ w1.heap.size; omega) _), (((((hZ4.below hb7 (by omega)).far (by show _ ≠ w1.heap.size + 1; omega) _).far (by show _ ≠ w1.heap.size + 1; omega) _).far (by show _ ≠ w1.heap.size; omega) _).far (by show _ ≠ w1.heap.size; omega) _), by have := ((hC5.far (p := ⟨w1.heap.size + 1, 0, none⟩) (by show _ ≠ w1.heap.size + 1; omega) (.int .i64 (M (2 * k)))).far (p := ⟨w1.heap.size + 1, 1, none⟩) (by show _ ≠ w1.heap.size + 1; omega) (.int .i64 (M (2 * k + 1)))).joinStep hlt; rw [bothV_lo, bothV_hi, HLT.out] at this; exact this, by rw [HLT.out]; exact ((((hL4.below hb7 (by omega)).twoStore _ _).far (by show _ ≠ w1.heap.size; omega) _).far (by show _ ≠ w1.heap.size; omega) _),
              ((((below_next hb6 (by omega) hb7).setCell (by show _ ≤ w1.heap.size + 1; omega) _).setCell (by show _ ≤ w1.heap.size + 1; omega) _).setCell (by show _ ≤ w1.heap.size; omega) _).setCell (by show _ ≤ w1.heap.size; omega) _⟩
            case measure => simp [intOf]; omega
      · obtain rfl : k = 12 := by omega
        have hC3 : Blk wr w1.heap.size 26 (va (bothV a b)) := by rw [← firstV_all]; exact hC2
        clear hC2
        have HT := Lib.hid (show bothR a b = orZero (bothV a b) (bothE a b) ∧ bothK a b = if bothE a b = 0 then bothN a b 12 else 0 from ⟨rfl, rfl⟩)
        by_cases hn : bothN a b 12 = 0
        · have hE : bothE a b = 9 := by rw [HR.out, if_pos hn]
          have hn2 : (bothN a b 12 == 0) = true := by simp [hn]
          have HE := Lib.hid (show bothE a b = 9 ∧ bothR a b = zeroV ∧ bothK a b = 0 by rw [HT.out.1, HT.out.2, hE]; exact ⟨rfl, rfl, rfl⟩)
          clear hn hE
          go_wp2_with (refine stV 4 44 rfl rfl hZ2 rfl (congrArg Value.agg z24) ?_)
          exact bodyPost_ret (resV3 rfl _ _ (hZ2.setRow _) rfl rfl rfl) rfl ⟨by rw [HE.out.1, HE.out.2.1, HE.out.2.2]; rfl, below_setRow hb4 (by omega) _⟩
        · have hE : bothE a b = 0 := by rw [HR.out, if_neg hn]
          have hn2 : (bothN a b 12 == 0) = false := by simp [hn]
          have HE := Lib.hid (show bothE a b = 0 ∧ bothR a b = bothV a b ∧ bothK a b = bothN a b 12 by rw [HT.out.1, HT.out.2, hE]; exact ⟨rfl, rfl, rfl⟩)
          clear hn hE
          go_wp2_with (first
            | (refine ldV 8 rfl rfl hC3 rfl ?_)
            | (refine stV 4 45 rfl rfl hZ2 rfl rfl ?_))
          exact bodyPost_ret (resV3 rfl _ _ (hZ2.setRow _) rfl rfl rfl) rfl ⟨by rw [HE.out.1, HE.out.2.1, HE.out.2.2]; rfl, below_setRow hb4 (by omega) _⟩
end Go.Proofs.YtbhiphjifdnhmaaGreatDoor
