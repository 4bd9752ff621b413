import Derived.Test.YtbhiphjifdnhmaaGreatDoorA6
import Derived.StillTailTactics
/- join at the closures of Plus, Less and Hull. -/
namespace Go.Proofs.YtbhiphjifdnhmaaGreatDoor
open Go.RowKit

theorem keep4S {W : World} {p q g i j : Nat} {x0 x1 y0 y1 u v : Value} {i0 i1 : Nat} (h : W.cell? ⟨p, i0, none⟩ = some x0 ∧ W.cell? ⟨p, i1, none⟩ = some x1 ∧ W.cell? ⟨q, i0, none⟩ = some y0 ∧ W.cell? ⟨q, i1, none⟩ = some y1) (hp : p ≠ g) (hq : q ≠ g) :
    ((W.setCell ⟨g, i, none⟩ u).setCell ⟨g, j, none⟩ v).cell? ⟨p, i0, none⟩ = some x0 ∧ ((W.setCell ⟨g, i, none⟩ u).setCell ⟨g, j, none⟩ v).cell? ⟨p, i1, none⟩ = some x1 ∧ ((W.setCell ⟨g, i, none⟩ u).setCell ⟨g, j, none⟩ v).cell? ⟨q, i0, none⟩ = some y0 ∧ ((W.setCell ⟨g, i, none⟩ u).setCell ⟨g, j, none⟩ v).cell? ⟨q, i1, none⟩ = some y1 := by
  have key : ∀ (W : World) (b o i : Nat) (u : Value), b ≠ g → (W.setCell ⟨g, i, none⟩ u).cell? ⟨b, o, none⟩ = W.cell? ⟨b, o, none⟩ := fun W b o i u hb => World.cell?_of_block (heap_setCell_other W ⟨g, i, none⟩ b u hb)
  rw [key _ _ _ _ _ hp, key _ _ _ _ _ hp, key _ _ _ _ _ hp, key _ _ _ _ _ hp, key _ _ _ _ _ hq, key _ _ _ _ _ hq, key _ _ _ _ _ hq, key _ _ _ _ _ hq]
  exact h

theorem Blk.joinStep {w : World} {g : Nat} {t : TypeId} {J : Nat → Int} {k : Nat} (h : Blk w g t (Go.Proofs.YtbhiphjifdnhmaaGreatDoor.va (firstV J k))) (hk : k < 12) :
    Blk ((w.setCell ⟨g, k * 2, none⟩ (.int .i64 (J (2 * k)))).setCell ⟨g, k * 2 + 1, none⟩ (.int .i64 (J (2 * k + 1)))) g t (Go.Proofs.YtbhiphjifdnhmaaGreatDoor.va (firstV J (k + 1))) := by
  have := (h.vaStore (k * 2) (J (2 * k)) (by omega)).vaStore (k * 2 + 1) (J (2 * k + 1)) (by omega)
  rw [Nat.mul_comm k 2] at this ⊢
  rwa [firstV_upd] at this

set_option maxRecDepth 100000 in
set_option maxHeartbeats 800000 in
theorem joinPlus_any (a b : Nat → Int) (w : World) : Calls Tryz.prog 69 #[.agg (va a), .agg (va b), .func (.func 70) #[] #[]] w (RetV w (joinR plusM a b) (joinE plusM a b)) := by
  have hA := ((Blk.new w 26 (va a)).alloc (.cells (va b) 26)).alloc (.cells #[.int .i64 0, .int .i64 0, .int .i64 0, .int .i64 0, .int .i64 0, .int .i64 0, .int .i64 0, .int .i64 0, .int .i64 0, .int .i64 0, .int .i64 0, .int .i64 0, .int .i64 0, .int .i64 0, .int .i64 0, .int .i64 0, .int .i64 0, .int .i64 0, .int .i64 0, .int .i64 0, .int .i64 0, .int .i64 0, .int .i64 0, .int .i64 0] 26)
  have hB : Blk (((w.alloc (.cells (va a) 26)).alloc (.cells (va b) 26)).alloc (.cells #[.int .i64 0, .int .i64 0, .int .i64 0, .int .i64 0, .int .i64 0, .int .i64 0, .int .i64 0, .int .i64 0, .int .i64 0, .int .i64 0, .int .i64 0, .int .i64 0, .int .i64 0, .int .i64 0, .int .i64 0, .int .i64 0, .int .i64 0, .int .i64 0, .int .i64 0, .int .i64 0, .int .i64 0, .int .i64 0, .int .i64 0, .int .i64 0] 26)) (w.heap.size + 1) 26 (va b) := (Blk.newAt (by simp)).alloc _
  have hZ : Blk (((w.alloc (.cells (va a) 26)).alloc (.cells (va b) 26)).alloc (.cells #[.int .i64 0, .int .i64 0, .int .i64 0, .int .i64 0, .int .i64 0, .int .i64 0, .int .i64 0, .int .i64 0, .int .i64 0, .int .i64 0, .int .i64 0, .int .i64 0, .int .i64 0, .int .i64 0, .int .i64 0, .int .i64 0, .int .i64 0, .int .i64 0, .int .i64 0, .int .i64 0, .int .i64 0, .int .i64 0, .int .i64 0, .int .i64 0] 26)) (w.heap.size + 1 + 1) 26 (va zeroV) := by rw [z24]; exact Blk.newAt (by simp)
  have hb0 : Below w.heap.size w (((w.alloc (.cells (va a) 26)).alloc (.cells (va b) 26)).alloc (.cells #[.int .i64 0, .int .i64 0, .int .i64 0, .int .i64 0, .int .i64 0, .int .i64 0, .int .i64 0, .int .i64 0, .int .i64 0, .int .i64 0, .int .i64 0, .int .i64 0, .int .i64 0, .int .i64 0, .int .i64 0, .int .i64 0, .int .i64 0, .int .i64 0, .int .i64 0, .int .i64 0, .int .i64 0, .int .i64 0, .int .i64 0, .int .i64 0] 26)) := ((below_new _ _).alloc (by simp) _).alloc (by simp; omega) _
  cases h0 : (vok a && vok b)
  · have H0 := Lib.hid (chk2_no h0)
    have HR := Lib.hid (show joinE plusM a b = 1 ∧ joinR plusM a b = zeroV by simp [joinE, joinR, h0, orZero])
    clear h0
    rw [HR.out.1, HR.out.2]
    go_enter Tryz.func69, Tryz.ntmps69
    go_wp2_with (first
      | (refine ldV 3 rfl rfl hA rfl ?_)
      | (refine ldV 4 rfl rfl hB rfl ?_)
      | (refine stV 6 16 rfl rfl hZ1 rfl (congrArg Value.agg z24) ?_)
      | (go_at_call 72; refine (checkTwo_any _ _ _).mono ?_; rw [H0.out]; rintro e w1 ⟨rfl, hb1⟩; have hZ1 := hZ.below hb1 (by simp)))
    exact bodyPost_ret (resV2 rfl _ _ (hZ1.setRow _) rfl rfl) rfl ⟨rfl, below_setRow (below_next hb0 (by simp; omega) hb1) (by omega) _⟩
  · have H0 := Lib.hid (chk2_ok h0)
    obtain ⟨hva, hvb⟩ : vok a = true ∧ vok b = true := by simpa using h0
    have HR := Lib.hid (show joinE plusM a b = rngE (joinV plusM a b) by simp [joinE, h0])
    clear h0
    unfold joinR
    rw [HR.out]
    have ok1 := (vok_iff.1 hva).all
    have ok2 := (vok_iff.1 hvb).all
    clear hva hvb
    go_enter Tryz.func69, Tryz.ntmps69
    go_wp2_with (first
      | (refine ldV 3 rfl rfl hA rfl ?_)
      | (refine ldV 4 rfl rfl hB rfl ?_)
      | (go_at_call 72; refine (checkTwo_any _ _ _).mono ?_; rw [H0.out]; rintro e w1 ⟨rfl, hb1⟩))
    have hb2 := below_next hb0 (by simp; omega) hb1
    have hz1 : w.heap.size + 1 + 1 + 1 ≤ w1.heap.size := by have := hb1.size; simpa using this
    have hA1 := (hA.below hb1 (by simp; omega)).alloc (.cells #[.int .i64 0, .int .i64 0, .int .i64 0, .int .i64 0, .int .i64 0, .int .i64 0, .int .i64 0, .int .i64 0, .int .i64 0, .int .i64 0, .int .i64 0, .int .i64 0, .int .i64 0, .int .i64 0, .int .i64 0, .int .i64 0, .int .i64 0, .int .i64 0, .int .i64 0, .int .i64 0, .int .i64 0, .int .i64 0, .int .i64 0, .int .i64 0] 26)
    have hB1 := (hB.below hb1 (by simp)).alloc (.cells #[.int .i64 0, .int .i64 0, .int .i64 0, .int .i64 0, .int .i64 0, .int .i64 0, .int .i64 0, .int .i64 0, .int .i64 0, .int .i64 0, .int .i64 0, .int .i64 0, .int .i64 0, .int .i64 0, .int .i64 0, .int .i64 0, .int .i64 0, .int .i64 0, .int .i64 0, .int .i64 0, .int .i64 0, .int .i64 0, .int .i64 0, .int .i64 0] 26)
    have hZ1 := (hZ.below hb1 (by simp)).alloc (.cells #[.int .i64 0, .int .i64 0, .int .i64 0, .int .i64 0, .int .i64 0, .int .i64 0, .int .i64 0, .int .i64 0, .int .i64 0, .int .i64 0, .int .i64 0, .int .i64 0, .int .i64 0, .int .i64 0, .int .i64 0, .int .i64 0, .int .i64 0, .int .i64 0, .int .i64 0, .int .i64 0, .int .i64 0, .int .i64 0, .int .i64 0, .int .i64 0] 26)
    have hC1 : Blk (w1.alloc (.cells #[.int .i64 0, .int .i64 0, .int .i64 0, .int .i64 0, .int .i64 0, .int .i64 0, .int .i64 0, .int .i64 0, .int .i64 0, .int .i64 0, .int .i64 0, .int .i64 0, .int .i64 0, .int .i64 0, .int .i64 0, .int .i64 0, .int .i64 0, .int .i64 0, .int .i64 0, .int .i64 0, .int .i64 0, .int .i64 0, .int .i64 0, .int .i64 0] 26)) w1.heap.size 26 (va (firstV (joinV plusM a b) 0)) := by rw [z24, firstV_zero]; exact Blk.new _ _ _
    have hb3 := hb2.alloc (by omega) (.cells #[.int .i64 0, .int .i64 0, .int .i64 0, .int .i64 0, .int .i64 0, .int .i64 0, .int .i64 0, .int .i64 0, .int .i64 0, .int .i64 0, .int .i64 0, .int .i64 0, .int .i64 0, .int .i64 0, .int .i64 0, .int .i64 0, .int .i64 0, .int .i64 0, .int .i64 0, .int .i64 0, .int .i64 0, .int .i64 0, .int .i64 0, .int .i64 0] 26)
    generalize hJ : joinV plusM a b = J at hC1
    have HJ := Lib.hid hJ
    clear hJ hb1 hb2 hA hB hZ hb0
    go_loopw [18] (fun t18 wr => ∃ k : Nat, k ≤ 12 ∧ t18 = .int .i64 k ∧ Blk wr w.heap.size 26 (va a) ∧ Blk wr (w.heap.size + 1) 26 (va b) ∧ Blk wr (w.heap.size + 1 + 1) 26 (va zeroV) ∧ Blk wr w1.heap.size 26 (va (firstV J k)) ∧ Below w.heap.size w wr) (fun t18 _ => 12 - (intOf t18).toNat)
    case atStart => exact ⟨0, by omega, rfl, hA1, hB1, hZ1, hC1, hb3⟩
    case round =>
      obtain ⟨k, hk, rfl, hA2, hB2, hZ2, hC2, hb4⟩ := hrel
      clear hA1 hB1 hZ1 hC1 hb3
      have hlt3 := hC2.lt
      by_cases hlt : k < 12
      · obtain ⟨c0, c1⟩ := hA2.spans k hlt
        obtain ⟨d0, d1⟩ := hB2.spans k hlt
        go_wp2_with fail
        have hp0 := ok1 (2 * k) (by omega)
        have hp1 := ok1 (2 * k + 1) (by omega)
        have hp2 := ok2 (2 * k) (by omega)
        have hp3 := ok2 (2 * k + 1) (by omega)
        have HX := Lib.hid (show (plusM (a (2 * k)) (a (2 * k + 1)) (b (2 * k)) (b (2 * k + 1))).1 = J (2 * k) ∧ (plusM (a (2 * k)) (a (2 * k + 1)) (b (2 * k)) (b (2 * k + 1))).2 = J (2 * k + 1) from by rw [← HJ.out, joinV_lo, joinV_hi]; exact ⟨rfl, rfl⟩)
        go_region_held3 (fun w' => w'.cell? ⟨w.heap.size, k * 2, none⟩ = some (.int .i64 (a (2 * k))) ∧ w'.cell? ⟨w.heap.size, k * 2 + 1, none⟩ = some (.int .i64 (a (2 * k + 1))) ∧ w'.cell? ⟨w.heap.size + 1, k * 2, none⟩ = some (.int .i64 (b (2 * k))) ∧ w'.cell? ⟨w.heap.size + 1, k * 2 + 1, none⟩ = some (.int .i64 (b (2 * k + 1)))) (first | exact K3 | exact ⟨c0, c1, d0, d1⟩ | exact keep4S K3 (by omega) (by omega))
          ((go_at_call 70; refine (plusF_any _ _ _ _ _ hp0 hp1 hp2 hp3).mono ?_; rw [HX.out.1, HX.out.2]; rintro e w3 ⟨rfl, hb5⟩; have K3 := And.intro (keepL hb5 c0) (And.intro (keepL hb5 c1) (And.intro (keepL hb5 d0) (keepL hb5 d1))); have hC3 := Blk.below (w := wr.drew) hC2 hb5 hlt3; have e0 := hC3.va (k * 2) (by omega); have e1 := hC3.va (k * 2 + 1) (by omega); have g0 := hC3.frozen (k * 2); have g1 := hC3.frozen (k * 2 + 1)))
        go_wp2
        go_roundw
        case rel => exact ⟨k + 1, by omega, by go_num, ((Blk.below (w := wr.drew) hA2 hb5 (by show _ < wr.heap.size; omega)).far (by show _ ≠ w1.heap.size; omega) _).far (by show _ ≠ w1.heap.size; omega) _, ((Blk.below (w := wr.drew) hB2 hb5 (by show _ < wr.heap.size; omega)).far (by show _ ≠ w1.heap.size; omega) _).far (by show _ ≠ w1.heap.size; omega) _,
          ((Blk.below (w := wr.drew) hZ2 hb5 (by show _ < wr.heap.size; omega)).far (by show _ ≠ w1.heap.size; omega) _).far (by show _ ≠ w1.heap.size; omega) _, hC3.joinStep hlt, ((below_next hb4.drew (by simp; omega) hb5).setCell (by show _ ≤ w1.heap.size; omega) _).setCell (by show _ ≤ w1.heap.size; omega) _⟩
        case measure => simp [intOf]; omega
      · obtain rfl : k = 12 := by omega
        have hC3 : Blk wr w1.heap.size 26 (va J) := by rw [← firstV_all]; exact hC2
        clear hC2
        go_wp2_with (first
          | (refine ldV 9 rfl rfl hC3 rfl ?_)
          | (go_at_call 75; refine (inRange_any _ _).mono ?_; rintro e w4 ⟨rfl, hb5⟩; have hZ4 := hZ2.below hb5 (by omega))
          | (refine stV 6 37 rfl rfl hZ4 rfl rfl ?_))
        exact bodyPost_ret (resV2 rfl _ _ (hZ4.setRow _) rfl rfl) rfl ⟨by rw [HJ.out]; rfl, below_setRow (below_next hb4 (by omega) hb5) (by omega) _⟩

set_option maxRecDepth 100000 in
set_option maxHeartbeats 800000 in
theorem joinLess_any (a b : Nat → Int) (w : World) : Calls Tryz.prog 69 #[.agg (va a), .agg (va b), .func (.func 71) #[] #[]] w (RetV w (joinR lessM a b) (joinE lessM a b)) := by
  have hA := ((Blk.new w 26 (va a)).alloc (.cells (va b) 26)).alloc (.cells #[.int .i64 0, .int .i64 0, .int .i64 0, .int .i64 0, .int .i64 0, .int .i64 0, .int .i64 0, .int .i64 0, .int .i64 0, .int .i64 0, .int .i64 0, .int .i64 0, .int .i64 0, .int .i64 0, .int .i64 0, .int .i64 0, .int .i64 0, .int .i64 0, .int .i64 0, .int .i64 0, .int .i64 0, .int .i64 0, .int .i64 0, .int .i64 0] 26)
  have hB : Blk (((w.alloc (.cells (va a) 26)).alloc (.cells (va b) 26)).alloc (.cells #[.int .i64 0, .int .i64 0, .int .i64 0, .int .i64 0, .int .i64 0, .int .i64 0, .int .i64 0, .int .i64 0, .int .i64 0, .int .i64 0, .int .i64 0, .int .i64 0, .int .i64 0, .int .i64 0, .int .i64 0, .int .i64 0, .int .i64 0, .int .i64 0, .int .i64 0, .int .i64 0, .int .i64 0, .int .i64 0, .int .i64 0, .int .i64 0] 26)) (w.heap.size + 1) 26 (va b) := (Blk.newAt (by simp)).alloc _
  have hZ : Blk (((w.alloc (.cells (va a) 26)).alloc (.cells (va b) 26)).alloc (.cells #[.int .i64 0, .int .i64 0, .int .i64 0, .int .i64 0, .int .i64 0, .int .i64 0, .int .i64 0, .int .i64 0, .int .i64 0, .int .i64 0, .int .i64 0, .int .i64 0, .int .i64 0, .int .i64 0, .int .i64 0, .int .i64 0, .int .i64 0, .int .i64 0, .int .i64 0, .int .i64 0, .int .i64 0, .int .i64 0, .int .i64 0, .int .i64 0] 26)) (w.heap.size + 1 + 1) 26 (va zeroV) := by rw [z24]; exact Blk.newAt (by simp)
  have hb0 : Below w.heap.size w (((w.alloc (.cells (va a) 26)).alloc (.cells (va b) 26)).alloc (.cells #[.int .i64 0, .int .i64 0, .int .i64 0, .int .i64 0, .int .i64 0, .int .i64 0, .int .i64 0, .int .i64 0, .int .i64 0, .int .i64 0, .int .i64 0, .int .i64 0, .int .i64 0, .int .i64 0, .int .i64 0, .int .i64 0, .int .i64 0, .int .i64 0, .int .i64 0, .int .i64 0, .int .i64 0, .int .i64 0, .int .i64 0, .int .i64 0] 26)) := ((below_new _ _).alloc (by simp) _).alloc (by simp; omega) _
  cases h0 : (vok a && vok b)
  · have H0 := Lib.hid (chk2_no h0)
    have HR := Lib.hid (show joinE lessM a b = 1 ∧ joinR lessM a b = zeroV by simp [joinE, joinR, h0, orZero])
    clear h0
    rw [HR.out.1, HR.out.2]
    go_enter Tryz.func69, Tryz.ntmps69
    go_wp2_with (first
      | (refine ldV 3 rfl rfl hA rfl ?_)
      | (refine ldV 4 rfl rfl hB rfl ?_)
      | (refine stV 6 16 rfl rfl hZ1 rfl (congrArg Value.agg z24) ?_)
      | (go_at_call 72; refine (checkTwo_any _ _ _).mono ?_; rw [H0.out]; rintro e w1 ⟨rfl, hb1⟩; have hZ1 := hZ.below hb1 (by simp)))
    exact bodyPost_ret (resV2 rfl _ _ (hZ1.setRow _) rfl rfl) rfl ⟨rfl, below_setRow (below_next hb0 (by simp; omega) hb1) (by omega) _⟩
  · have H0 := Lib.hid (chk2_ok h0)
    obtain ⟨hva, hvb⟩ : vok a = true ∧ vok b = true := by simpa using h0
    have HR := Lib.hid (show joinE lessM a b = rngE (joinV lessM a b) by simp [joinE, h0])
    clear h0
    unfold joinR
    rw [HR.out]
    have ok1 := (vok_iff.1 hva).all
    have ok2 := (vok_iff.1 hvb).all
    clear hva hvb
    go_enter Tryz.func69, Tryz.ntmps69
    go_wp2_with (first
      | (refine ldV 3 rfl rfl hA rfl ?_)
      | (refine ldV 4 rfl rfl hB rfl ?_)
      | (go_at_call 72; refine (checkTwo_any _ _ _).mono ?_; rw [H0.out]; rintro e w1 ⟨rfl, hb1⟩))
    have hb2 := below_next hb0 (by simp; omega) hb1
    have hz1 : w.heap.size + 1 + 1 + 1 ≤ w1.heap.size := by have := hb1.size; simpa using this
    have hA1 := (hA.below hb1 (by simp; omega)).alloc (.cells #[.int .i64 0, .int .i64 0, .int .i64 0, .int .i64 0, .int .i64 0, .int .i64 0, .int .i64 0, .int .i64 0, .int .i64 0, .int .i64 0, .int .i64 0, .int .i64 0, .int .i64 0, .int .i64 0, .int .i64 0, .int .i64 0, .int .i64 0, .int .i64 0, .int .i64 0, .int .i64 0, .int .i64 0, .int .i64 0, .int .i64 0, .int .i64 0] 26)
    have hB1 := (hB.below hb1 (by simp)).alloc (.cells #[.int .i64 0, .int .i64 0, .int .i64 0, .int .i64 0, .int .i64 0, .int .i64 0, .int .i64 0, .int .i64 0, .int .i64 0, .int .i64 0, .int .i64 0, .int .i64 0, .int .i64 0, .int .i64 0, .int .i64 0, .int .i64 0, .int .i64 0, .int .i64 0, .int .i64 0, .int .i64 0, .int .i64 0, .int .i64 0, .int .i64 0, .int .i64 0] 26)
    have hZ1 := (hZ.below hb1 (by simp)).alloc (.cells #[.int .i64 0, .int .i64 0, .int .i64 0, .int .i64 0, .int .i64 0, .int .i64 0, .int .i64 0, .int .i64 0, .int .i64 0, .int .i64 0, .int .i64 0, .int .i64 0, .int .i64 0, .int .i64 0, .int .i64 0, .int .i64 0, .int .i64 0, .int .i64 0, .int .i64 0, .int .i64 0, .int .i64 0, .int .i64 0, .int .i64 0, .int .i64 0] 26)
    have hC1 : Blk (w1.alloc (.cells #[.int .i64 0, .int .i64 0, .int .i64 0, .int .i64 0, .int .i64 0, .int .i64 0, .int .i64 0, .int .i64 0, .int .i64 0, .int .i64 0, .int .i64 0, .int .i64 0, .int .i64 0, .int .i64 0, .int .i64 0, .int .i64 0, .int .i64 0, .int .i64 0, .int .i64 0, .int .i64 0, .int .i64 0, .int .i64 0, .int .i64 0, .int .i64 0] 26)) w1.heap.size 26 (va (firstV (joinV lessM a b) 0)) := by rw [z24, firstV_zero]; exact Blk.new _ _ _
    have hb3 := hb2.alloc (by omega) (.cells #[.int .i64 0, .int .i64 0, .int .i64 0, .int .i64 0, .int .i64 0, .int .i64 0, .int .i64 0, .int .i64 0, .int .i64 0, .int .i64 0, .int .i64 0, .int .i64 0, .int .i64 0, .int .i64 0, .int .i64 0, .int .i64 0, .int .i64 0, .int .i64 0, .int .i64 0, .int .i64 0, .int .i64 0, .int .i64 0, .int .i64 0, .int .i64 0] 26)
    generalize hJ : joinV lessM a b = J at hC1
    have HJ := Lib.hid hJ
    clear hJ hb1 hb2 hA hB hZ hb0
    go_loopw [18] (fun t18 wr => ∃ k : Nat, k ≤ 12 ∧ t18 = .int .i64 k ∧ Blk wr w.heap.size 26 (va a) ∧ Blk wr (w.heap.size + 1) 26 (va b) ∧ Blk wr (w.heap.size + 1 + 1) 26 (va zeroV) ∧ Blk wr w1.heap.size 26 (va (firstV J k)) ∧ Below w.heap.size w wr) (fun t18 _ => 12 - (intOf t18).toNat)
    case atStart => exact ⟨0, by omega, rfl, hA1, hB1, hZ1, hC1, hb3⟩
    case round =>
      obtain ⟨k, hk, rfl, hA2, hB2, hZ2, hC2, hb4⟩ := hrel
      clear hA1 hB1 hZ1 hC1 hb3
      have hlt3 := hC2.lt
      by_cases hlt : k < 12
      · obtain ⟨c0, c1⟩ := hA2.spans k hlt
        obtain ⟨d0, d1⟩ := hB2.spans k hlt
        go_wp2_with fail
        have hp0 := ok1 (2 * k) (by omega)
        have hp1 := ok1 (2 * k + 1) (by omega)
        have hp2 := ok2 (2 * k) (by omega)
        have hp3 := ok2 (2 * k + 1) (by omega)
        have HX := Lib.hid (show (lessM (a (2 * k)) (a (2 * k + 1)) (b (2 * k)) (b (2 * k + 1))).1 = J (2 * k) ∧ (lessM (a (2 * k)) (a (2 * k + 1)) (b (2 * k)) (b (2 * k + 1))).2 = J (2 * k + 1) from by rw [← HJ.out, joinV_lo, joinV_hi]; exact ⟨rfl, rfl⟩)
        go_region_held3 (fun w' => w'.cell? ⟨w.heap.size, k * 2, none⟩ = some (.int .i64 (a (2 * k))) ∧ w'.cell? ⟨w.heap.size, k * 2 + 1, none⟩ = some (.int .i64 (a (2 * k + 1))) ∧ w'.cell? ⟨w.heap.size + 1, k * 2, none⟩ = some (.int .i64 (b (2 * k))) ∧ w'.cell? ⟨w.heap.size + 1, k * 2 + 1, none⟩ = some (.int .i64 (b (2 * k + 1)))) (first | exact K3 | exact ⟨c0, c1, d0, d1⟩ | exact keep4S K3 (by omega) (by omega))
          ((go_at_call 71; refine (lessF_any _ _ _ _ _ hp0 hp1 hp2 hp3).mono ?_; rw [HX.out.1, HX.out.2]; rintro e w3 ⟨rfl, hb5⟩; have K3 := And.intro (keepL hb5 c0) (And.intro (keepL hb5 c1) (And.intro (keepL hb5 d0) (keepL hb5 d1))); have hC3 := Blk.below (w := wr.drew) hC2 hb5 hlt3; have e0 := hC3.va (k * 2) (by omega); have e1 := hC3.va (k * 2 + 1) (by omega); have g0 := hC3.frozen (k * 2); have g1 := hC3.frozen (k * 2 + 1)))
        go_wp2
        go_roundw
        case rel => exact ⟨k + 1, by omega, by go_num, ((Blk.below (w := wr.drew) hA2 hb5 (by show _ < wr.heap.size; omega)).far (by show _ ≠ w1.heap.size; omega) _).far (by show _ ≠ w1.heap.size; omega) _, ((Blk.below (w := wr.drew) hB2 hb5 (by show _ < wr.heap.size; omega)).far (by show _ ≠ w1.heap.size; omega) _).far (by show _ ≠ w1.heap.size; omega) _,
          ((Blk.below (w := wr.drew) hZ2 hb5 (by show _ < wr.heap.size; omega)).far (by show _ ≠ w1.heap.size; omega) _).far (by show _ ≠ w1.heap.size; omega) _, hC3.joinStep hlt, ((below_next hb4.drew (by simp; omega) hb5).setCell (by show _ ≤ w1.heap.size; omega) _).setCell (by show _ ≤ w1.heap.size; omega) _⟩
        case measure => simp [intOf]; omega
      · obtain rfl : k = 12 := by omega
        have hC3 : Blk wr w1.heap.size 26 (va J) := by rw [← firstV_all]; exact hC2
        clear hC2
        go_wp2_with (first
          | (refine ldV 9 rfl rfl hC3 rfl ?_)
          | (go_at_call 75; refine (inRange_any _ _).mono ?_; rintro e w4 ⟨rfl, hb5⟩; have hZ4 := hZ2.below hb5 (by omega))
          | (refine stV 6 37 rfl rfl hZ4 rfl rfl ?_))
        exact bodyPost_ret (resV2 rfl _ _ (hZ4.setRow _) rfl rfl) rfl ⟨by rw [HJ.out]; rfl, below_setRow (below_next hb4 (by omega) hb5) (by omega) _⟩

set_option maxRecDepth 100000 in
set_option maxHeartbeats 800000 in
theorem joinHull_any (a b : Nat → Int) (w : World) : Calls Tryz.prog 69 #[.agg (va a), .agg (va b), .func (.func 74) #[] #[]] w (RetV w (joinR hullM a b) (joinE hullM a b)) := by
  have hA := ((Blk.new w 26 (va a)).alloc (.cells (va b) 26)).alloc (.cells #[.int .i64 0, .int .i64 0, .int .i64 0, .int .i64 0, .int .i64 0, .int .i64 0, .int .i64 0, .int .i64 0, .int .i64 0, .int .i64 0, .int .i64 0, .int .i64 0, .int .i64 0, .int .i64 0, .int .i64 0, .int .i64 0, .int .i64 0, .int .i64 0, .int .i64 0, .int .i64 0, .int .i64 0, .int .i64 0, .int .i64 0, .int .i64 0] 26)
  have hB : Blk (((w.alloc (.cells (va a) 26)).alloc (.cells (va b) 26)).alloc (.cells #[.int .i64 0, .int .i64 0, .int .i64 0, .int .i64 0, .int .i64 0, .int .i64 0, .int .i64 0, .int .i64 0, .int .i64 0, .int .i64 0, .int .i64 0, .int .i64 0, .int .i64 0, .int .i64 0, .int .i64 0, .int .i64 0, .int .i64 0, .int .i64 0, .int .i64 0, .int .i64 0, .int .i64 0, .int .i64 0, .int .i64 0, .int .i64 0] 26)) (w.heap.size + 1) 26 (va b) := (Blk.newAt (by simp)).alloc _
  have hZ : Blk (((w.alloc (.cells (va a) 26)).alloc (.cells (va b) 26)).alloc (.cells #[.int .i64 0, .int .i64 0, .int .i64 0, .int .i64 0, .int .i64 0, .int .i64 0, .int .i64 0, .int .i64 0, .int .i64 0, .int .i64 0, .int .i64 0, .int .i64 0, .int .i64 0, .int .i64 0, .int .i64 0, .int .i64 0, .int .i64 0, .int .i64 0, .int .i64 0, .int .i64 0, .int .i64 0, .int .i64 0, .int .i64 0, .int .i64 0] 26)) (w.heap.size + 1 + 1) 26 (va zeroV) := by rw [z24]; exact Blk.newAt (by simp)
  have hb0 : Below w.heap.size w (((w.alloc (.cells (va a) 26)).alloc (.cells (va b) 26)).alloc (.cells #[.int .i64 0, .int .i64 0, .int .i64 0, .int .i64 0, .int .i64 0, .int .i64 0, .int .i64 0, .int .i64 0, .int .i64 0, .int .i64 0, .int .i64 0, .int .i64 0, .int .i64 0, .int .i64 0, .int .i64 0, .int .i64 0, .int .i64 0, .int .i64 0, .int .i64 0, .int .i64 0, .int .i64 0, .int .i64 0, .int .i64 0, .int .i64 0] 26)) := ((below_new _ _).alloc (by simp) _).alloc (by simp; omega) _
  cases h0 : (vok a && vok b)
  · have H0 := Lib.hid (chk2_no h0)
    have HR := Lib.hid (show joinE hullM a b = 1 ∧ joinR hullM a b = zeroV by simp [joinE, joinR, h0, orZero])
    clear h0
    rw [HR.out.1, HR.out.2]
    go_enter Tryz.func69, Tryz.ntmps69
    go_wp2_with (first
      | (refine ldV 3 rfl rfl hA rfl ?_)
      | (refine ldV 4 rfl rfl hB rfl ?_)
      | (refine stV 6 16 rfl rfl hZ1 rfl (congrArg Value.agg z24) ?_)
      | (go_at_call 72; refine (checkTwo_any _ _ _).mono ?_; rw [H0.out]; rintro e w1 ⟨rfl, hb1⟩; have hZ1 := hZ.below hb1 (by simp)))
    exact bodyPost_ret (resV2 rfl _ _ (hZ1.setRow _) rfl rfl) rfl ⟨rfl, below_setRow (below_next hb0 (by simp; omega) hb1) (by omega) _⟩
  · have H0 := Lib.hid (chk2_ok h0)
    obtain ⟨hva, hvb⟩ : vok a = true ∧ vok b = true := by simpa using h0
    have HR := Lib.hid (show joinE hullM a b = rngE (joinV hullM a b) by simp [joinE, h0])
    clear h0
    unfold joinR
    rw [HR.out]
    have ok1 := (vok_iff.1 hva).all
    have ok2 := (vok_iff.1 hvb).all
    clear hva hvb
    go_enter Tryz.func69, Tryz.ntmps69
    go_wp2_with (first
      | (refine ldV 3 rfl rfl hA rfl ?_)
      | (refine ldV 4 rfl rfl hB rfl ?_)
      | (go_at_call 72; refine (checkTwo_any _ _ _).mono ?_; rw [H0.out]; rintro e w1 ⟨rfl, hb1⟩))
    have hb2 := below_next hb0 (by simp; omega) hb1
    have hz1 : w.heap.size + 1 + 1 + 1 ≤ w1.heap.size := by have := hb1.size; simpa using this
    have hA1 := (hA.below hb1 (by simp; omega)).alloc (.cells #[.int .i64 0, .int .i64 0, .int .i64 0, .int .i64 0, .int .i64 0, .int .i64 0, .int .i64 0, .int .i64 0, .int .i64 0, .int .i64 0, .int .i64 0, .int .i64 0, .int .i64 0, .int .i64 0, .int .i64 0, .int .i64 0, .int .i64 0, .int .i64 0, .int .i64 0, .int .i64 0, .int .i64 0, .int .i64 0, .int .i64 0, .int .i64 0] 26)
    have hB1 := (hB.below hb1 (by simp)).alloc (.cells #[.int .i64 0, .int .i64 0, .int .i64 0, .int .i64 0, .int .i64 0, .int .i64 0, .int .i64 0, .int .i64 0, .int .i64 0, .int .i64 0, .int .i64 0, .int .i64 0, .int .i64 0, .int .i64 0, .int .i64 0, .int .i64 0, .int .i64 0, .int .i64 0, .int .i64 0, .int .i64 0, .int .i64 0, .int .i64 0, .int .i64 0, .int .i64 0] 26)
    have hZ1 := (hZ.below hb1 (by simp)).alloc (.cells #[.int .i64 0, .int .i64 0, .int .i64 0, .int .i64 0, .int .i64 0, .int .i64 0, .int .i64 0, .int .i64 0, .int .i64 0, .int .i64 0, .int .i64 0, .int .i64 0, .int .i64 0, .int .i64 0, .int .i64 0, .int .i64 0, .int .i64 0, .int .i64 0, .int .i64 0, .int .i64 0, .int .i64 0, .int .i64 0, .int .i64 0, .int .i64 0] 26)
    have hC1 : Blk (w1.alloc (.cells #[.int .i64 0, .int .i64 0, .int .i64 0, .int .i64 0, .int .i64 0, .int .i64 0, .int .i64 0, .int .i64 0, .int .i64 0, .int .i64 0, .int .i64 0, .int .i64 0, .int .i64 0, .int .i64 0, .int .i64 0, .int .i64 0, .int .i64 0, .int .i64 0, .int .i64 0, .int .i64 0, .int .i64 0, .int .i64 0, .int .i64 0, .int .i64 0] 26)) w1.heap.size 26 (va (firstV (joinV hullM a b) 0)) := by rw [z24, firstV_zero]; exact Blk.new _ _ _
    have hb3 := hb2.alloc (by omega) (.cells #[.int .i64 0, .int .i64 0, .int .i64 0, .int .i64 0, .int .i64 0, .int .i64 0, .int .i64 0, .int .i64 0, .int .i64 0, .int .i64 0, .int .i64 0, .int .i64 0, .int .i64 0, .int .i64 0, .int .i64 0, .int .i64 0, .int .i64 0, .int .i64 0, .int .i64 0, .int .i64 0, .int .i64 0, .int .i64 0, .int .i64 0, .int .i64 0] 26)
    generalize hJ : joinV hullM a b = J at hC1
    have HJ := Lib.hid hJ
    clear hJ hb1 hb2 hA hB hZ hb0
    go_loopw [18] (fun t18 wr => ∃ k : Nat, k ≤ 12 ∧ t18 = .int .i64 k ∧ Blk wr w.heap.size 26 (va a) ∧ Blk wr (w.heap.size + 1) 26 (va b) ∧ Blk wr (w.heap.size + 1 + 1) 26 (va zeroV) ∧ Blk wr w1.heap.size 26 (va (firstV J k)) ∧ Below w.heap.size w wr) (fun t18 _ => 12 - (intOf t18).toNat)
    case atStart => exact ⟨0, by omega, rfl, hA1, hB1, hZ1, hC1, hb3⟩
    case round =>
      obtain ⟨k, hk, rfl, hA2, hB2, hZ2, hC2, hb4⟩ := hrel
      clear hA1 hB1 hZ1 hC1 hb3
      have hlt3 := hC2.lt
      by_cases hlt : k < 12
      · obtain ⟨c0, c1⟩ := hA2.spans k hlt
        obtain ⟨d0, d1⟩ := hB2.spans k hlt
        go_wp2_with fail
        have hp0 := ok1 (2 * k) (by omega)
        have hp1 := ok1 (2 * k + 1) (by omega)
        have hp2 := ok2 (2 * k) (by omega)
        have hp3 := ok2 (2 * k + 1) (by omega)
        have HX := Lib.hid (show (hullM (a (2 * k)) (a (2 * k + 1)) (b (2 * k)) (b (2 * k + 1))).1 = J (2 * k) ∧ (hullM (a (2 * k)) (a (2 * k + 1)) (b (2 * k)) (b (2 * k + 1))).2 = J (2 * k + 1) from by rw [← HJ.out, joinV_lo, joinV_hi]; exact ⟨rfl, rfl⟩)
        go_region_held3 (fun w' => w'.cell? ⟨w.heap.size, k * 2, none⟩ = some (.int .i64 (a (2 * k))) ∧ w'.cell? ⟨w.heap.size, k * 2 + 1, none⟩ = some (.int .i64 (a (2 * k + 1))) ∧ w'.cell? ⟨w.heap.size + 1, k * 2, none⟩ = some (.int .i64 (b (2 * k))) ∧ w'.cell? ⟨w.heap.size + 1, k * 2 + 1, none⟩ = some (.int .i64 (b (2 * k + 1)))) (first | exact K3 | exact ⟨c0, c1, d0, d1⟩ | exact keep4S K3 (by omega) (by omega))
          ((go_at_call 74; refine (hullF_any _ _ _ _ _).mono ?_; rw [HX.out.1, HX.out.2]; rintro e w3 ⟨rfl, hb5⟩; have K3 := And.intro (keepL hb5 c0) (And.intro (keepL hb5 c1) (And.intro (keepL hb5 d0) (keepL hb5 d1))); have hC3 := Blk.below (w := wr.drew) hC2 hb5 hlt3; have e0 := hC3.va (k * 2) (by omega); have e1 := hC3.va (k * 2 + 1) (by omega); have g0 := hC3.frozen (k * 2); have g1 := hC3.frozen (k * 2 + 1)))
        go_wp2
        go_roundw
        case rel => exact ⟨k + 1, by omega, by go_num, ((Blk.below (w := wr.drew) hA2 hb5 (by show _ < wr.heap.size; omega)).far (by show _ ≠ w1.heap.size; omega) _).far (by show _ ≠ w1.heap.size; omega) _, ((Blk.below (w := wr.drew) hB2 hb5 (by show _ < wr.heap.size; omega)).far (by show _ ≠ w1.heap.size; omega) _).far (by show _ ≠ w1.heap.size; omega) _,
          ((Blk.below (w := wr.drew) hZ2 hb5 (by show _ < wr.heap.size; omega)).far (by show _ ≠ w1.heap.size; omega) _).far (by show _ ≠ w1.heap.size; omega) _, hC3.joinStep hlt, ((below_next hb4.drew (by simp; omega) hb5).setCell (by show _ ≤ w1.heap.size; omega) _).setCell (by show _ ≤ w1.heap.size; omega) _⟩
        case measure => simp [intOf]; omega
      · obtain rfl : k = 12 := by omega
        have hC3 : Blk wr w1.heap.size 26 (va J) := by rw [← firstV_all]; exact hC2
        clear hC2
        go_wp2_with (first
          | (refine ldV 9 rfl rfl hC3 rfl ?_)
          | (go_at_call 75; refine (inRange_any _ _).mono ?_; rintro e w4 ⟨rfl, hb5⟩; have hZ4 := hZ2.below hb5 (by omega))
          | (refine stV 6 37 rfl rfl hZ4 rfl rfl ?_))
        exact bodyPost_ret (resV2 rfl _ _ (hZ4.setRow _) rfl rfl) rfl ⟨by rw [HJ.out]; rfl, below_setRow (below_next hb4 (by omega) hb5) (by omega) _⟩
end Go.Proofs.YtbhiphjifdnhmaaGreatDoor
