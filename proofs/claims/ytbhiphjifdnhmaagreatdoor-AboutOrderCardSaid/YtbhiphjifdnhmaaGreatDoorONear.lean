import Derived.Test.YtbhiphjifdnhmaaGreatDoorQ0
import Derived.Test.YtbhiphjifdnhmaaGreatDoorCNear
/- Near and CheckNear. -/
namespace Go.Proofs.YtbhiphjifdnhmaaGreatDoor
set_option linter.unusedSimpArgs false
set_option linter.unusedVariables false
open Go.RowKit

set_option maxRecDepth 100000 in
set_option maxHeartbeats 1600000 in
theorem near_any (a b : Nat → Int) (most : Int) (w : World) : Calls Tryz.prog 28 #[.agg (va a), .agg (va b), .int .i64 most] w fun e w' => e = .returned (.tuple #[.agg (vcs (if nearE a b most = 0 then vdict (qNear most) a b else vd0)), .int .i64 (nearE a b most)]) ∧ Below w.heap.size w w' := by
  obtain ⟨W, hW⟩ : ∃ W, W = (((w.alloc (.cells (va a) 26)).alloc (.cells (va b) 26)).alloc (.cells #[.int .i64 0, .int .i64 0, .int .i64 0, .int .i64 0, .int .i64 0, .int .i64 0] 48)) := ⟨_, rfl⟩
  have kA : Blk W w.heap.size 26 (va a) := by rw [hW]; exact ((Blk.new _ _ _).alloc _).alloc _
  have kB : Blk W (w.heap.size + 1) 26 (va b) := by rw [hW]; exact (Blk.newAt (by simp)).alloc _
  have kR : Blk W (w.heap.size + 1 + 1) 48 (vcs vd0) := by rw [hW]; exact Blk.newAt (by simp)
  have hb0 : Below w.heap.size w W := by rw [hW]; exact ((below_new _ _).alloc (by simp) _).alloc (by simp; omega) _
  obtain ⟨E, hE⟩ : ∃ E, E = nearE a b most := ⟨_, rfl⟩
  have HE := Lib.hid hE
  rw [← hE]
  by_cases he : E = 0
  · have hn : (E != 0) = false := by simp [he]
    have HN := Lib.hid he
    rw [hE] at he
    have ok1 : ∀ i, i < 24 → -3000 ≤ a i ∧ a i ≤ 3000 := by
      refine (vok_iff.1 ?_).all
      cases hv : vok a
      · simp [nearE, hv] at he
      · rfl
    have ok2 : ∀ i, i < 24 → -3000 ≤ b i ∧ b i ≤ 3000 := by
      refine (vok_iff.1 ?_).all
      cases hv : vok b
      · simp [nearE, hv] at he
      · rfl
    rw [if_pos HN.out]
    clear he hE
    subst hW
    go_enter Tryz.func28, Tryz.ntmps28
    go_wp2_with (first
      | (refine ldV 3 rfl rfl kA rfl ?_)
      | (refine ldV 4 rfl rfl kB rfl ?_)
      | (go_at_call 80; refine (checkNearE_any _ _ _ _).mono ?_; rw [← HE.out]; rintro e w1 ⟨rfl, hb1⟩))
    have kA1 := kA.below hb1 kA.lt
    have kB1 := kB.below hb1 kB.lt
    have kR1 := kR.below hb1 kR.lt
    have hb2 := below_next hb0 hb0.size hb1
    clear kA kB kR hb1 hb0
    have hlt := kR1.lt
    refine wp_region_held_drew (S := fun w' => Blk w' w.heap.size 26 (va a) ∧ Blk w' (w.heap.size + 1) 26 (va b)) (by kernel_rfl) ⟨kA1, kB1⟩ (fun hHeld => ?_)
    (refine wpAnyH_take (i := 0) (v := ?_) rfl (by kernel_rfl) (by kernel_rfl) (by kernel_rfl) (fun _ _ _ h => h) (Or.inl ⟨by rfl, ?_⟩) (by assumption) ?_; rotate_left; (· intro w5 hS5; (try dsimp only at hS5); go_simp <;> with_reducible rfl); (try simp only [List.getElem_toArray, List.getElem_cons_zero, List.getElem_cons_succ, Act.put, List.setIfInBounds_toArray, List.set_cons_zero, List.set_cons_succ]))
    (refine wpAnyH_take (i := 2) (v := .agg (va a)) rfl (by kernel_rfl) (by kernel_rfl) (by kernel_rfl) (fun _ _ _ h => h) (yieldsIf_load_row (by rfl) 26 _ rfl _ rfl 26 _ (0, 0) _ (fun w5 hS5 => hS5.1) Tryz.underlying26 rfl (info26 _)) (by assumption) ?_; (try simp only [List.getElem_toArray, List.getElem_cons_zero, List.getElem_cons_succ, Act.put, List.setIfInBounds_toArray, List.set_cons_zero, List.set_cons_succ]))
    (refine wpAnyH_take (i := 3) (v := .agg (va b)) rfl (by kernel_rfl) (by kernel_rfl) (by kernel_rfl) (fun _ _ _ h => h) (yieldsIf_load_row (by rfl) 26 _ rfl _ rfl 26 _ (0, 0) _ (fun w5 hS5 => hS5.2) Tryz.underlying26 rfl (info26 _)) (by assumption) ?_; (try simp only [List.getElem_toArray, List.getElem_cons_zero, List.getElem_cons_succ, Act.put, List.setIfInBounds_toArray, List.set_cons_zero, List.set_cons_succ]))
    (refine wpAnyH_ready (rs := [1]) (by kernel_rfl) (by simp) ?_; refine AllReadyH.cons rfl (fun K hK => ?_) AllReadyH.nil)
    go_simp
    refine (isNear_any _ _).mono ?_
    rintro e w3 ⟨rfl, p0, hb3⟩
    have kA3 := Blk.below (w := w1.drew) kA1 hb3 kA1.lt
    have kB3 := Blk.below (w := w1.drew) kB1 hb3 kB1.lt
    have kR3 := Blk.below (w := w1.drew) kR1 hb3 kR1.lt
    refine hK.out _ _ ⟨kA3, kB3⟩ (fun hHeld => ?_)
    clear hK K
    (try simp only [List.getElem_toArray, List.getElem_cons_zero, List.getElem_cons_succ, Act.put, List.setIfInBounds_toArray, List.set_cons_zero, List.set_cons_succ])
    (refine wpAnyH_ready (rs := [4]) (by kernel_rfl) (by simp) ?_; refine AllReadyH.cons rfl (fun K hK => ?_) AllReadyH.nil)
    go_simp
    refine (verdictNear_any most _ a b _ ok1 ok2 p0).mono ?_
    obtain ⟨R, hR⟩ : ∃ R, R = vdict (qNear most) a b := ⟨_, rfl⟩
    rw [← hR]
    have HR := Lib.hid hR
    clear hR
    rw [show vcs R = #[.int .i64 R.can, .int .i64 R.must, .int .i64 R.y0, .int .i64 R.y1, .int .i64 R.n0, .int .i64 R.n1] from rfl]
    rintro e w4 ⟨rfl, hb4⟩
    have kA4 := kA3.below hb4 kA3.lt
    have kB4 := kB3.below hb4 kB3.lt
    have kR4 := kR3.below hb4 kR3.lt
    refine hK.out _ _ ⟨kA4, kB4⟩ (fun hHeld => ?_)
    clear hK K
    (try simp only [List.getElem_toArray, List.getElem_cons_zero, List.getElem_cons_succ, Act.put, List.setIfInBounds_toArray, List.set_cons_zero, List.set_cons_succ])
    obtain ⟨v0, v1, v2, v3, v4, v5⟩ := vcells kR4
    have z0 := kR4.frozen 0
    have z1 := kR4.frozen 1
    have z2 := kR4.frozen 2
    have z3 := kR4.frozen 3
    have z4 := kR4.frozen 4
    have z5 := kR4.frozen 5
    (refine wpAnyH_ready (rs := [5]) (by kernel_rfl) (by simp) ?_; refine AllReadyH.cons rfl (fun K hK => ?_) AllReadyH.nil)
    go_simp
    refine hK.out _ _ ⟨((((((kA4.far (by show _ ≠ w.heap.size + 1 + 1; omega) _).far (by show _ ≠ w.heap.size + 1 + 1; omega) _).far (by show _ ≠ w.heap.size + 1 + 1; omega) _).far (by show _ ≠ w.heap.size + 1 + 1; omega) _).far (by show _ ≠ w.heap.size + 1 + 1; omega) _).far (by show _ ≠ w.heap.size + 1 + 1; omega) _), ((((((kB4.far (by show _ ≠ w.heap.size + 1 + 1; omega) _).far (by show _ ≠ w.heap.size + 1 + 1; omega) _).far (by show _ ≠ w.heap.size + 1 + 1; omega) _).far (by show _ ≠ w.heap.size + 1 + 1; omega) _).far (by show _ ≠ w.heap.size + 1 + 1; omega) _).far (by show _ ≠ w.heap.size + 1 + 1; omega) _)⟩ (fun hHeld => ?_)
    clear hK K
    (try simp only [List.getElem_toArray, List.getElem_cons_zero, List.getElem_cons_succ, Act.put, List.setIfInBounds_toArray, List.set_cons_zero, List.set_cons_succ])
    (refine wpAnyH_take (i := 6) (v := ?_) rfl (by kernel_rfl) (by kernel_rfl) (by kernel_rfl) (fun _ _ _ h => h) (Or.inl ⟨by rfl, ?_⟩) (by assumption) ?_; rotate_left; (· intro w5 hS5; (try dsimp only at hS5); go_simp <;> with_reducible rfl); (try simp only [List.getElem_toArray, List.getElem_cons_zero, List.getElem_cons_succ, Act.put, List.setIfInBounds_toArray, List.set_cons_zero, List.set_cons_succ]))
    refine wpAnyH_done (by kernel_rfl) ?_ _
    clear hHeld
    go_wp2
    refine bodyPost_ret (resD2 rfl _ _ (kR4.sixStore _ _ _ _ _ _) rfl rfl) rfl ⟨?_, ?_⟩
    · rw [HN.out, ← HR.out]; rfl
    · exact (((((((((((below_next (below_next hb2.drew hb2.size hb3) (Nat.le_trans hb2.size hb3.size) hb4).setCell (by show _ ≤ w.heap.size + 1 + 1; omega) _)).setCell (by show _ ≤ w.heap.size + 1 + 1; omega) _)).setCell (by show _ ≤ w.heap.size + 1 + 1; omega) _)).setCell (by show _ ≤ w.heap.size + 1 + 1; omega) _)).setCell (by show _ ≤ w.heap.size + 1 + 1; omega) _)).setCell (by show _ ≤ w.heap.size + 1 + 1; omega) _
  · have hn : (E != 0) = true := by simp [he]
    have HR := Lib.hid (show (if E = 0 then vdict (qNear most) a b else vd0) = vd0 from if_neg he)
    rw [HR.out]
    clear he hE
    subst hW
    go_enter Tryz.func28, Tryz.ntmps28
    go_wp2_with (first
      | (refine ldV 3 rfl rfl kA rfl ?_)
      | (refine ldV 4 rfl rfl kB rfl ?_)
      | (go_at_call 80; refine (checkNearE_any _ _ _ _).mono ?_; rw [← HE.out]; rintro e w1 ⟨rfl, hb1⟩; have kR1 := kR.below hb1 kR.lt; obtain ⟨v0, v1, v2, v3, v4, v5⟩ := vcells kR1; have z0 := kR1.frozen 0; have z1 := kR1.frozen 1; have z2 := kR1.frozen 2; have z3 := kR1.frozen 3; have z4 := kR1.frozen 4; have z5 := kR1.frozen 5))
    refine bodyPost_ret (resD2 rfl _ _ (kR1.sixStore _ _ _ _ _ _) rfl rfl) rfl ⟨rfl, ?_⟩
    exact ((((((((((((below_next hb0 hb0.size hb1)).setCell (by show _ ≤ w.heap.size + 1 + 1; omega) _)).setCell (by show _ ≤ w.heap.size + 1 + 1; omega) _)).setCell (by show _ ≤ w.heap.size + 1 + 1; omega) _)).setCell (by show _ ≤ w.heap.size + 1 + 1; omega) _)).setCell (by show _ ≤ w.heap.size + 1 + 1; omega) _)).setCell (by show _ ≤ w.heap.size + 1 + 1; omega) _

set_option maxRecDepth 100000 in
set_option maxHeartbeats 1600000 in
theorem checkNearV_any (a b : Nat → Int) (most : Int) (v : Vd) (w : World) : Calls Tryz.prog 29 #[.agg (va a), .agg (va b), .int .i64 most, .agg (vcs v)] w fun e w' => e = .returned (.int .i64 (if nearE a b most = 0 then checkQ (qNear most) a b v else nearE a b most)) ∧ Below w.heap.size w w' := by
  obtain ⟨W, hW⟩ : ∃ W, W = (((w.alloc (.cells (va a) 26)).alloc (.cells (va b) 26)).alloc (.cells (vcs v) 48)) := ⟨_, rfl⟩
  have kA : Blk W w.heap.size 26 (va a) := by rw [hW]; exact ((Blk.new _ _ _).alloc _).alloc _
  have kB : Blk W (w.heap.size + 1) 26 (va b) := by rw [hW]; exact (Blk.newAt (by simp)).alloc _
  have kR : Blk W (w.heap.size + 1 + 1) 48 (vcs v) := by rw [hW]; exact Blk.newAt (by simp)
  have hb0 : Below w.heap.size w W := by rw [hW]; exact ((below_new _ _).alloc (by simp) _).alloc (by simp; omega) _
  obtain ⟨E, hE⟩ : ∃ E, E = nearE a b most := ⟨_, rfl⟩
  have HE := Lib.hid hE
  rw [← hE]
  by_cases he : E = 0
  · have hn : (E != 0) = false := by simp [he]
    have HN := Lib.hid he
    rw [hE] at he
    have ok1 : ∀ i, i < 24 → -3000 ≤ a i ∧ a i ≤ 3000 := by
      refine (vok_iff.1 ?_).all
      cases hv : vok a
      · simp [nearE, hv] at he
      · rfl
    have ok2 : ∀ i, i < 24 → -3000 ≤ b i ∧ b i ≤ 3000 := by
      refine (vok_iff.1 ?_).all
      cases hv : vok b
      · simp [nearE, hv] at he
      · rfl
    rw [if_pos HN.out]
    clear he hE
    subst hW
    go_enter Tryz.func29, Tryz.ntmps29
    go_wp2_with (first
      | (refine ldV 4 rfl rfl kA rfl ?_)
      | (refine ldV 5 rfl rfl kB rfl ?_)
      | (go_at_call 80; refine (checkNearE_any _ _ _ _).mono ?_; rw [← HE.out]; rintro e w1 ⟨rfl, hb1⟩))
    have kA1 := kA.below hb1 kA.lt
    have kB1 := kB.below hb1 kB.lt
    have kR1 := kR.below hb1 kR.lt
    have hb2 := below_next hb0 hb0.size hb1
    clear kA kB kR hb1 hb0
    refine wp_region_held_drew (S := fun w' => Blk w' w.heap.size 26 (va a) ∧ Blk w' (w.heap.size + 1 + 1) 48 (vcs v) ∧ Blk w' (w.heap.size + 1) 26 (va b)) (by kernel_rfl) ⟨kA1, kR1, kB1⟩ (fun hHeld => ?_)
    (refine wpAnyH_take (i := 0) (v := ?_) rfl (by kernel_rfl) (by kernel_rfl) (by kernel_rfl) (fun _ _ _ h => h) (Or.inl ⟨by rfl, ?_⟩) (by assumption) ?_; rotate_left; (· intro w5 hS5; (try dsimp only at hS5); go_simp <;> with_reducible rfl); (try simp only [List.getElem_toArray, List.getElem_cons_zero, List.getElem_cons_succ, Act.put, List.setIfInBounds_toArray, List.set_cons_zero, List.set_cons_succ]))
    (refine wpAnyH_take (i := 2) (v := .agg (va a)) rfl (by kernel_rfl) (by kernel_rfl) (by kernel_rfl) (fun _ _ _ h => h) (yieldsIf_load_row (by rfl) 26 _ rfl _ rfl 26 _ (0, 0) _ (fun w5 hS5 => hS5.1) Tryz.underlying26 rfl (info26 _)) (by assumption) ?_; (try simp only [List.getElem_toArray, List.getElem_cons_zero, List.getElem_cons_succ, Act.put, List.setIfInBounds_toArray, List.set_cons_zero, List.set_cons_succ]))
    (refine wpAnyH_take (i := 3) (v := .agg (va b)) rfl (by kernel_rfl) (by kernel_rfl) (by kernel_rfl) (fun _ _ _ h => h) (yieldsIf_load_row (by rfl) 26 _ rfl _ rfl 26 _ (0, 0) _ (fun w5 hS5 => hS5.2.2) Tryz.underlying26 rfl (info26 _)) (by assumption) ?_; (try simp only [List.getElem_toArray, List.getElem_cons_zero, List.getElem_cons_succ, Act.put, List.setIfInBounds_toArray, List.set_cons_zero, List.set_cons_succ]))
    (refine wpAnyH_take (i := 4) (v := .agg (vcs v)) rfl (by kernel_rfl) (by kernel_rfl) (by kernel_rfl) (fun _ _ _ h => h) (yieldsIf_load_row (by rfl) 48 _ rfl _ rfl 48 _ (0, 0) _ (fun w5 hS5 => hS5.2.1) Tryz.underlying48 rfl (by kernel_rfl)) (by assumption) ?_; (try simp only [List.getElem_toArray, List.getElem_cons_zero, List.getElem_cons_succ, Act.put, List.setIfInBounds_toArray, List.set_cons_zero, List.set_cons_succ]))
    (refine wpAnyH_ready (rs := [1]) (by kernel_rfl) (by simp) ?_; refine AllReadyH.cons rfl (fun K hK => ?_) AllReadyH.nil)
    go_simp
    refine (isNear_any _ _).mono ?_
    rintro e w3 ⟨rfl, p0, hb3⟩
    have kA3 := Blk.below (w := w1.drew) kA1 hb3 kA1.lt
    have kB3 := Blk.below (w := w1.drew) kB1 hb3 kB1.lt
    have kR3 := Blk.below (w := w1.drew) kR1 hb3 kR1.lt
    refine hK.out _ _ ⟨kA3, kR3, kB3⟩ (fun hHeld => ?_)
    clear hK K
    (try simp only [List.getElem_toArray, List.getElem_cons_zero, List.getElem_cons_succ, Act.put, List.setIfInBounds_toArray, List.set_cons_zero, List.set_cons_succ])
    (refine wpAnyH_ready (rs := [5]) (by kernel_rfl) (by simp) ?_; refine AllReadyH.cons rfl (fun K hK => ?_) AllReadyH.nil)
    go_simp
    refine (checkNear_any most _ a b v _ ok1 ok2 p0).mono ?_
    rintro e w4 ⟨rfl, hb4⟩
    have kA4 := kA3.below hb4 kA3.lt
    have kB4 := kB3.below hb4 kB3.lt
    have kR4 := kR3.below hb4 kR3.lt
    refine hK.out _ _ ⟨kA4, kR4, kB4⟩ (fun hHeld => ?_)
    clear hK K
    (try simp only [List.getElem_toArray, List.getElem_cons_zero, List.getElem_cons_succ, Act.put, List.setIfInBounds_toArray, List.set_cons_zero, List.set_cons_succ])
    (refine wpAnyH_take (i := 6) (v := ?_) rfl (by kernel_rfl) (by kernel_rfl) (by kernel_rfl) (fun _ _ _ h => h) (Or.inl ⟨by rfl, ?_⟩) (by assumption) ?_; rotate_left; (· intro w5 hS5; (try dsimp only at hS5); go_simp <;> with_reducible rfl); (try simp only [List.getElem_toArray, List.getElem_cons_zero, List.getElem_cons_succ, Act.put, List.setIfInBounds_toArray, List.set_cons_zero, List.set_cons_succ]))
    refine wpAnyH_done (by kernel_rfl) ?_ _
    clear hHeld
    go_wp2
    go_ret
    exact ⟨rfl, below_next (below_next hb2.drew hb2.size hb3) (Nat.le_trans hb2.size hb3.size) hb4⟩
  · have hn : (E != 0) = true := by simp [he]
    rw [if_neg he]
    clear he hE
    subst hW
    go_enter Tryz.func29, Tryz.ntmps29
    go_wp2_with (first
      | (refine ldV 4 rfl rfl kA rfl ?_)
      | (refine ldV 5 rfl rfl kB rfl ?_)
      | (go_at_call 80; refine (checkNearE_any _ _ _ _).mono ?_; rw [← HE.out]; rintro e w1 ⟨rfl, hb1⟩))
    go_ret
    exact ⟨rfl, below_next hb0 hb0.size hb1⟩
end Go.Proofs.YtbhiphjifdnhmaaGreatDoor
