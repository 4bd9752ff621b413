import Derived.Test.YtbhiphjifdnhmaaGreatDoorJ7
import Derived.Test.YtbhiphjifdnhmaaGreatDoorEF
set_option linter.unusedSimpArgs false
set_option linter.unusedVariables false
/- AboutJudges. -/
namespace Go.Proofs.YtbhiphjifdnhmaaGreatDoor
open Go.RowKit Go.Maps
set_option linter.unusedSimpArgs false

theorem AllB.drewJ {w : World} {L : List (Nat × TypeId × Array Value)} (h : AllB w L) : AllB w.drew L := h
set_option maxRecDepth 100000 in
set_option maxHeartbeats 16000000 in
theorem law12_in (hS : Hid SanityIs) (a b : Nat → Int) (most lo hi E1 E2 E3 R0 R1 R2 : Int) (X Y Z v : Vd) (w0 : World)
    (HV : Hid (∀ W, Calls Tryz.prog 25 #[.agg (va a), .agg (va b)] W fun e w' => e = .returned (.tuple #[.agg (vcs X), .int .i64 E1]) ∧ Below W.heap.size W w'))
    (HN : Hid (∀ W, Calls Tryz.prog 28 #[.agg (va a), .agg (va b), .int .i64 most] W fun e w' => e = .returned (.tuple #[.agg (vcs Y), .int .i64 E2]) ∧ Below W.heap.size W w'))
    (HI : Hid (∀ W, Calls Tryz.prog 30 #[.agg (va a), .agg #[.int .i64 lo, .int .i64 hi]] W fun e w' => e = .returned (.tuple #[.agg (vcs Z), .int .i64 E3]) ∧ Below W.heap.size W w'))
    (S0 : Hid (∀ W, Calls Tryz.prog 50 #[] W fun e w' => e = .returned (.agg #[.int .i64 0, .int .i64 0, .int .i64 0, .int .i64 0]) ∧ Below W.heap.size W w')) (S1 : Hid (∀ W, Calls Tryz.prog 51 #[.int .i64 most] W fun e w' => e = .returned (.agg #[.int .i64 1, .int .i64 most, .int .i64 0, .int .i64 0]) ∧ Below W.heap.size W w')) (S2 : Hid (∀ W, Calls Tryz.prog 52 #[.agg #[.int .i64 lo, .int .i64 hi]] W fun e w' => e = .returned (.agg #[.int .i64 2, .int .i64 0, .int .i64 lo, .int .i64 hi]) ∧ Below W.heap.size W w'))
    (J0 : Hid (∀ W, Calls Tryz.prog 49 #[.agg #[.int .i64 0, .int .i64 0, .int .i64 0, .int .i64 0], .agg (va a), .agg (va b), .agg (vcs X), .int .i64 E1] W fun e w' => e = .returned (.bool true) ∧ Below W.heap.size W w'))
    (J1 : Hid (∀ W, Calls Tryz.prog 49 #[.agg #[.int .i64 1, .int .i64 most, .int .i64 0, .int .i64 0], .agg (va a), .agg (va b), .agg (vcs Y), .int .i64 E2] W fun e w' => e = .returned (.bool true) ∧ Below W.heap.size W w'))
    (J2 : Hid (∀ W, Calls Tryz.prog 49 #[.agg #[.int .i64 2, .int .i64 0, .int .i64 lo, .int .i64 hi], .agg (va a), .agg (va a), .agg (vcs Z), .int .i64 E3] W fun e w' => e = .returned (.bool true) ∧ Below W.heap.size W w'))
    (K0 : Hid (∀ W, Calls Tryz.prog 26 #[.agg (va a), .agg (va b), .agg (vcs v)] W fun e w' => e = .returned (.int .i64 R0) ∧ Below W.heap.size W w')) (P0 : Hid (∀ W, Calls Tryz.prog 53 #[.agg #[.int .i64 0, .int .i64 0, .int .i64 0, .int .i64 0], .agg (va a), .agg (va b), .agg (vcs v)] W fun e w' => e = .returned (.int .i64 R0) ∧ Below W.heap.size W w'))
    (K1 : Hid (∀ W, Calls Tryz.prog 29 #[.agg (va a), .agg (va b), .int .i64 most, .agg (vcs v)] W fun e w' => e = .returned (.int .i64 R1) ∧ Below W.heap.size W w')) (P1 : Hid (∀ W, Calls Tryz.prog 53 #[.agg #[.int .i64 1, .int .i64 most, .int .i64 0, .int .i64 0], .agg (va a), .agg (va b), .agg (vcs v)] W fun e w' => e = .returned (.int .i64 R1) ∧ Below W.heap.size W w'))
    (K2 : Hid (∀ W, Calls Tryz.prog 31 #[.agg (va a), .agg #[.int .i64 lo, .int .i64 hi], .agg (vcs v)] W fun e w' => e = .returned (.int .i64 R2) ∧ Below W.heap.size W w')) (P2 : Hid (∀ W, Calls Tryz.prog 53 #[.agg #[.int .i64 2, .int .i64 0, .int .i64 lo, .int .i64 hi], .agg (va a), .agg (va a), .agg (vcs v)] W fun e w' => e = .returned (.int .i64 R2) ∧ Below W.heap.size W w')) :
    Calls Tryz.prog 12 #[.agg (va a), .agg (va b), .int .i64 most, .agg #[.int .i64 lo, .int .i64 hi], .agg (vcs v)] w0 fun e w' => e = .returned (.bool true) ∧ Below w0.heap.size w0 w' := by
  have hK : AllB ((((w0.alloc (.cells (va a) 26)).alloc (.cells (va b) 26)).alloc (.cells (#[.int .i64 lo, .int .i64 hi]) 23)).alloc (.cells (vcs v) 48)) [(w0.heap.size, 26, va a), (w0.heap.size + 1, 26, va b), (w0.heap.size + 2, 23, #[.int .i64 lo, .int .i64 hi]), (w0.heap.size + 3, 48, vcs v)] := by
    intro q hq
    simp only [List.mem_cons, List.not_mem_nil, or_false] at hq
    rcases hq with rfl | rfl | rfl | rfl
    · exact ((((Blk.new _ _ _).alloc _).alloc _).alloc _)
    · exact (((Blk.newAt (by simp)).alloc _).alloc _)
    · exact ((Blk.newAt (by simp)).alloc _)
    · exact (Blk.newAt (by simp))
  have hW : Below w0.heap.size w0 ((((w0.alloc (.cells (va a) 26)).alloc (.cells (va b) 26)).alloc (.cells (#[.int .i64 lo, .int .i64 hi]) 23)).alloc (.cells (vcs v) 48)) := (((below_new _ _).alloc (by simp) _).alloc (by simp; omega) _).alloc (by simp; omega) _
  go_enter Tryz.func12, Tryz.ntmps12
  go_upto_region 4 with (first
    | go_skip
    | (refine ldV 5 rfl rfl (hK.get 0 rfl) rfl ?_)
    | (refine ldV 6 rfl rfl (hK.get 1 rfl) rfl ?_)
    | (refine ldSp 8 rfl rfl (hK.get 2 rfl) rfl ?_)
    | (go_at_call 25; (with_reducible refine (HV.out _).mono ?_); rw [show vcs X = #[.int .i64 X.can, .int .i64 X.must, .int .i64 X.y0, .int .i64 X.y1, .int .i64 X.n0, .int .i64 X.n1] from rfl]; rintro e wv ⟨rfl, hb⟩; replace hW := (below_next hW hW.size hb).alloc (below_next hW hW.size hb).size (.cells (vcs X) 48); replace hK := (hK.below hb).push (below_new wv (.cells (vcs X) 48)) (Blk.new wv 48 (vcs X)); clear hb)
    | (go_at_call 28; (with_reducible refine (HN.out _).mono ?_); rw [show vcs Y = #[.int .i64 Y.can, .int .i64 Y.must, .int .i64 Y.y0, .int .i64 Y.y1, .int .i64 Y.n0, .int .i64 Y.n1] from rfl]; rintro e wn ⟨rfl, hb⟩; replace hW := (below_next hW hW.size hb).alloc (below_next hW hW.size hb).size (.cells (vcs Y) 48); replace hK := (hK.below hb).push (below_new wn (.cells (vcs Y) 48)) (Blk.new wn 48 (vcs Y)); clear hb)
    | (go_at_call 30; (with_reducible refine (HI.out _).mono ?_); rw [show vcs Z = #[.int .i64 Z.can, .int .i64 Z.must, .int .i64 Z.y0, .int .i64 Z.y1, .int .i64 Z.n0, .int .i64 Z.n1] from rfl]; rintro e wi ⟨rfl, hb⟩; replace hW := (below_next hW hW.size hb).alloc (below_next hW hW.size hb).size (.cells (vcs Z) 48); replace hK := (hK.below hb).push (below_new wi (.cells (vcs Z) 48)) (Blk.new wi 48 (vcs Z)); clear hb))
  have hA : AllB _ [(w0.heap.size, 26, va a), (w0.heap.size + 1, 26, va b), (w0.heap.size + 2, 23, #[.int .i64 lo, .int .i64 hi]), (w0.heap.size + 3, 48, vcs v), (wv.heap.size, 48, vcs X), (wn.heap.size, 48, vcs Y), (wi.heap.size, 48, vcs Z)] := hK
  clear hK HV HN HI
  go_cut [17] (fun s wx => s = .bool true ∧ AllB wx [(w0.heap.size, 26, va a), (w0.heap.size + 1, 26, va b), (w0.heap.size + 2, 23, #[.int .i64 lo, .int .i64 hi]), (w0.heap.size + 3, 48, vcs v), (wv.heap.size, 48, vcs X), (wn.heap.size, 48, vcs Y), (wi.heap.size, 48, vcs Z)] ∧ Below w0.heap.size w0 wx)
  case first =>
    as_aux_lemma =>
      refine wp_region_held_drew (S := fun w' => AllB w' [(w0.heap.size, 26, va a), (w0.heap.size + 1, 26, va b), (w0.heap.size + 2, 23, #[.int .i64 lo, .int .i64 hi]), (w0.heap.size + 3, 48, vcs v), (wv.heap.size, 48, vcs X), (wn.heap.size, 48, vcs Y), (wi.heap.size, 48, vcs Z)]) (by kernel_rfl) hA (fun hHeld => ?_)
      replace hA := hA.drewJ
      replace hW := hW.drew
      (refine wpAnyH_take (i := 1) (v := .agg (va a)) rfl (by kernel_rfl) (by kernel_rfl) (by kernel_rfl) (fun _ _ _ h => h) (yieldsIf_load_row (by rfl) 26 _ rfl _ rfl 26 _ (0, 0) _ (fun w5 hS5 => AllB.get hS5 0 rfl) Tryz.underlying26 rfl (info26 _)) (by assumption) ?_; (try simp only [List.getElem_toArray, List.getElem_cons_zero, List.getElem_cons_succ, Act.put, List.setIfInBounds_toArray, List.set_cons_zero, List.set_cons_succ]))
      (refine wpAnyH_take (i := 2) (v := .agg (va b)) rfl (by kernel_rfl) (by kernel_rfl) (by kernel_rfl) (fun _ _ _ h => h) (yieldsIf_load_row (by rfl) 26 _ rfl _ rfl 26 _ (0, 0) _ (fun w5 hS5 => AllB.get hS5 1 rfl) Tryz.underlying26 rfl (info26 _)) (by assumption) ?_; (try simp only [List.getElem_toArray, List.getElem_cons_zero, List.getElem_cons_succ, Act.put, List.setIfInBounds_toArray, List.set_cons_zero, List.set_cons_succ]))
      (refine wpAnyH_take (i := 3) (v := .agg (vcs X)) rfl (by kernel_rfl) (by kernel_rfl) (by kernel_rfl) (fun _ _ _ h => h) (yieldsIf_load_row (by rfl) 48 _ rfl _ rfl 48 _ (0, 0) _ (fun w5 hS5 => AllB.get hS5 4 rfl) Tryz.underlying48 rfl (by kernel_rfl)) (by assumption) ?_; (try simp only [List.getElem_toArray, List.getElem_cons_zero, List.getElem_cons_succ, Act.put, List.setIfInBounds_toArray, List.set_cons_zero, List.set_cons_succ]))
      (refine wpAnyH_take (i := 4) (v := ?_) rfl (by kernel_rfl) (by kernel_rfl) (by kernel_rfl) (fun _ _ _ h => h) (Or.inl ⟨by rfl, ?_⟩) (by assumption) ?_; rotate_left; (· intro w5 hS5; (try dsimp only at hS5); go_simp <;> with_reducible rfl); (try simp only [List.getElem_toArray, List.getElem_cons_zero, List.getElem_cons_succ, Act.put, List.setIfInBounds_toArray, List.set_cons_zero, List.set_cons_succ]))
      (refine wpAnyH_ready (rs := [0]) (by kernel_rfl) (by simp) ?_; refine AllReadyH.cons rfl (fun K hK => ?_) AllReadyH.nil)
      go_simp
      (with_reducible refine (S0.out _).mono ?_)
      rintro e x1 ⟨rfl, hx1⟩
      replace hA := AllB.below hA hx1
      replace hW := below_next hW hW.size hx1
      clear hx1
      refine hK.out _ _ hA (fun hHeld => ?_)
      clear hK K
      (try simp only [List.getElem_toArray, List.getElem_cons_zero, List.getElem_cons_succ, Act.put, List.setIfInBounds_toArray, List.set_cons_zero, List.set_cons_succ])
      (refine wpAnyH_ready (rs := [5]) (by kernel_rfl) (by simp) ?_; refine AllReadyH.cons rfl (fun K hK => ?_) AllReadyH.nil)
      go_simp
      (with_reducible refine (J0.out _).mono ?_)
      rintro e x2 ⟨rfl, hx2⟩
      replace hA := AllB.below hA hx2
      replace hW := below_next hW hW.size hx2
      clear hx2
      refine hK.out _ _ hA (fun hHeld => ?_)
      clear hK K
      (try simp only [List.getElem_toArray, List.getElem_cons_zero, List.getElem_cons_succ, Act.put, List.setIfInBounds_toArray, List.set_cons_zero, List.set_cons_succ])
      (refine wpAnyH_take (i := 6) (v := ?_) rfl (by kernel_rfl) (by kernel_rfl) (by kernel_rfl) (fun _ _ _ h => h) (Or.inl ⟨by rfl, ?_⟩) (by assumption) ?_; rotate_left; (· intro w5 hS5; (try dsimp only at hS5); go_simp <;> with_reducible rfl); (try simp only [List.getElem_toArray, List.getElem_cons_zero, List.getElem_cons_succ, Act.put, List.setIfInBounds_toArray, List.set_cons_zero, List.set_cons_succ]))
      refine wpAnyH_done (by kernel_rfl) ?_ _
      clear hHeld
      go_wp2_with fail
      go_meet
      exact ⟨rfl, hA, hW⟩
  obtain ⟨rfl, hA, hW⟩ := hcut
  go_upto_region 5 with fail
  go_cut [18] (fun s wx => s = .bool true ∧ AllB wx [(w0.heap.size, 26, va a), (w0.heap.size + 1, 26, va b), (w0.heap.size + 2, 23, #[.int .i64 lo, .int .i64 hi]), (w0.heap.size + 3, 48, vcs v), (wv.heap.size, 48, vcs X), (wn.heap.size, 48, vcs Y), (wi.heap.size, 48, vcs Z)] ∧ Below w0.heap.size w0 wx)
  case first =>
    as_aux_lemma =>
      refine wp_region_held_drew (S := fun w' => AllB w' [(w0.heap.size, 26, va a), (w0.heap.size + 1, 26, va b), (w0.heap.size + 2, 23, #[.int .i64 lo, .int .i64 hi]), (w0.heap.size + 3, 48, vcs v), (wv.heap.size, 48, vcs X), (wn.heap.size, 48, vcs Y), (wi.heap.size, 48, vcs Z)]) (by kernel_rfl) hA (fun hHeld => ?_)
      replace hA := hA.drewJ
      replace hW := hW.drew
      (refine wpAnyH_take (i := 0) (v := ?_) rfl (by kernel_rfl) (by kernel_rfl) (by kernel_rfl) (fun _ _ _ h => h) (Or.inl ⟨by rfl, ?_⟩) (by assumption) ?_; rotate_left; (· intro w5 hS5; (try dsimp only at hS5); go_simp <;> with_reducible rfl); (try simp only [List.getElem_toArray, List.getElem_cons_zero, List.getElem_cons_succ, Act.put, List.setIfInBounds_toArray, List.set_cons_zero, List.set_cons_succ]))
      (refine wpAnyH_take (i := 2) (v := .agg (va a)) rfl (by kernel_rfl) (by kernel_rfl) (by kernel_rfl) (fun _ _ _ h => h) (yieldsIf_load_row (by rfl) 26 _ rfl _ rfl 26 _ (0, 0) _ (fun w5 hS5 => AllB.get hS5 0 rfl) Tryz.underlying26 rfl (info26 _)) (by assumption) ?_; (try simp only [List.getElem_toArray, List.getElem_cons_zero, List.getElem_cons_succ, Act.put, List.setIfInBounds_toArray, List.set_cons_zero, List.set_cons_succ]))
      (refine wpAnyH_take (i := 3) (v := .agg (va b)) rfl (by kernel_rfl) (by kernel_rfl) (by kernel_rfl) (fun _ _ _ h => h) (yieldsIf_load_row (by rfl) 26 _ rfl _ rfl 26 _ (0, 0) _ (fun w5 hS5 => AllB.get hS5 1 rfl) Tryz.underlying26 rfl (info26 _)) (by assumption) ?_; (try simp only [List.getElem_toArray, List.getElem_cons_zero, List.getElem_cons_succ, Act.put, List.setIfInBounds_toArray, List.set_cons_zero, List.set_cons_succ]))
      (refine wpAnyH_take (i := 4) (v := .agg (vcs Y)) rfl (by kernel_rfl) (by kernel_rfl) (by kernel_rfl) (fun _ _ _ h => h) (yieldsIf_load_row (by rfl) 48 _ rfl _ rfl 48 _ (0, 0) _ (fun w5 hS5 => AllB.get hS5 5 rfl) Tryz.underlying48 rfl (by kernel_rfl)) (by assumption) ?_; (try simp only [List.getElem_toArray, List.getElem_cons_zero, List.getElem_cons_succ, Act.put, List.setIfInBounds_toArray, List.set_cons_zero, List.set_cons_succ]))
      (refine wpAnyH_take (i := 5) (v := ?_) rfl (by kernel_rfl) (by kernel_rfl) (by kernel_rfl) (fun _ _ _ h => h) (Or.inl ⟨by rfl, ?_⟩) (by assumption) ?_; rotate_left; (· intro w5 hS5; (try dsimp only at hS5); go_simp <;> with_reducible rfl); (try simp only [List.getElem_toArray, List.getElem_cons_zero, List.getElem_cons_succ, Act.put, List.setIfInBounds_toArray, List.set_cons_zero, List.set_cons_succ]))
      (refine wpAnyH_ready (rs := [1]) (by kernel_rfl) (by simp) ?_; refine AllReadyH.cons rfl (fun K hK => ?_) AllReadyH.nil)
      go_simp
      (with_reducible refine (S1.out _).mono ?_)
      rintro e x3 ⟨rfl, hx3⟩
      replace hA := AllB.below hA hx3
      replace hW := below_next hW hW.size hx3
      clear hx3
      refine hK.out _ _ hA (fun hHeld => ?_)
      clear hK K
      (try simp only [List.getElem_toArray, List.getElem_cons_zero, List.getElem_cons_succ, Act.put, List.setIfInBounds_toArray, List.set_cons_zero, List.set_cons_succ])
      (refine wpAnyH_ready (rs := [6]) (by kernel_rfl) (by simp) ?_; refine AllReadyH.cons rfl (fun K hK => ?_) AllReadyH.nil)
      go_simp
      (with_reducible refine (J1.out _).mono ?_)
      rintro e x4 ⟨rfl, hx4⟩
      replace hA := AllB.below hA hx4
      replace hW := below_next hW hW.size hx4
      clear hx4
      refine hK.out _ _ hA (fun hHeld => ?_)
      clear hK K
      (try simp only [List.getElem_toArray, List.getElem_cons_zero, List.getElem_cons_succ, Act.put, List.setIfInBounds_toArray, List.set_cons_zero, List.set_cons_succ])
      (refine wpAnyH_take (i := 7) (v := ?_) rfl (by kernel_rfl) (by kernel_rfl) (by kernel_rfl) (fun _ _ _ h => h) (Or.inl ⟨by rfl, ?_⟩) (by assumption) ?_; rotate_left; (· intro w5 hS5; (try dsimp only at hS5); go_simp <;> with_reducible rfl); (try simp only [List.getElem_toArray, List.getElem_cons_zero, List.getElem_cons_succ, Act.put, List.setIfInBounds_toArray, List.set_cons_zero, List.set_cons_succ]))
      refine wpAnyH_done (by kernel_rfl) ?_ _
      clear hHeld
      go_wp2_with fail
      go_meet
      exact ⟨rfl, hA, hW⟩
  obtain ⟨rfl, hA, hW⟩ := hcut
  go_upto_region 6 with fail
  go_cut [19] (fun s wx => s = .bool true ∧ AllB wx [(w0.heap.size, 26, va a), (w0.heap.size + 1, 26, va b), (w0.heap.size + 2, 23, #[.int .i64 lo, .int .i64 hi]), (w0.heap.size + 3, 48, vcs v), (wv.heap.size, 48, vcs X), (wn.heap.size, 48, vcs Y), (wi.heap.size, 48, vcs Z)] ∧ Below w0.heap.size w0 wx)
  case first =>
    as_aux_lemma =>
      refine wp_region_held_drew (S := fun w' => AllB w' [(w0.heap.size, 26, va a), (w0.heap.size + 1, 26, va b), (w0.heap.size + 2, 23, #[.int .i64 lo, .int .i64 hi]), (w0.heap.size + 3, 48, vcs v), (wv.heap.size, 48, vcs X), (wn.heap.size, 48, vcs Y), (wi.heap.size, 48, vcs Z)]) (by kernel_rfl) hA (fun hHeld => ?_)
      replace hA := hA.drewJ
      replace hW := hW.drew
      (refine wpAnyH_take (i := 0) (v := .agg #[.int .i64 lo, .int .i64 hi]) rfl (by kernel_rfl) (by kernel_rfl) (by kernel_rfl) (fun _ _ _ h => h) (yieldsIf_load_row (by rfl) 23 _ rfl _ rfl 23 _ (0, 0) _ (fun w5 hS5 => AllB.get hS5 2 rfl) Tryz.underlying23 rfl (by show _ = some 2; kernel_rfl)) (by assumption) ?_; (try simp only [List.getElem_toArray, List.getElem_cons_zero, List.getElem_cons_succ, Act.put, List.setIfInBounds_toArray, List.set_cons_zero, List.set_cons_succ]))
      (refine wpAnyH_take (i := 2) (v := .agg (va a)) rfl (by kernel_rfl) (by kernel_rfl) (by kernel_rfl) (fun _ _ _ h => h) (yieldsIf_load_row (by rfl) 26 _ rfl _ rfl 26 _ (0, 0) _ (fun w5 hS5 => AllB.get hS5 0 rfl) Tryz.underlying26 rfl (info26 _)) (by assumption) ?_; (try simp only [List.getElem_toArray, List.getElem_cons_zero, List.getElem_cons_succ, Act.put, List.setIfInBounds_toArray, List.set_cons_zero, List.set_cons_succ]))
      (refine wpAnyH_take (i := 3) (v := .agg (va a)) rfl (by kernel_rfl) (by kernel_rfl) (by kernel_rfl) (fun _ _ _ h => h) (yieldsIf_load_row (by rfl) 26 _ rfl _ rfl 26 _ (0, 0) _ (fun w5 hS5 => AllB.get hS5 0 rfl) Tryz.underlying26 rfl (info26 _)) (by assumption) ?_; (try simp only [List.getElem_toArray, List.getElem_cons_zero, List.getElem_cons_succ, Act.put, List.setIfInBounds_toArray, List.set_cons_zero, List.set_cons_succ]))
      (refine wpAnyH_take (i := 4) (v := .agg (vcs Z)) rfl (by kernel_rfl) (by kernel_rfl) (by kernel_rfl) (fun _ _ _ h => h) (yieldsIf_load_row (by rfl) 48 _ rfl _ rfl 48 _ (0, 0) _ (fun w5 hS5 => AllB.get hS5 6 rfl) Tryz.underlying48 rfl (by kernel_rfl)) (by assumption) ?_; (try simp only [List.getElem_toArray, List.getElem_cons_zero, List.getElem_cons_succ, Act.put, List.setIfInBounds_toArray, List.set_cons_zero, List.set_cons_succ]))
      (refine wpAnyH_take (i := 5) (v := ?_) rfl (by kernel_rfl) (by kernel_rfl) (by kernel_rfl) (fun _ _ _ h => h) (Or.inl ⟨by rfl, ?_⟩) (by assumption) ?_; rotate_left; (· intro w5 hS5; (try dsimp only at hS5); go_simp <;> with_reducible rfl); (try simp only [List.getElem_toArray, List.getElem_cons_zero, List.getElem_cons_succ, Act.put, List.setIfInBounds_toArray, List.set_cons_zero, List.set_cons_succ]))
      (refine wpAnyH_ready (rs := [1]) (by kernel_rfl) (by simp) ?_; refine AllReadyH.cons rfl (fun K hK => ?_) AllReadyH.nil)
      go_simp
      (with_reducible refine (S2.out _).mono ?_)
      rintro e x5 ⟨rfl, hx5⟩
      replace hA := AllB.below hA hx5
      replace hW := below_next hW hW.size hx5
      clear hx5
      refine hK.out _ _ hA (fun hHeld => ?_)
      clear hK K
      (try simp only [List.getElem_toArray, List.getElem_cons_zero, List.getElem_cons_succ, Act.put, List.setIfInBounds_toArray, List.set_cons_zero, List.set_cons_succ])
      (refine wpAnyH_ready (rs := [6]) (by kernel_rfl) (by simp) ?_; refine AllReadyH.cons rfl (fun K hK => ?_) AllReadyH.nil)
      go_simp
      (with_reducible refine (J2.out _).mono ?_)
      rintro e x6 ⟨rfl, hx6⟩
      replace hA := AllB.below hA hx6
      replace hW := below_next hW hW.size hx6
      clear hx6
      refine hK.out _ _ hA (fun hHeld => ?_)
      clear hK K
      (try simp only [List.getElem_toArray, List.getElem_cons_zero, List.getElem_cons_succ, Act.put, List.setIfInBounds_toArray, List.set_cons_zero, List.set_cons_succ])
      (refine wpAnyH_take (i := 7) (v := ?_) rfl (by kernel_rfl) (by kernel_rfl) (by kernel_rfl) (fun _ _ _ h => h) (Or.inl ⟨by rfl, ?_⟩) (by assumption) ?_; rotate_left; (· intro w5 hS5; (try dsimp only at hS5); go_simp <;> with_reducible rfl); (try simp only [List.getElem_toArray, List.getElem_cons_zero, List.getElem_cons_succ, Act.put, List.setIfInBounds_toArray, List.set_cons_zero, List.set_cons_succ]))
      refine wpAnyH_done (by kernel_rfl) ?_ _
      clear hHeld
      go_wp2_with fail
      go_meet
      exact ⟨rfl, hA, hW⟩
  obtain ⟨rfl, hA, hW⟩ := hcut
  clear J0 J1 J2
  go_upto_region 9 with go_skip
  refine wp_region_held_drew (S := fun w' => AllB w' [(w0.heap.size, 26, va a), (w0.heap.size + 1, 26, va b), (w0.heap.size + 2, 23, #[.int .i64 lo, .int .i64 hi]), (w0.heap.size + 3, 48, vcs v), (wv.heap.size, 48, vcs X), (wn.heap.size, 48, vcs Y), (wi.heap.size, 48, vcs Z)]) (by kernel_rfl) hA (fun hHeld => ?_)
  replace hA := hA.drewJ
  replace hW := hW.drew
  (refine wpAnyH_ready (rs := [0]) (by kernel_rfl) (by simp) ?_; refine AllReadyH.cons rfl (fun K hK => ?_) AllReadyH.nil)
  go_simp
  refine (hS.out _).mono ?_
  rintro e x7 ⟨rfl, hx7⟩
  replace hA := AllB.below hA hx7
  replace hW := below_next hW hW.size hx7
  clear hx7
  refine hK.out _ _ hA (fun hHeld => ?_)
  clear hK K
  (try simp only [List.getElem_toArray, List.getElem_cons_zero, List.getElem_cons_succ, Act.put, List.setIfInBounds_toArray, List.set_cons_zero, List.set_cons_succ])
  (refine wpAnyH_take (i := 1) (v := ?_) rfl (by kernel_rfl) (by kernel_rfl) (by kernel_rfl) (fun _ _ _ h => h) (Or.inl ⟨by rfl, ?_⟩) (by assumption) ?_; rotate_left; (· intro w5 hS5; (try dsimp only at hS5); go_simp <;> with_reducible rfl); (try simp only [List.getElem_toArray, List.getElem_cons_zero, List.getElem_cons_succ, Act.put, List.setIfInBounds_toArray, List.set_cons_zero, List.set_cons_succ]))
  (refine wpAnyH_take (i := 2) (v := .agg (va a)) rfl (by kernel_rfl) (by kernel_rfl) (by kernel_rfl) (fun _ _ _ h => h) (yieldsIf_load_row (by rfl) 26 _ rfl _ rfl 26 _ (0, 0) _ (fun w5 hS5 => AllB.get hS5 0 rfl) Tryz.underlying26 rfl (info26 _)) (by assumption) ?_; (try simp only [List.getElem_toArray, List.getElem_cons_zero, List.getElem_cons_succ, Act.put, List.setIfInBounds_toArray, List.set_cons_zero, List.set_cons_succ]))
  (refine wpAnyH_take (i := 3) (v := .agg (va b)) rfl (by kernel_rfl) (by kernel_rfl) (by kernel_rfl) (fun _ _ _ h => h) (yieldsIf_load_row (by rfl) 26 _ rfl _ rfl 26 _ (0, 0) _ (fun w5 hS5 => AllB.get hS5 1 rfl) Tryz.underlying26 rfl (info26 _)) (by assumption) ?_; (try simp only [List.getElem_toArray, List.getElem_cons_zero, List.getElem_cons_succ, Act.put, List.setIfInBounds_toArray, List.set_cons_zero, List.set_cons_succ]))
  (refine wpAnyH_take (i := 4) (v := .agg (vcs v)) rfl (by kernel_rfl) (by kernel_rfl) (by kernel_rfl) (fun _ _ _ h => h) (yieldsIf_load_row (by rfl) 48 _ rfl _ rfl 48 _ (0, 0) _ (fun w5 hS5 => AllB.get hS5 3 rfl) Tryz.underlying48 rfl (by kernel_rfl)) (by assumption) ?_; (try simp only [List.getElem_toArray, List.getElem_cons_zero, List.getElem_cons_succ, Act.put, List.setIfInBounds_toArray, List.set_cons_zero, List.set_cons_succ]))
  (refine wpAnyH_take (i := 7) (v := .agg (va a)) rfl (by kernel_rfl) (by kernel_rfl) (by kernel_rfl) (fun _ _ _ h => h) (yieldsIf_load_row (by rfl) 26 _ rfl _ rfl 26 _ (0, 0) _ (fun w5 hS5 => AllB.get hS5 0 rfl) Tryz.underlying26 rfl (info26 _)) (by assumption) ?_; (try simp only [List.getElem_toArray, List.getElem_cons_zero, List.getElem_cons_succ, Act.put, List.setIfInBounds_toArray, List.set_cons_zero, List.set_cons_succ]))
  (refine wpAnyH_take (i := 8) (v := .agg (va b)) rfl (by kernel_rfl) (by kernel_rfl) (by kernel_rfl) (fun _ _ _ h => h) (yieldsIf_load_row (by rfl) 26 _ rfl _ rfl 26 _ (0, 0) _ (fun w5 hS5 => AllB.get hS5 1 rfl) Tryz.underlying26 rfl (info26 _)) (by assumption) ?_; (try simp only [List.getElem_toArray, List.getElem_cons_zero, List.getElem_cons_succ, Act.put, List.setIfInBounds_toArray, List.set_cons_zero, List.set_cons_succ]))
  (refine wpAnyH_take (i := 9) (v := .agg (vcs v)) rfl (by kernel_rfl) (by kernel_rfl) (by kernel_rfl) (fun _ _ _ h => h) (yieldsIf_load_row (by rfl) 48 _ rfl _ rfl 48 _ (0, 0) _ (fun w5 hS5 => AllB.get hS5 3 rfl) Tryz.underlying48 rfl (by kernel_rfl)) (by assumption) ?_; (try simp only [List.getElem_toArray, List.getElem_cons_zero, List.getElem_cons_succ, Act.put, List.setIfInBounds_toArray, List.set_cons_zero, List.set_cons_succ]))
  (refine wpAnyH_ready (rs := [5]) (by kernel_rfl) (by simp) ?_; refine AllReadyH.cons rfl (fun K hK => ?_) AllReadyH.nil)
  go_simp
  (with_reducible refine (K0.out _).mono ?_)
  rintro e x8 ⟨rfl, hx8⟩
  replace hA := AllB.below hA hx8
  replace hW := below_next hW hW.size hx8
  clear hx8
  refine hK.out _ _ hA (fun hHeld => ?_)
  clear hK K
  (try simp only [List.getElem_toArray, List.getElem_cons_zero, List.getElem_cons_succ, Act.put, List.setIfInBounds_toArray, List.set_cons_zero, List.set_cons_succ])
  (refine wpAnyH_ready (rs := [6]) (by kernel_rfl) (by simp) ?_; refine AllReadyH.cons rfl (fun K hK => ?_) AllReadyH.nil)
  go_simp
  (with_reducible refine (S0.out _).mono ?_)
  rintro e x9 ⟨rfl, hx9⟩
  replace hA := AllB.below hA hx9
  replace hW := below_next hW hW.size hx9
  clear hx9
  refine hK.out _ _ hA (fun hHeld => ?_)
  clear hK K
  (try simp only [List.getElem_toArray, List.getElem_cons_zero, List.getElem_cons_succ, Act.put, List.setIfInBounds_toArray, List.set_cons_zero, List.set_cons_succ])
  (refine wpAnyH_ready (rs := [10]) (by kernel_rfl) (by simp) ?_; refine AllReadyH.cons rfl (fun K hK => ?_) AllReadyH.nil)
  go_simp
  (with_reducible refine (P0.out _).mono ?_)
  rintro e x10 ⟨rfl, hx10⟩
  replace hA := AllB.below hA hx10
  replace hW := below_next hW hW.size hx10
  clear hx10
  refine hK.out _ _ hA (fun hHeld => ?_)
  clear hK K
  (try simp only [List.getElem_toArray, List.getElem_cons_zero, List.getElem_cons_succ, Act.put, List.setIfInBounds_toArray, List.set_cons_zero, List.set_cons_succ])
  (refine wpAnyH_take (i := 11) (v := ?_) rfl (by kernel_rfl) (by kernel_rfl) (by kernel_rfl) (fun _ _ _ h => h) (Or.inl ⟨by rfl, ?_⟩) (by assumption) ?_; rotate_left; (· intro w5 hS5; (try dsimp only at hS5); go_simp <;> with_reducible rfl); (try simp only [List.getElem_toArray, List.getElem_cons_zero, List.getElem_cons_succ, Act.put, List.setIfInBounds_toArray, List.set_cons_zero, List.set_cons_succ]))
  (refine wpAnyH_take (i := 12) (v := ?_) rfl (by kernel_rfl) (by kernel_rfl) (by kernel_rfl) (fun _ _ _ h => h) (Or.inl ⟨by rfl, ?_⟩) (by assumption) ?_; rotate_left; (· intro w5 hS5; (try dsimp only at hS5); go_simp <;> with_reducible rfl); (try simp only [List.getElem_toArray, List.getElem_cons_zero, List.getElem_cons_succ, Act.put, List.setIfInBounds_toArray, List.set_cons_zero, List.set_cons_succ]))
  (refine wpAnyH_take (i := 13) (v := ?_) rfl (by kernel_rfl) (by kernel_rfl) (by kernel_rfl) (fun _ _ _ h => h) (Or.inl ⟨by rfl, ?_⟩) (by assumption) ?_; rotate_left; (· intro w5 hS5; (try dsimp only at hS5); go_simp <;> with_reducible rfl); (try simp only [List.getElem_toArray, List.getElem_cons_zero, List.getElem_cons_succ, Act.put, List.setIfInBounds_toArray, List.set_cons_zero, List.set_cons_succ]))
  (refine wpAnyH_take (i := 14) (v := .agg (va a)) rfl (by kernel_rfl) (by kernel_rfl) (by kernel_rfl) (fun _ _ _ h => h) (yieldsIf_load_row (by rfl) 26 _ rfl _ rfl 26 _ (0, 0) _ (fun w5 hS5 => AllB.get hS5 0 rfl) Tryz.underlying26 rfl (info26 _)) (by assumption) ?_; (try simp only [List.getElem_toArray, List.getElem_cons_zero, List.getElem_cons_succ, Act.put, List.setIfInBounds_toArray, List.set_cons_zero, List.set_cons_succ]))
  (refine wpAnyH_take (i := 15) (v := .agg (va b)) rfl (by kernel_rfl) (by kernel_rfl) (by kernel_rfl) (fun _ _ _ h => h) (yieldsIf_load_row (by rfl) 26 _ rfl _ rfl 26 _ (0, 0) _ (fun w5 hS5 => AllB.get hS5 1 rfl) Tryz.underlying26 rfl (info26 _)) (by assumption) ?_; (try simp only [List.getElem_toArray, List.getElem_cons_zero, List.getElem_cons_succ, Act.put, List.setIfInBounds_toArray, List.set_cons_zero, List.set_cons_succ]))
  (refine wpAnyH_take (i := 16) (v := ?_) rfl (by kernel_rfl) (by kernel_rfl) (by kernel_rfl) (fun _ _ _ h => h) (Or.inl ⟨by rfl, ?_⟩) (by assumption) ?_; rotate_left; (· intro w5 hS5; (try dsimp only at hS5); go_simp <;> with_reducible rfl); (try simp only [List.getElem_toArray, List.getElem_cons_zero, List.getElem_cons_succ, Act.put, List.setIfInBounds_toArray, List.set_cons_zero, List.set_cons_succ]))
  (refine wpAnyH_take (i := 17) (v := .agg (vcs v)) rfl (by kernel_rfl) (by kernel_rfl) (by kernel_rfl) (fun _ _ _ h => h) (yieldsIf_load_row (by rfl) 48 _ rfl _ rfl 48 _ (0, 0) _ (fun w5 hS5 => AllB.get hS5 3 rfl) Tryz.underlying48 rfl (by kernel_rfl)) (by assumption) ?_; (try simp only [List.getElem_toArray, List.getElem_cons_zero, List.getElem_cons_succ, Act.put, List.setIfInBounds_toArray, List.set_cons_zero, List.set_cons_succ]))
  (refine wpAnyH_take (i := 19) (v := ?_) rfl (by kernel_rfl) (by kernel_rfl) (by kernel_rfl) (fun _ _ _ h => h) (Or.inl ⟨by rfl, ?_⟩) (by assumption) ?_; rotate_left; (· intro w5 hS5; (try dsimp only at hS5); go_simp <;> with_reducible rfl); (try simp only [List.getElem_toArray, List.getElem_cons_zero, List.getElem_cons_succ, Act.put, List.setIfInBounds_toArray, List.set_cons_zero, List.set_cons_succ]))
  (refine wpAnyH_take (i := 21) (v := .agg (va a)) rfl (by kernel_rfl) (by kernel_rfl) (by kernel_rfl) (fun _ _ _ h => h) (yieldsIf_load_row (by rfl) 26 _ rfl _ rfl 26 _ (0, 0) _ (fun w5 hS5 => AllB.get hS5 0 rfl) Tryz.underlying26 rfl (info26 _)) (by assumption) ?_; (try simp only [List.getElem_toArray, List.getElem_cons_zero, List.getElem_cons_succ, Act.put, List.setIfInBounds_toArray, List.set_cons_zero, List.set_cons_succ]))
  (refine wpAnyH_take (i := 22) (v := .agg (va b)) rfl (by kernel_rfl) (by kernel_rfl) (by kernel_rfl) (fun _ _ _ h => h) (yieldsIf_load_row (by rfl) 26 _ rfl _ rfl 26 _ (0, 0) _ (fun w5 hS5 => AllB.get hS5 1 rfl) Tryz.underlying26 rfl (info26 _)) (by assumption) ?_; (try simp only [List.getElem_toArray, List.getElem_cons_zero, List.getElem_cons_succ, Act.put, List.setIfInBounds_toArray, List.set_cons_zero, List.set_cons_succ]))
  (refine wpAnyH_take (i := 23) (v := .agg (vcs v)) rfl (by kernel_rfl) (by kernel_rfl) (by kernel_rfl) (fun _ _ _ h => h) (yieldsIf_load_row (by rfl) 48 _ rfl _ rfl 48 _ (0, 0) _ (fun w5 hS5 => AllB.get hS5 3 rfl) Tryz.underlying48 rfl (by kernel_rfl)) (by assumption) ?_; (try simp only [List.getElem_toArray, List.getElem_cons_zero, List.getElem_cons_succ, Act.put, List.setIfInBounds_toArray, List.set_cons_zero, List.set_cons_succ]))
  (refine wpAnyH_ready (rs := [18]) (by kernel_rfl) (by simp) ?_; refine AllReadyH.cons rfl (fun K hK => ?_) AllReadyH.nil)
  go_simp
  (with_reducible refine (K1.out _).mono ?_)
  rintro e x11 ⟨rfl, hx11⟩
  replace hA := AllB.below hA hx11
  replace hW := below_next hW hW.size hx11
  clear hx11
  refine hK.out _ _ hA (fun hHeld => ?_)
  clear hK K
  (try simp only [List.getElem_toArray, List.getElem_cons_zero, List.getElem_cons_succ, Act.put, List.setIfInBounds_toArray, List.set_cons_zero, List.set_cons_succ])
  (refine wpAnyH_ready (rs := [20]) (by kernel_rfl) (by simp) ?_; refine AllReadyH.cons rfl (fun K hK => ?_) AllReadyH.nil)
  go_simp
  (with_reducible refine (S1.out _).mono ?_)
  rintro e x12 ⟨rfl, hx12⟩
  replace hA := AllB.below hA hx12
  replace hW := below_next hW hW.size hx12
  clear hx12
  refine hK.out _ _ hA (fun hHeld => ?_)
  clear hK K
  (try simp only [List.getElem_toArray, List.getElem_cons_zero, List.getElem_cons_succ, Act.put, List.setIfInBounds_toArray, List.set_cons_zero, List.set_cons_succ])
  (refine wpAnyH_ready (rs := [24]) (by kernel_rfl) (by simp) ?_; refine AllReadyH.cons rfl (fun K hK => ?_) AllReadyH.nil)
  go_simp
  (with_reducible refine (P1.out _).mono ?_)
  rintro e x13 ⟨rfl, hx13⟩
  replace hA := AllB.below hA hx13
  replace hW := below_next hW hW.size hx13
  clear hx13
  refine hK.out _ _ hA (fun hHeld => ?_)
  clear hK K
  (try simp only [List.getElem_toArray, List.getElem_cons_zero, List.getElem_cons_succ, Act.put, List.setIfInBounds_toArray, List.set_cons_zero, List.set_cons_succ])
  (refine wpAnyH_take (i := 25) (v := ?_) rfl (by kernel_rfl) (by kernel_rfl) (by kernel_rfl) (fun _ _ _ h => h) (Or.inl ⟨by rfl, ?_⟩) (by assumption) ?_; rotate_left; (· intro w5 hS5; (try dsimp only at hS5); go_simp <;> with_reducible rfl); (try simp only [List.getElem_toArray, List.getElem_cons_zero, List.getElem_cons_succ, Act.put, List.setIfInBounds_toArray, List.set_cons_zero, List.set_cons_succ]))
  (refine wpAnyH_take (i := 26) (v := ?_) rfl (by kernel_rfl) (by kernel_rfl) (by kernel_rfl) (fun _ _ _ h => h) (Or.inl ⟨by rfl, ?_⟩) (by assumption) ?_; rotate_left; (· intro w5 hS5; (try dsimp only at hS5); go_simp <;> with_reducible rfl); (try simp only [List.getElem_toArray, List.getElem_cons_zero, List.getElem_cons_succ, Act.put, List.setIfInBounds_toArray, List.set_cons_zero, List.set_cons_succ]))
  (refine wpAnyH_take (i := 27) (v := ?_) rfl (by kernel_rfl) (by kernel_rfl) (by kernel_rfl) (fun _ _ _ h => h) (Or.inl ⟨by rfl, ?_⟩) (by assumption) ?_; rotate_left; (· intro w5 hS5; (try dsimp only at hS5); go_simp <;> with_reducible rfl); (try simp only [List.getElem_toArray, List.getElem_cons_zero, List.getElem_cons_succ, Act.put, List.setIfInBounds_toArray, List.set_cons_zero, List.set_cons_succ]))
  (refine wpAnyH_take (i := 28) (v := .agg (va a)) rfl (by kernel_rfl) (by kernel_rfl) (by kernel_rfl) (fun _ _ _ h => h) (yieldsIf_load_row (by rfl) 26 _ rfl _ rfl 26 _ (0, 0) _ (fun w5 hS5 => AllB.get hS5 0 rfl) Tryz.underlying26 rfl (info26 _)) (by assumption) ?_; (try simp only [List.getElem_toArray, List.getElem_cons_zero, List.getElem_cons_succ, Act.put, List.setIfInBounds_toArray, List.set_cons_zero, List.set_cons_succ]))
  (refine wpAnyH_take (i := 29) (v := .agg #[.int .i64 lo, .int .i64 hi]) rfl (by kernel_rfl) (by kernel_rfl) (by kernel_rfl) (fun _ _ _ h => h) (yieldsIf_load_row (by rfl) 23 _ rfl _ rfl 23 _ (0, 0) _ (fun w5 hS5 => AllB.get hS5 2 rfl) Tryz.underlying23 rfl (by show _ = some 2; kernel_rfl)) (by assumption) ?_; (try simp only [List.getElem_toArray, List.getElem_cons_zero, List.getElem_cons_succ, Act.put, List.setIfInBounds_toArray, List.set_cons_zero, List.set_cons_succ]))
  (refine wpAnyH_take (i := 30) (v := .agg (vcs v)) rfl (by kernel_rfl) (by kernel_rfl) (by kernel_rfl) (fun _ _ _ h => h) (yieldsIf_load_row (by rfl) 48 _ rfl _ rfl 48 _ (0, 0) _ (fun w5 hS5 => AllB.get hS5 3 rfl) Tryz.underlying48 rfl (by kernel_rfl)) (by assumption) ?_; (try simp only [List.getElem_toArray, List.getElem_cons_zero, List.getElem_cons_succ, Act.put, List.setIfInBounds_toArray, List.set_cons_zero, List.set_cons_succ]))
  (refine wpAnyH_take (i := 32) (v := .agg #[.int .i64 lo, .int .i64 hi]) rfl (by kernel_rfl) (by kernel_rfl) (by kernel_rfl) (fun _ _ _ h => h) (yieldsIf_load_row (by rfl) 23 _ rfl _ rfl 23 _ (0, 0) _ (fun w5 hS5 => AllB.get hS5 2 rfl) Tryz.underlying23 rfl (by show _ = some 2; kernel_rfl)) (by assumption) ?_; (try simp only [List.getElem_toArray, List.getElem_cons_zero, List.getElem_cons_succ, Act.put, List.setIfInBounds_toArray, List.set_cons_zero, List.set_cons_succ]))
  (refine wpAnyH_take (i := 34) (v := .agg (va a)) rfl (by kernel_rfl) (by kernel_rfl) (by kernel_rfl) (fun _ _ _ h => h) (yieldsIf_load_row (by rfl) 26 _ rfl _ rfl 26 _ (0, 0) _ (fun w5 hS5 => AllB.get hS5 0 rfl) Tryz.underlying26 rfl (info26 _)) (by assumption) ?_; (try simp only [List.getElem_toArray, List.getElem_cons_zero, List.getElem_cons_succ, Act.put, List.setIfInBounds_toArray, List.set_cons_zero, List.set_cons_succ]))
  (refine wpAnyH_take (i := 35) (v := .agg (va a)) rfl (by kernel_rfl) (by kernel_rfl) (by kernel_rfl) (fun _ _ _ h => h) (yieldsIf_load_row (by rfl) 26 _ rfl _ rfl 26 _ (0, 0) _ (fun w5 hS5 => AllB.get hS5 0 rfl) Tryz.underlying26 rfl (info26 _)) (by assumption) ?_; (try simp only [List.getElem_toArray, List.getElem_cons_zero, List.getElem_cons_succ, Act.put, List.setIfInBounds_toArray, List.set_cons_zero, List.set_cons_succ]))
  (refine wpAnyH_take (i := 36) (v := .agg (vcs v)) rfl (by kernel_rfl) (by kernel_rfl) (by kernel_rfl) (fun _ _ _ h => h) (yieldsIf_load_row (by rfl) 48 _ rfl _ rfl 48 _ (0, 0) _ (fun w5 hS5 => AllB.get hS5 3 rfl) Tryz.underlying48 rfl (by kernel_rfl)) (by assumption) ?_; (try simp only [List.getElem_toArray, List.getElem_cons_zero, List.getElem_cons_succ, Act.put, List.setIfInBounds_toArray, List.set_cons_zero, List.set_cons_succ]))
  (refine wpAnyH_ready (rs := [31]) (by kernel_rfl) (by simp) ?_; refine AllReadyH.cons rfl (fun K hK => ?_) AllReadyH.nil)
  go_simp
  (with_reducible refine (K2.out _).mono ?_)
  rintro e x14 ⟨rfl, hx14⟩
  replace hA := AllB.below hA hx14
  replace hW := below_next hW hW.size hx14
  clear hx14
  refine hK.out _ _ hA (fun hHeld => ?_)
  clear hK K
  (try simp only [List.getElem_toArray, List.getElem_cons_zero, List.getElem_cons_succ, Act.put, List.setIfInBounds_toArray, List.set_cons_zero, List.set_cons_succ])
  (refine wpAnyH_ready (rs := [33]) (by kernel_rfl) (by simp) ?_; refine AllReadyH.cons rfl (fun K hK => ?_) AllReadyH.nil)
  go_simp
  (with_reducible refine (S2.out _).mono ?_)
  rintro e x15 ⟨rfl, hx15⟩
  replace hA := AllB.below hA hx15
  replace hW := below_next hW hW.size hx15
  clear hx15
  refine hK.out _ _ hA (fun hHeld => ?_)
  clear hK K
  (try simp only [List.getElem_toArray, List.getElem_cons_zero, List.getElem_cons_succ, Act.put, List.setIfInBounds_toArray, List.set_cons_zero, List.set_cons_succ])
  (refine wpAnyH_ready (rs := [37]) (by kernel_rfl) (by simp) ?_; refine AllReadyH.cons rfl (fun K hK => ?_) AllReadyH.nil)
  go_simp
  (with_reducible refine (P2.out _).mono ?_)
  rintro e x16 ⟨rfl, hx16⟩
  replace hA := AllB.below hA hx16
  replace hW := below_next hW hW.size hx16
  clear hx16
  refine hK.out _ _ hA (fun hHeld => ?_)
  clear hK K
  (try simp only [List.getElem_toArray, List.getElem_cons_zero, List.getElem_cons_succ, Act.put, List.setIfInBounds_toArray, List.set_cons_zero, List.set_cons_succ])
  (refine wpAnyH_take (i := 38) (v := ?_) rfl (by kernel_rfl) (by kernel_rfl) (by kernel_rfl) (fun _ _ _ h => h) (Or.inl ⟨by rfl, ?_⟩) (by assumption) ?_; rotate_left; (· intro w5 hS5; (try dsimp only at hS5); go_simp <;> with_reducible rfl); (try simp only [List.getElem_toArray, List.getElem_cons_zero, List.getElem_cons_succ, Act.put, List.setIfInBounds_toArray, List.set_cons_zero, List.set_cons_succ]))
  (refine wpAnyH_take (i := 39) (v := ?_) rfl (by kernel_rfl) (by kernel_rfl) (by kernel_rfl) (fun _ _ _ h => h) (Or.inl ⟨by rfl, ?_⟩) (by assumption) ?_; rotate_left; (· intro w5 hS5; (try dsimp only at hS5); go_simp <;> with_reducible rfl); (try simp only [List.getElem_toArray, List.getElem_cons_zero, List.getElem_cons_succ, Act.put, List.setIfInBounds_toArray, List.set_cons_zero, List.set_cons_succ]))
  (refine wpAnyH_take (i := 40) (v := ?_) rfl (by kernel_rfl) (by kernel_rfl) (by kernel_rfl) (fun _ _ _ h => h) (Or.inl ⟨by rfl, ?_⟩) (by assumption) ?_; rotate_left; (· intro w5 hS5; (try dsimp only at hS5); go_simp <;> with_reducible rfl); (try simp only [List.getElem_toArray, List.getElem_cons_zero, List.getElem_cons_succ, Act.put, List.setIfInBounds_toArray, List.set_cons_zero, List.set_cons_succ]))
  refine wpAnyH_done (by kernel_rfl) ?_ _
  clear hHeld
  go_wp2_with fail
  go_ret
  exact ⟨rfl, hW⟩
theorem refE_before (m lo hi : Int) (a b : Nat → Int) : refE 0 m lo hi a b = chk2 a b := by
  unfold refE chk2
  cases vok a <;> cases vok b <;> simp [sortB]
theorem secV_0 (b : Nat → Int) : secV 0 b = b := rfl
theorem secV_1 (b : Nat → Int) : secV 1 b = b := rfl
theorem secV_2 (b : Nat → Int) : secV 2 b = zeroV := rfl
theorem refE_near (m : Int) (a b : Nat → Int) : refE 1 m 0 0 a b = nearE a b m := by
  unfold refE nearE
  cases vok a <;> cases vok b <;> simp [sortB]
  all_goals first | rfl | (split <;> split <;> first | rfl | (exfalso; omega))
theorem refE_in (lo hi : Int) (a : Nat → Int) : refE 2 0 lo hi a a = inE a lo hi := by
  unfold refE inE
  cases vok a <;> simp [sortB]
  all_goals first | rfl | (split <;> split <;> first | rfl | (exfalso; omega))
theorem law12_any (hS : Hid SanityIs) (a b : Nat → Int) (most lo hi : Int) (v : Vd) (w : World) :
    Calls Tryz.prog 12 #[.agg (va a), .agg (va b), .int .i64 most, .agg #[.int .i64 lo, .int .i64 hi], .agg (vcs v)] w fun e w' => e = .returned (.bool true) ∧ Below w.heap.size w w' := by
  have k0 : (0 : Int) = 0 ∨ (0 : Int) = 1 ∨ (0 : Int) = 2 := .inl rfl
  have k1 : (1 : Int) = 0 ∨ (1 : Int) = 1 ∨ (1 : Int) = 2 := .inr (.inl rfl)
  have k2 : (2 : Int) = 0 ∨ (2 : Int) = 1 ∨ (2 : Int) = 2 := .inr (.inr rfl)
  refine law12_in hS a b most lo hi (chk2 a b) (nearE a b most) (inE a lo hi) (refCheck 0 0 0 0 a b v) (refCheck 1 most 0 0 a b v) (refCheck 2 0 lo hi a a v)
    (if chk2 a b = 0 then vdict qBefore a b else vd0) (if nearE a b most = 0 then vdict (qNear most) a b else vd0) (if inE a lo hi = 0 then vdict (qIn lo hi) a zeroV else vd0) v w
    (Lib.hid fun W => before_any a b W) (Lib.hid fun W => near_any a b most W) (Lib.hid fun W => in_any a lo hi W) (Lib.hid fun W => sortBefore_any W) (Lib.hid fun W => sortNear_any most W) (Lib.hid fun W => sortIn_any lo hi W)
    (Lib.hid fun W => judged_any 0 0 0 0 k0 a b _ _ (fun h => ?_) (fun h => ?_) W) (Lib.hid fun W => judged_any 1 most 0 0 k1 a b _ _ (fun h => ?_) (fun h => ?_) W) (Lib.hid fun W => judged_any 2 0 lo hi k2 a a _ _ (fun h => ?_) (fun h => ?_) W)
    (Lib.hid fun W => ?_) (Lib.hid fun W => refCheckV_any 0 0 0 0 k0 a b v W) (Lib.hid fun W => ?_) (Lib.hid fun W => refCheckV_any 1 most 0 0 k1 a b v W) (Lib.hid fun W => ?_) (Lib.hid fun W => refCheckV_any 2 0 lo hi k2 a a v W)
  · have h' := h
    rw [refE_before] at h'
    rw [if_pos h']
    exact ⟨h', refCheck_self k0 h⟩
  · have h' := h
    rw [refE_before] at h'
    rw [if_neg h', refE_before]
    exact ⟨rfl, rfl⟩
  · have h' := h
    rw [refE_near] at h'
    rw [if_pos h']
    exact ⟨h', refCheck_self k1 h⟩
  · have h' := h
    rw [refE_near] at h'
    rw [if_neg h', refE_near]
    exact ⟨rfl, rfl⟩
  · have h' := h
    rw [refE_in] at h'
    rw [if_pos h']
    exact ⟨h', refCheck_self k2 h⟩
  · have h' := h
    rw [refE_in] at h'
    rw [if_neg h', refE_in]
    exact ⟨rfl, rfl⟩
  · have h := checkBeforeV_any a b v W
    by_cases hc : chk2 a b = 0
    · rw [if_pos hc] at h
      rw [refCheck_eq k0 (by rw [refE_before]; exact hc)]
      exact h
    · rw [if_neg hc] at h
      rw [refCheck, if_neg (by rw [refE_before]; exact hc), refE_before]
      exact h
  · have h := checkNearV_any a b most v W
    by_cases hc : nearE a b most = 0
    · rw [if_pos hc] at h
      rw [refCheck_eq k1 (by rw [refE_near]; exact hc)]
      exact h
    · rw [if_neg hc] at h
      rw [refCheck, if_neg (by rw [refE_near]; exact hc), refE_near]
      exact h
  · have h := checkInV_any a lo hi v W
    by_cases hc : inE a lo hi = 0
    · rw [if_pos hc] at h
      rw [refCheck_eq k2 (by rw [refE_in]; exact hc)]
      exact h
    · rw [if_neg hc] at h
      rw [refCheck, if_neg (by rw [refE_in]; exact hc), refE_in]
      exact h
end Go.Proofs.YtbhiphjifdnhmaaGreatDoor
