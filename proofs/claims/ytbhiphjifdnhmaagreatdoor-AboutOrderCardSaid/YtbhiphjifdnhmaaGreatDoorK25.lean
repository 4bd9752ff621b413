import Derived.Test.YtbhiphjifdnhmaaGreatDoorK24
set_option linter.unusedSimpArgs false
set_option linter.unusedVariables false
/- The chapter's examples: sanity. -/
namespace Go.Proofs.YtbhiphjifdnhmaaGreatDoor
open Go.RowKit Go.Maps

set_option maxRecDepth 100000 in
set_option maxHeartbeats 8000000 in
theorem sanity_ex (X Y U V : Nat → Int) (H : Ex X Y U V) (w0 : World) : Calls Tryz.prog 15 #[] w0 fun e w' => e = .returned (.bool true) ∧ Below w0.heap.size w0 w' := by
  have HE : Hid (Ex X Y U V) := H
  clear H
  obtain ⟨P, hP⟩ : ∃ P, P = v2 := ⟨_, rfl⟩
  obtain ⟨Q, hQ⟩ : ∃ Q, Q = v5 := ⟨_, rfl⟩
  have HP : Hid (P 22 = 220 ∧ P 23 = 222) := by rw [hP]; exact v2_span
  have HQ : Hid (Q 0 = 221 ∧ Q 1 = 223) := by rw [hQ]; exact v5_span
  have Y2 : Hid ((yearM 2).1 = P ∧ (yearM 2).2 = 0) := by rw [hP]; exact ⟨rfl, rfl⟩
  have Y1 : Hid ((yearM 1).1 = zeroV ∧ (yearM 1).2 = 5) := ⟨rfl, rfl⟩
  have Y5 : Hid ((yearM 5).1 = Q ∧ (yearM 5).2 = 0) := by rw [hQ]; exact ⟨rfl, rfl⟩
  clear hP hQ
  have hK : AllB w0 [] := AllB.nil w0
  have hW : Below w0.heap.size w0 w0 := Below.refl _ _
  go_enter Tryz.func15, Tryz.ntmps15
  go_wp2_with (first
    | (go_at_call 65; refine (spot_any _ _ _).mono ?_; rintro e w ⟨rfl, hb⟩; replace hW := below_next hW hW.size hb; replace hK := hK.below hb; clear hb)
    | (go_at_call 20; refine (around_any _ _ _ _).mono ?_; rw [HE.out.a.1, HE.out.a.2]; rintro e wA ⟨rfl, hb⟩; replace hW := (below_next hW hW.size hb).trans ((below26 wA X).mono (below_next hW hW.size hb).size); replace hK := (hK.below hb).push (below26 wA X) (new26 wA X); clear hb; have kN := new26z wA)
    | (go_at_call 20; refine (around_any _ _ _ _).mono ?_; rw [HE.out.b.1, HE.out.b.2]; rintro e wB ⟨rfl, hb⟩; replace hW := (below_next hW hW.size hb).trans ((below26 wB Y).mono (below_next hW hW.size hb).size); replace hK := (hK.below hb).push (below26 wB Y) (new26 wB Y); clear hb; have kN := new26z wB)
    | (refine stV _ 34 rfl rfl kN rfl rfl ?_)
    | (refine stV _ 39 rfl rfl kN rfl rfl ?_)
    | (refine ldV 1 rfl rfl (hK.get 0 rfl) rfl ?_)
    | (refine ldV 3 rfl rfl (hK.get 1 rfl) rfl ?_)
    | (go_at_call 21; refine (cut_any _ _ _).mono ?_; rw [HE.out.c.1, HE.out.c.2]; rintro e wC ⟨rfl, hb⟩; replace hW := (below_next hW hW.size hb).alloc (below_next hW hW.size hb).size (.cells #[.int .i64 202, .int .i64 224] 23); replace hK := (hK.below hb).push (below_new wC (.cells #[.int .i64 202, .int .i64 224] 23)) (Blk.new wC 23 #[.int .i64 202, .int .i64 224]); clear hb)
    | (go_at_call 22; refine (degree_any _ _ _).mono ?_; rw [HE.out.d.1, HE.out.d.2]; rintro e w ⟨rfl, hb⟩; replace hW := below_next hW hW.size hb; replace hK := hK.below hb; clear hb)
    | (go_at_call 25; refine (before_any _ _ _).mono ?_; rw [HE.out.v.1, HE.out.v.2, show vcs ⟨12, 10, 213, 222, 216, 214⟩ = #[.int .i64 12, .int .i64 10, .int .i64 213, .int .i64 222, .int .i64 216, .int .i64 214] from rfl]; rintro e wV ⟨rfl, hb⟩; replace hW := (below_next hW hW.size hb).alloc (below_next hW hW.size hb).size (.cells #[.int .i64 12, .int .i64 10, .int .i64 213, .int .i64 222, .int .i64 216, .int .i64 214] 48); replace hK := (hK.below hb).push (below_new wV (.cells #[.int .i64 12, .int .i64 10, .int .i64 213, .int .i64 222, .int .i64 216, .int .i64 214] 48)) (Blk.new wV 48 #[.int .i64 12, .int .i64 10, .int .i64 213, .int .i64 222, .int .i64 216, .int .i64 214]); clear hb)
    | (go_at_call 28; refine (near_any _ _ _ _).mono ?_; rw [HE.out.n.1, HE.out.n.2, show vcs ⟨11, 13, 214, 218, 213, 222⟩ = #[.int .i64 11, .int .i64 13, .int .i64 214, .int .i64 218, .int .i64 213, .int .i64 222] from rfl]; rintro e wN ⟨rfl, hb⟩; replace hW := (below_next hW hW.size hb).alloc (below_next hW hW.size hb).size (.cells #[.int .i64 11, .int .i64 13, .int .i64 214, .int .i64 218, .int .i64 213, .int .i64 222] 48); replace hK := (hK.below hb).push (below_new wN (.cells #[.int .i64 11, .int .i64 13, .int .i64 214, .int .i64 218, .int .i64 213, .int .i64 222] 48)) (Blk.new wN 48 #[.int .i64 11, .int .i64 13, .int .i64 214, .int .i64 218, .int .i64 213, .int .i64 222]); clear hb))
  clear kN
  go_cut [13, 14] from 31 (fun v13 v14 wx => ∃ p : Nat, v13 = .pointer (some ⟨p, 0, none⟩) ∧ v14 = .int .i64 0 ∧ AllB wx [(wA.heap.size, 26, va X), (wB.heap.size, 26, va Y), (wC.heap.size, 23, #[.int .i64 202, .int .i64 224]), (wV.heap.size, 48, #[.int .i64 12, .int .i64 10, .int .i64 213, .int .i64 222, .int .i64 216, .int .i64 214]), (wN.heap.size, 48, #[.int .i64 11, .int .i64 13, .int .i64 214, .int .i64 218, .int .i64 213, .int .i64 222]), (p, 48, vcs ⟨12, 11, 213, 0, 215, 0⟩)] ∧ Below w0.heap.size w0 wx)
  case first =>
    as_aux_lemma =>
      have hK5 : AllB _ [(wA.heap.size, 26, va X), (wB.heap.size, 26, va Y), (wC.heap.size, 23, #[.int .i64 202, .int .i64 224]), (wV.heap.size, 48, #[.int .i64 12, .int .i64 10, .int .i64 213, .int .i64 222, .int .i64 216, .int .i64 214]), (wN.heap.size, 48, #[.int .i64 11, .int .i64 13, .int .i64 214, .int .i64 218, .int .i64 213, .int .i64 222])] := hK
      clear hK
      refine wp_region_held_drew (S := fun w' => AllB w' [(wA.heap.size, 26, va X), (wB.heap.size, 26, va Y), (wC.heap.size, 23, #[.int .i64 202, .int .i64 224]), (wV.heap.size, 48, #[.int .i64 12, .int .i64 10, .int .i64 213, .int .i64 222, .int .i64 216, .int .i64 214]), (wN.heap.size, 48, #[.int .i64 11, .int .i64 13, .int .i64 214, .int .i64 218, .int .i64 213, .int .i64 222])]) (by kernel_rfl) hK5 (fun hHeld => ?_)
      (refine wpAnyH_take (i := 0) (v := .agg (va X)) rfl (by kernel_rfl) (by kernel_rfl) (by kernel_rfl) (fun _ _ _ h => h) (yieldsIf_load_row (by rfl) 26 _ rfl _ rfl 26 _ (0, 0) _ (fun w5 hS5 => AllB.get hS5 0 rfl) Tryz.underlying26 rfl (info26 _)) (by assumption) ?_; (try simp only [List.getElem_toArray, List.getElem_cons_zero, List.getElem_cons_succ, Act.put, List.setIfInBounds_toArray, List.set_cons_zero, List.set_cons_succ]))
      refine wpAnyH_ready (rs := [1, 6]) (by kernel_rfl) (by simp) ?_
      refine AllReadyH.cons rfl (fun K hK => ?_) (AllReadyH.cons rfl (fun K hK => ?_) AllReadyH.nil)
      · go_simp
        refine (spot_any _ _ _).mono ?_
        rintro e v1 ⟨rfl, hc1⟩
        have hA1 := hK5.drew.below hc1
        have hB1 := below_next hW.drew hW.drew.size hc1
        refine hK.out _ _ hA1 (fun hHeld => ?_)
        clear hK K
        (try simp only [List.getElem_toArray, List.getElem_cons_zero, List.getElem_cons_succ, Act.put, List.setIfInBounds_toArray, List.set_cons_zero, List.set_cons_succ])
        refine wpAnyH_ready (rs := [2, 6]) (by kernel_rfl) (by simp) ?_
        refine AllReadyH.cons rfl (fun K hK => ?_) (AllReadyH.cons rfl (fun K hK => ?_) AllReadyH.nil)
        · go_simp
          refine (in_any _ _ _ _).mono ?_
          rw [HE.out.i.1, HE.out.i.2]
          rintro e v2 ⟨rfl, hc2⟩
          have hA2 := hA1.below hc2
          have hB2 := below_next hB1 hB1.size hc2
          refine hK.out _ _ hA2 (fun hHeld => ?_)
          clear hK K
          (try simp only [List.getElem_toArray, List.getElem_cons_zero, List.getElem_cons_succ, Act.put, List.setIfInBounds_toArray, List.set_cons_zero, List.set_cons_succ])
          (refine wpAnyH_take (i := 3) (v := ?_) rfl (by kernel_rfl) (by kernel_rfl) (by kernel_rfl) (fun _ _ _ h => h) (Or.inl ⟨by rfl, ?_⟩) (by assumption) ?_; rotate_left; (· intro w5 hS5; (try dsimp only at hS5); go_simp <;> with_reducible rfl); (try simp only [List.getElem_toArray, List.getElem_cons_zero, List.getElem_cons_succ, Act.put, List.setIfInBounds_toArray, List.set_cons_zero, List.set_cons_succ]))
          (refine wpAnyH_take (i := 4) (v := ?_) rfl (by kernel_rfl) (by kernel_rfl) (by kernel_rfl) (fun _ _ _ h => h) (Or.inl ⟨by rfl, ?_⟩) (by assumption) ?_; rotate_left; (· intro w5 hS5; (try dsimp only at hS5); go_simp <;> with_reducible rfl); (try simp only [List.getElem_toArray, List.getElem_cons_zero, List.getElem_cons_succ, Act.put, List.setIfInBounds_toArray, List.set_cons_zero, List.set_cons_succ]))
          (refine wpAnyH_take (i := 5) (v := ?_) rfl (by kernel_rfl) (by kernel_rfl) (by kernel_rfl) (fun _ _ _ h => h) (Or.inl ⟨by rfl, ?_⟩) (by assumption) ?_; rotate_left; (· intro w5 hS5; (try dsimp only at hS5); go_simp <;> with_reducible rfl); (try simp only [List.getElem_toArray, List.getElem_cons_zero, List.getElem_cons_succ, Act.put, List.setIfInBounds_toArray, List.set_cons_zero, List.set_cons_succ]))
          (refine wpAnyH_ready (rs := [6]) (by kernel_rfl) (by simp) ?_; refine AllReadyH.cons rfl (fun K hK => ?_) AllReadyH.nil)
          have kP : Blk (World.alloc v2 (.cells (vcs vd0) 48)) (World.heap v2).size 48 (vcs vd0) := Blk.new _ _ _
          have hne := AllB.ne hA2
          have hAp := AllB.below hA2 (below_new v2 (.cells (vcs vd0) 48))
          have hBp := (hB2).alloc (hB2).size (.cells (vcs vd0) 48)
          go_simp
          refine hK.out _ _ hAp (fun hHeld => ?_)
          clear hK K
          (try simp only [List.getElem_toArray, List.getElem_cons_zero, List.getElem_cons_succ, Act.put, List.setIfInBounds_toArray, List.set_cons_zero, List.set_cons_succ])
          have hpl : w0.heap.size ≤ v2.heap.size := hB2.size
          (refine wpAnyH_ready (rs := [7]) (by kernel_rfl) (by simp) ?_; refine AllReadyH.cons rfl (fun K hK => ?_) AllReadyH.nil)
          rw [if_pos (by rfl)]
          refine wp_store_row 48 _ _ rfl v2.heap.size (vcs ⟨12, 11, 213, 0, 215, 0⟩) rfl rfl 48 _ kP (info48 _) rfl (vcs_one _) ?_
          have hAs := AllB.setRow hAp hne (vcs ⟨12, 11, 213, 0, 215, 0⟩)
          have hBs := below_setRow hBp (g := v2.heap.size) hpl (vcs ⟨12, 11, 213, 0, 215, 0⟩)
          have kS := Blk.setRow kP (vcs ⟨12, 11, 213, 0, 215, 0⟩)
          refine hK.out _ _ hAs (fun hHeld => ?_)
          clear hK K
          (try simp only [List.getElem_toArray, List.getElem_cons_zero, List.getElem_cons_succ, Act.put, List.setIfInBounds_toArray, List.set_cons_zero, List.set_cons_succ])
          (refine wpAnyH_take (i := 8) (v := ?_) rfl (by kernel_rfl) (by kernel_rfl) (by kernel_rfl) (fun _ _ _ h => h) (Or.inl ⟨by rfl, ?_⟩) (by assumption) ?_; rotate_left; (· intro w5 hS5; (try dsimp only at hS5); go_simp <;> with_reducible rfl); (try simp only [List.getElem_toArray, List.getElem_cons_zero, List.getElem_cons_succ, Act.put, List.setIfInBounds_toArray, List.set_cons_zero, List.set_cons_succ]))
          refine wpAnyH_done (by kernel_rfl) ?_ _
          clear hHeld
          go_wp2_with fail
          go_meet
          case rel => exact ⟨_, rfl, rfl, hAs.snoc kS, hBs⟩
        · have kP : Blk (World.alloc v1 (.cells (vcs vd0) 48)) (World.heap v1).size 48 (vcs vd0) := Blk.new _ _ _
          have hne := AllB.ne hA1
          have hAp := AllB.below hA1 (below_new v1 (.cells (vcs vd0) 48))
          have hBp := (hB1).alloc (hB1).size (.cells (vcs vd0) 48)
          go_simp
          refine hK.out _ _ hAp (fun hHeld => ?_)
          clear hK K
          (try simp only [List.getElem_toArray, List.getElem_cons_zero, List.getElem_cons_succ, Act.put, List.setIfInBounds_toArray, List.set_cons_zero, List.set_cons_succ])
          have hpl : w0.heap.size ≤ v1.heap.size := hB1.size
          (refine wpAnyH_ready (rs := [2]) (by kernel_rfl) (by simp) ?_; refine AllReadyH.cons rfl (fun K hK => ?_) AllReadyH.nil)
          go_simp
          refine (in_any _ _ _ _).mono ?_
          rw [HE.out.i.1, HE.out.i.2]
          rintro e v2 ⟨rfl, hc2⟩
          have hA2 := hAp.below hc2
          have hB2 := below_next hBp hBp.size hc2
          refine hK.out _ _ hA2 (fun hHeld => ?_)
          clear hK K
          (try simp only [List.getElem_toArray, List.getElem_cons_zero, List.getElem_cons_succ, Act.put, List.setIfInBounds_toArray, List.set_cons_zero, List.set_cons_succ])
          have kP2 := kP.below hc2 (by simp)
          (refine wpAnyH_take (i := 3) (v := ?_) rfl (by kernel_rfl) (by kernel_rfl) (by kernel_rfl) (fun _ _ _ h => h) (Or.inl ⟨by rfl, ?_⟩) (by assumption) ?_; rotate_left; (· intro w5 hS5; (try dsimp only at hS5); go_simp <;> with_reducible rfl); (try simp only [List.getElem_toArray, List.getElem_cons_zero, List.getElem_cons_succ, Act.put, List.setIfInBounds_toArray, List.set_cons_zero, List.set_cons_succ]))
          (refine wpAnyH_take (i := 4) (v := ?_) rfl (by kernel_rfl) (by kernel_rfl) (by kernel_rfl) (fun _ _ _ h => h) (Or.inl ⟨by rfl, ?_⟩) (by assumption) ?_; rotate_left; (· intro w5 hS5; (try dsimp only at hS5); go_simp <;> with_reducible rfl); (try simp only [List.getElem_toArray, List.getElem_cons_zero, List.getElem_cons_succ, Act.put, List.setIfInBounds_toArray, List.set_cons_zero, List.set_cons_succ]))
          (refine wpAnyH_take (i := 5) (v := ?_) rfl (by kernel_rfl) (by kernel_rfl) (by kernel_rfl) (fun _ _ _ h => h) (Or.inl ⟨by rfl, ?_⟩) (by assumption) ?_; rotate_left; (· intro w5 hS5; (try dsimp only at hS5); go_simp <;> with_reducible rfl); (try simp only [List.getElem_toArray, List.getElem_cons_zero, List.getElem_cons_succ, Act.put, List.setIfInBounds_toArray, List.set_cons_zero, List.set_cons_succ]))
          (refine wpAnyH_ready (rs := [7]) (by kernel_rfl) (by simp) ?_; refine AllReadyH.cons rfl (fun K hK => ?_) AllReadyH.nil)
          rw [if_pos (by rfl)]
          refine wp_store_row 48 _ _ rfl v1.heap.size (vcs ⟨12, 11, 213, 0, 215, 0⟩) rfl rfl 48 _ kP2 (info48 _) rfl (vcs_one _) ?_
          have hAs := AllB.setRow hA2 hne (vcs ⟨12, 11, 213, 0, 215, 0⟩)
          have hBs := below_setRow hB2 (g := v1.heap.size) hpl (vcs ⟨12, 11, 213, 0, 215, 0⟩)
          have kS := Blk.setRow kP2 (vcs ⟨12, 11, 213, 0, 215, 0⟩)
          refine hK.out _ _ hAs (fun hHeld => ?_)
          clear hK K
          (try simp only [List.getElem_toArray, List.getElem_cons_zero, List.getElem_cons_succ, Act.put, List.setIfInBounds_toArray, List.set_cons_zero, List.set_cons_succ])
          (refine wpAnyH_take (i := 8) (v := ?_) rfl (by kernel_rfl) (by kernel_rfl) (by kernel_rfl) (fun _ _ _ h => h) (Or.inl ⟨by rfl, ?_⟩) (by assumption) ?_; rotate_left; (· intro w5 hS5; (try dsimp only at hS5); go_simp <;> with_reducible rfl); (try simp only [List.getElem_toArray, List.getElem_cons_zero, List.getElem_cons_succ, Act.put, List.setIfInBounds_toArray, List.set_cons_zero, List.set_cons_succ]))
          refine wpAnyH_done (by kernel_rfl) ?_ _
          clear hHeld
          go_wp2_with fail
          go_meet
          case rel => exact ⟨_, rfl, rfl, hAs.snoc kS, hBs⟩
      · obtain ⟨WD, hWD⟩ : ∃ WD, WD = (wN.alloc (.cells #[.int .i64 11, .int .i64 13, .int .i64 214, .int .i64 218, .int .i64 213, .int .i64 222] 48)).drew := ⟨_, rfl⟩
        have hKD : AllB WD [(wA.heap.size, 26, va X), (wB.heap.size, 26, va Y), (wC.heap.size, 23, #[.int .i64 202, .int .i64 224]), (wV.heap.size, 48, #[.int .i64 12, .int .i64 10, .int .i64 213, .int .i64 222, .int .i64 216, .int .i64 214]), (wN.heap.size, 48, #[.int .i64 11, .int .i64 13, .int .i64 214, .int .i64 218, .int .i64 213, .int .i64 222])] := by rw [hWD]; exact hK5.drew
        have hBD : Below w0.heap.size w0 WD := by rw [hWD]; exact hW.drew
        rw [← hWD]
        clear hWD
        have kP : Blk (World.alloc WD (.cells (vcs vd0) 48)) (World.heap WD).size 48 (vcs vd0) := Blk.new _ _ _
        have hne := AllB.ne hKD
        have hAp := AllB.below hKD (below_new WD (.cells (vcs vd0) 48))
        have hBp := (hBD).alloc (hBD).size (.cells (vcs vd0) 48)
        go_simp
        refine hK.out _ _ hAp (fun hHeld => ?_)
        clear hK K
        (try simp only [List.getElem_toArray, List.getElem_cons_zero, List.getElem_cons_succ, Act.put, List.setIfInBounds_toArray, List.set_cons_zero, List.set_cons_succ])
        have hpl : w0.heap.size ≤ WD.heap.size := hBD.size
        (refine wpAnyH_ready (rs := [1]) (by kernel_rfl) (by simp) ?_; refine AllReadyH.cons rfl (fun K hK => ?_) AllReadyH.nil)
        go_simp
        refine (spot_any _ _ _).mono ?_
        rintro e v1 ⟨rfl, hc1⟩
        have hA1 := hAp.below hc1
        have hB1 := below_next hBp hBp.size hc1
        refine hK.out _ _ hA1 (fun hHeld => ?_)
        clear hK K
        (try simp only [List.getElem_toArray, List.getElem_cons_zero, List.getElem_cons_succ, Act.put, List.setIfInBounds_toArray, List.set_cons_zero, List.set_cons_succ])
        have kP1 := kP.below hc1 (by simp)
        (refine wpAnyH_ready (rs := [2]) (by kernel_rfl) (by simp) ?_; refine AllReadyH.cons rfl (fun K hK => ?_) AllReadyH.nil)
        go_simp
        refine (in_any _ _ _ _).mono ?_
        rw [HE.out.i.1, HE.out.i.2]
        rintro e v2 ⟨rfl, hc2⟩
        have hA2 := hA1.below hc2
        have hB2 := below_next hB1 hB1.size hc2
        refine hK.out _ _ hA2 (fun hHeld => ?_)
        clear hK K
        (try simp only [List.getElem_toArray, List.getElem_cons_zero, List.getElem_cons_succ, Act.put, List.setIfInBounds_toArray, List.set_cons_zero, List.set_cons_succ])
        have kP2 := kP1.below hc2 kP1.lt
        (refine wpAnyH_take (i := 3) (v := ?_) rfl (by kernel_rfl) (by kernel_rfl) (by kernel_rfl) (fun _ _ _ h => h) (Or.inl ⟨by rfl, ?_⟩) (by assumption) ?_; rotate_left; (· intro w5 hS5; (try dsimp only at hS5); go_simp <;> with_reducible rfl); (try simp only [List.getElem_toArray, List.getElem_cons_zero, List.getElem_cons_succ, Act.put, List.setIfInBounds_toArray, List.set_cons_zero, List.set_cons_succ]))
        (refine wpAnyH_take (i := 4) (v := ?_) rfl (by kernel_rfl) (by kernel_rfl) (by kernel_rfl) (fun _ _ _ h => h) (Or.inl ⟨by rfl, ?_⟩) (by assumption) ?_; rotate_left; (· intro w5 hS5; (try dsimp only at hS5); go_simp <;> with_reducible rfl); (try simp only [List.getElem_toArray, List.getElem_cons_zero, List.getElem_cons_succ, Act.put, List.setIfInBounds_toArray, List.set_cons_zero, List.set_cons_succ]))
        (refine wpAnyH_take (i := 5) (v := ?_) rfl (by kernel_rfl) (by kernel_rfl) (by kernel_rfl) (fun _ _ _ h => h) (Or.inl ⟨by rfl, ?_⟩) (by assumption) ?_; rotate_left; (· intro w5 hS5; (try dsimp only at hS5); go_simp <;> with_reducible rfl); (try simp only [List.getElem_toArray, List.getElem_cons_zero, List.getElem_cons_succ, Act.put, List.setIfInBounds_toArray, List.set_cons_zero, List.set_cons_succ]))
        (refine wpAnyH_ready (rs := [7]) (by kernel_rfl) (by simp) ?_; refine AllReadyH.cons rfl (fun K hK => ?_) AllReadyH.nil)
        rw [if_pos (by rfl)]
        refine wp_store_row 48 _ _ rfl WD.heap.size (vcs ⟨12, 11, 213, 0, 215, 0⟩) rfl rfl 48 _ kP2 (info48 _) rfl (vcs_one _) ?_
        have hAs := AllB.setRow hA2 hne (vcs ⟨12, 11, 213, 0, 215, 0⟩)
        have hBs := below_setRow hB2 (g := WD.heap.size) hpl (vcs ⟨12, 11, 213, 0, 215, 0⟩)
        have kS := Blk.setRow kP2 (vcs ⟨12, 11, 213, 0, 215, 0⟩)
        refine hK.out _ _ hAs (fun hHeld => ?_)
        clear hK K
        (try simp only [List.getElem_toArray, List.getElem_cons_zero, List.getElem_cons_succ, Act.put, List.setIfInBounds_toArray, List.set_cons_zero, List.set_cons_succ])
        (refine wpAnyH_take (i := 8) (v := ?_) rfl (by kernel_rfl) (by kernel_rfl) (by kernel_rfl) (fun _ _ _ h => h) (Or.inl ⟨by rfl, ?_⟩) (by assumption) ?_; rotate_left; (· intro w5 hS5; (try dsimp only at hS5); go_simp <;> with_reducible rfl); (try simp only [List.getElem_toArray, List.getElem_cons_zero, List.getElem_cons_succ, Act.put, List.setIfInBounds_toArray, List.set_cons_zero, List.set_cons_succ]))
        refine wpAnyH_done (by kernel_rfl) ?_ _
        clear hHeld
        go_wp2_with fail
        go_meet
        case rel => exact ⟨_, rfl, rfl, hAs.snoc kS, hBs⟩
  case rest =>
    obtain ⟨wI, rfl, rfl, hK, hW⟩ := hcut
    have hK6 : AllB wc [(wA.heap.size, 26, va X), (wB.heap.size, 26, va Y), (wC.heap.size, 23, #[.int .i64 202, .int .i64 224]), (wV.heap.size, 48, #[.int .i64 12, .int .i64 10, .int .i64 213, .int .i64 222, .int .i64 216, .int .i64 214]), (wN.heap.size, 48, #[.int .i64 11, .int .i64 13, .int .i64 214, .int .i64 218, .int .i64 213, .int .i64 222]), (wI, 48, vcs ⟨12, 11, 213, 0, 215, 0⟩)] := hK
    clear hK
    go_wp2_with (first
      | (refine ldV 1 rfl rfl (hK6.get 0 rfl) rfl ?_)
      | (refine ldV 3 rfl rfl (hK6.get 1 rfl) rfl ?_)
      | (go_at_call 18; refine (both_any _ _ _).mono ?_; rw [HE.out.j.1, HE.out.j.2.1, HE.out.j.2.2]; rintro e wU ⟨rfl, hb⟩; replace hW := (below_next hW hW.size hb).trans ((below26 wU U).mono (below_next hW hW.size hb).size); replace hK6 := (hK6.below hb).push (below26 wU U) (new26 wU U); clear hb; have kN := new26z wU)
      | (go_at_call 17; refine (less_any _ _ _).mono ?_; rw [HE.out.l.1, HE.out.l.2]; rintro e wL ⟨rfl, hb⟩; replace hW := (below_next hW hW.size hb).trans ((below26 wL V).mono (below_next hW hW.size hb).size); replace hK6 := (hK6.below hb).push (below26 wL V) (new26 wL V); clear hb; have kN := new26z wL)
      | (refine stV _ 73 rfl rfl kN rfl rfl ?_)
      | (refine stV _ 80 rfl rfl kN rfl rfl ?_))
    have hK8 : AllB _ [(wA.heap.size, 26, va X), (wB.heap.size, 26, va Y), (wC.heap.size, 23, #[.int .i64 202, .int .i64 224]), (wV.heap.size, 48, #[.int .i64 12, .int .i64 10, .int .i64 213, .int .i64 222, .int .i64 216, .int .i64 214]), (wN.heap.size, 48, #[.int .i64 11, .int .i64 13, .int .i64 214, .int .i64 218, .int .i64 213, .int .i64 222]), (wI, 48, vcs ⟨12, 11, 213, 0, 215, 0⟩), (wU.heap.size, 26, va U), (wL.heap.size, 26, va V)] := hK6
    clear hK6 kN
    obtain ⟨W8, hW8⟩ : ∃ W8, W8 = (wL.alloc (.cells #[.int .i64 0, .int .i64 0, .int .i64 0, .int .i64 0, .int .i64 0, .int .i64 0, .int .i64 0, .int .i64 0, .int .i64 0, .int .i64 0, .int .i64 0, .int .i64 0, .int .i64 0, .int .i64 0, .int .i64 0, .int .i64 0, .int .i64 0, .int .i64 0, .int .i64 0, .int .i64 0, .int .i64 0, .int .i64 0, .int .i64 0, .int .i64 0] 26)).setRow wL.heap.size (va V) := ⟨_, rfl⟩
    rw [← hW8] at hK8 hW
    try rw [← hW8]
    clear hW8
    go_cut [125] from 31 (fun v125 wx => v125 = .bool false ∧ AllB wx [(wA.heap.size, 26, va X), (wB.heap.size, 26, va Y), (wC.heap.size, 23, #[.int .i64 202, .int .i64 224]), (wV.heap.size, 48, #[.int .i64 12, .int .i64 10, .int .i64 213, .int .i64 222, .int .i64 216, .int .i64 214]), (wN.heap.size, 48, #[.int .i64 11, .int .i64 13, .int .i64 214, .int .i64 218, .int .i64 213, .int .i64 222]), (wI, 48, vcs ⟨12, 11, 213, 0, 215, 0⟩), (wU.heap.size, 26, va U), (wL.heap.size, 26, va V)] ∧ Below w0.heap.size w0 wx)
    case first =>
      as_aux_lemma =>
        refine wp_region_held_drew (S := fun w' => AllB w' [(wA.heap.size, 26, va X), (wB.heap.size, 26, va Y), (wC.heap.size, 23, #[.int .i64 202, .int .i64 224]), (wV.heap.size, 48, #[.int .i64 12, .int .i64 10, .int .i64 213, .int .i64 222, .int .i64 216, .int .i64 214]), (wN.heap.size, 48, #[.int .i64 11, .int .i64 13, .int .i64 214, .int .i64 218, .int .i64 213, .int .i64 222]), (wI, 48, vcs ⟨12, 11, 213, 0, 215, 0⟩), (wU.heap.size, 26, va U), (wL.heap.size, 26, va V)] ∧ True) (by kernel_rfl) ⟨hK8, trivial⟩ (fun hHeld => ?_)
        have hA := hK8.drew
        have hB := hW.drew
        clear hK8 hW
        (refine wpAnyH_take (i := 0) (v := ?_) rfl (by kernel_rfl) (by kernel_rfl) (by kernel_rfl) (fun _ _ _ h => h) (Or.inl ⟨by rfl, ?_⟩) (by assumption) ?_; rotate_left; (· intro w5 hS5; (try dsimp only at hS5); go_simp <;> with_reducible rfl); (try simp only [List.getElem_toArray, List.getElem_cons_zero, List.getElem_cons_succ, Act.put, List.setIfInBounds_toArray, List.set_cons_zero, List.set_cons_succ]))
        (refine wpAnyH_take (i := 1) (v := ?_) rfl (by kernel_rfl) (by kernel_rfl) (by kernel_rfl) (fun _ _ _ h => h) (Or.inl ⟨by rfl, ?_⟩) (by assumption) ?_; rotate_left; (· intro w5 hS5; (try dsimp only at hS5); go_simp <;> with_reducible rfl); (try simp only [List.getElem_toArray, List.getElem_cons_zero, List.getElem_cons_succ, Act.put, List.setIfInBounds_toArray, List.set_cons_zero, List.set_cons_succ]))
        (refine wpAnyH_take (i := 2) (v := ?_) rfl (by kernel_rfl) (by kernel_rfl) (by kernel_rfl) (fun _ _ _ h => h) (Or.inl ⟨by rfl, ?_⟩) (by assumption) ?_; rotate_left; (· intro w5 hS5; (try dsimp only at hS5); go_simp <;> with_reducible rfl); (try simp only [List.getElem_toArray, List.getElem_cons_zero, List.getElem_cons_succ, Act.put, List.setIfInBounds_toArray, List.set_cons_zero, List.set_cons_succ]))
        (refine wpAnyH_take (i := 3) (v := ?_) rfl (by kernel_rfl) (by kernel_rfl) (by kernel_rfl) (fun _ _ _ h => h) (Or.inl ⟨by rfl, ?_⟩) (by assumption) ?_; rotate_left; (· intro w5 hS5; (try dsimp only at hS5); go_simp <;> with_reducible rfl); (try simp only [List.getElem_toArray, List.getElem_cons_zero, List.getElem_cons_succ, Act.put, List.setIfInBounds_toArray, List.set_cons_zero, List.set_cons_succ]))
        (refine wpAnyH_take (i := 4) (v := ?_) rfl (by kernel_rfl) (by kernel_rfl) (by kernel_rfl) (fun _ _ _ h => h) (Or.inl ⟨by rfl, ?_⟩) (by assumption) ?_; rotate_left; (· intro w5 hS5; (try dsimp only at hS5); go_simp <;> with_reducible rfl); (try simp only [List.getElem_toArray, List.getElem_cons_zero, List.getElem_cons_succ, Act.put, List.setIfInBounds_toArray, List.set_cons_zero, List.set_cons_succ]))
        (refine wpAnyH_take (i := 5) (v := ?_) rfl (by kernel_rfl) (by kernel_rfl) (by kernel_rfl) (fun _ _ _ h => h) (Or.inl ⟨by rfl, ?_⟩) (by assumption) ?_; rotate_left; (· intro w5 hS5; (try dsimp only at hS5); go_simp <;> with_reducible rfl); (try simp only [List.getElem_toArray, List.getElem_cons_zero, List.getElem_cons_succ, Act.put, List.setIfInBounds_toArray, List.set_cons_zero, List.set_cons_succ]))
        (refine wpAnyH_take (i := 6) (v := ?_) rfl (by kernel_rfl) (by kernel_rfl) (by kernel_rfl) (fun _ _ _ h => h) (Or.inl ⟨by rfl, ?_⟩) (by assumption) ?_; rotate_left; (· intro w5 hS5; (try dsimp only at hS5); go_simp <;> with_reducible rfl); (try simp only [List.getElem_toArray, List.getElem_cons_zero, List.getElem_cons_succ, Act.put, List.setIfInBounds_toArray, List.set_cons_zero, List.set_cons_succ]))
        (refine wpAnyH_take (i := 7) (v := ?_) rfl (by kernel_rfl) (by kernel_rfl) (by kernel_rfl) (fun _ _ _ h => h) (Or.inl ⟨by rfl, ?_⟩) (by assumption) ?_; rotate_left; (· intro w5 hS5; (try dsimp only at hS5); go_simp <;> with_reducible rfl); (try simp only [List.getElem_toArray, List.getElem_cons_zero, List.getElem_cons_succ, Act.put, List.setIfInBounds_toArray, List.set_cons_zero, List.set_cons_succ]))
        (refine wpAnyH_take (i := 8) (v := ?_) rfl (by kernel_rfl) (by kernel_rfl) (by kernel_rfl) (fun _ _ _ h => h) (Or.inl ⟨by rfl, ?_⟩) (by assumption) ?_; rotate_left; (· intro w5 hS5; (try dsimp only at hS5); go_simp <;> with_reducible rfl); (try simp only [List.getElem_toArray, List.getElem_cons_zero, List.getElem_cons_succ, Act.put, List.setIfInBounds_toArray, List.set_cons_zero, List.set_cons_succ]))
        (refine wpAnyH_take (i := 9) (v := ?_) rfl (by kernel_rfl) (by kernel_rfl) (by kernel_rfl) (fun _ _ _ h => h) (Or.inl ⟨by rfl, ?_⟩) (by assumption) ?_; rotate_left; (· intro w5 hS5; (try dsimp only at hS5); go_simp <;> with_reducible rfl); (try simp only [List.getElem_toArray, List.getElem_cons_zero, List.getElem_cons_succ, Act.put, List.setIfInBounds_toArray, List.set_cons_zero, List.set_cons_succ]))
        (refine wpAnyH_take (i := 10) (v := ?_) rfl (by kernel_rfl) (by kernel_rfl) (by kernel_rfl) (fun _ _ _ h => h) (Or.inl ⟨by rfl, ?_⟩) (by assumption) ?_; rotate_left; (· intro w5 hS5; (try dsimp only at hS5); go_simp <;> with_reducible rfl); (try simp only [List.getElem_toArray, List.getElem_cons_zero, List.getElem_cons_succ, Act.put, List.setIfInBounds_toArray, List.set_cons_zero, List.set_cons_succ]))
        (refine wpAnyH_take (i := 11) (v := ?_) rfl (by kernel_rfl) (by kernel_rfl) (by kernel_rfl) (fun _ _ _ h => h) (Or.inl ⟨by rfl, ?_⟩) (by assumption) ?_; rotate_left; (· intro w5 hS5; (try dsimp only at hS5); go_simp <;> with_reducible rfl); (try simp only [List.getElem_toArray, List.getElem_cons_zero, List.getElem_cons_succ, Act.put, List.setIfInBounds_toArray, List.set_cons_zero, List.set_cons_succ]))
        (refine wpAnyH_take (i := 12) (v := ?_) rfl (by kernel_rfl) (by kernel_rfl) (by kernel_rfl) (fun _ _ _ h => h) (Or.inl ⟨by rfl, ?_⟩) (by assumption) ?_; rotate_left; (· intro w5 hS5; (try dsimp only at hS5); go_simp <;> with_reducible rfl); (try simp only [List.getElem_toArray, List.getElem_cons_zero, List.getElem_cons_succ, Act.put, List.setIfInBounds_toArray, List.set_cons_zero, List.set_cons_succ]))
        (refine wpAnyH_take (i := 13) (v := ?_) rfl (by kernel_rfl) (by kernel_rfl) (by kernel_rfl) (fun _ _ _ h => h) (Or.inl ⟨by rfl, ?_⟩) (by assumption) ?_; rotate_left; (· intro w5 hS5; (try dsimp only at hS5); go_simp <;> with_reducible rfl); (try simp only [List.getElem_toArray, List.getElem_cons_zero, List.getElem_cons_succ, Act.put, List.setIfInBounds_toArray, List.set_cons_zero, List.set_cons_succ]))
        (refine wpAnyH_take (i := 14) (v := ?_) rfl (by kernel_rfl) (by kernel_rfl) (by kernel_rfl) (fun _ _ _ h => h) (Or.inl ⟨by rfl, ?_⟩) (by assumption) ?_; rotate_left; (· intro w5 hS5; (try dsimp only at hS5); go_simp <;> with_reducible rfl); (try simp only [List.getElem_toArray, List.getElem_cons_zero, List.getElem_cons_succ, Act.put, List.setIfInBounds_toArray, List.set_cons_zero, List.set_cons_succ]))
        (refine wpAnyH_take (i := 15) (v := ?_) rfl (by kernel_rfl) (by kernel_rfl) (by kernel_rfl) (fun _ _ _ h => h) (Or.inl ⟨by rfl, ?_⟩) (by assumption) ?_; rotate_left; (· intro w5 hS5; (try dsimp only at hS5); go_simp <;> with_reducible rfl); (try simp only [List.getElem_toArray, List.getElem_cons_zero, List.getElem_cons_succ, Act.put, List.setIfInBounds_toArray, List.set_cons_zero, List.set_cons_succ]))
        (refine wpAnyH_take (i := 16) (v := ?_) rfl (by kernel_rfl) (by kernel_rfl) (by kernel_rfl) (fun _ _ _ h => h) (Or.inl ⟨by rfl, ?_⟩) (by assumption) ?_; rotate_left; (· intro w5 hS5; (try dsimp only at hS5); go_simp <;> with_reducible rfl); (try simp only [List.getElem_toArray, List.getElem_cons_zero, List.getElem_cons_succ, Act.put, List.setIfInBounds_toArray, List.set_cons_zero, List.set_cons_succ]))
        (refine wpAnyH_take (i := 17) (v := ?_) rfl (by kernel_rfl) (by kernel_rfl) (by kernel_rfl) (fun _ _ _ h => h) (Or.inl ⟨by rfl, ?_⟩) (by assumption) ?_; rotate_left; (· intro w5 hS5; (try dsimp only at hS5); go_simp <;> with_reducible rfl); (try simp only [List.getElem_toArray, List.getElem_cons_zero, List.getElem_cons_succ, Act.put, List.setIfInBounds_toArray, List.set_cons_zero, List.set_cons_succ]))
        (refine wpAnyH_take (i := 18) (v := ?_) rfl (by kernel_rfl) (by kernel_rfl) (by kernel_rfl) (fun _ _ _ h => h) (Or.inl ⟨by rfl, ?_⟩) (by assumption) ?_; rotate_left; (· intro w5 hS5; (try dsimp only at hS5); go_simp <;> with_reducible rfl); (try simp only [List.getElem_toArray, List.getElem_cons_zero, List.getElem_cons_succ, Act.put, List.setIfInBounds_toArray, List.set_cons_zero, List.set_cons_succ]))
        (refine wpAnyH_take (i := 19) (v := ?_) rfl (by kernel_rfl) (by kernel_rfl) (by kernel_rfl) (fun _ _ _ h => h) (Or.inl ⟨by rfl, ?_⟩) (by assumption) ?_; rotate_left; (· intro w5 hS5; (try dsimp only at hS5); go_simp <;> with_reducible rfl); (try simp only [List.getElem_toArray, List.getElem_cons_zero, List.getElem_cons_succ, Act.put, List.setIfInBounds_toArray, List.set_cons_zero, List.set_cons_succ]))
        (refine wpAnyH_take (i := 20) (v := ?_) rfl (by kernel_rfl) (by kernel_rfl) (by kernel_rfl) (fun _ _ _ h => h) (Or.inl ⟨by rfl, ?_⟩) (by assumption) ?_; rotate_left; (· intro w5 hS5; (try dsimp only at hS5); go_simp <;> with_reducible rfl); (try simp only [List.getElem_toArray, List.getElem_cons_zero, List.getElem_cons_succ, Act.put, List.setIfInBounds_toArray, List.set_cons_zero, List.set_cons_succ]))
        (refine wpAnyH_take (i := 21) (v := ?_) rfl (by kernel_rfl) (by kernel_rfl) (by kernel_rfl) (fun _ _ _ h => h) (Or.inl ⟨by rfl, ?_⟩) (by assumption) ?_; rotate_left; (· intro w5 hS5; (try dsimp only at hS5); go_simp <;> with_reducible rfl); (try simp only [List.getElem_toArray, List.getElem_cons_zero, List.getElem_cons_succ, Act.put, List.setIfInBounds_toArray, List.set_cons_zero, List.set_cons_succ]))
        (refine wpAnyH_take (i := 22) (v := ?_) rfl (by kernel_rfl) (by kernel_rfl) (by kernel_rfl) (fun _ _ _ h => h) (Or.inl ⟨by rfl, ?_⟩) (by assumption) ?_; rotate_left; (· intro w5 hS5; (try dsimp only at hS5); go_simp <;> with_reducible rfl); (try simp only [List.getElem_toArray, List.getElem_cons_zero, List.getElem_cons_succ, Act.put, List.setIfInBounds_toArray, List.set_cons_zero, List.set_cons_succ]))
        (refine wpAnyH_take (i := 23) (v := ?_) rfl (by kernel_rfl) (by kernel_rfl) (by kernel_rfl) (fun _ _ _ h => h) (Or.inl ⟨by rfl, ?_⟩) (by assumption) ?_; rotate_left; (· intro w5 hS5; (try dsimp only at hS5); go_simp <;> with_reducible rfl); (try simp only [List.getElem_toArray, List.getElem_cons_zero, List.getElem_cons_succ, Act.put, List.setIfInBounds_toArray, List.set_cons_zero, List.set_cons_succ]))
        (refine wpAnyH_take (i := 24) (v := ?_) rfl (by kernel_rfl) (by kernel_rfl) (by kernel_rfl) (fun _ _ _ h => h) (Or.inl ⟨by rfl, ?_⟩) (by assumption) ?_; rotate_left; (· intro w5 hS5; (try dsimp only at hS5); go_simp <;> with_reducible rfl); (try simp only [List.getElem_toArray, List.getElem_cons_zero, List.getElem_cons_succ, Act.put, List.setIfInBounds_toArray, List.set_cons_zero, List.set_cons_succ]))
        (refine wpAnyH_take (i := 25) (v := ?_) rfl (by kernel_rfl) (by kernel_rfl) (by kernel_rfl) (fun _ _ _ h => h) (Or.inl ⟨by rfl, ?_⟩) (by assumption) ?_; rotate_left; (· intro w5 hS5; (try dsimp only at hS5); go_simp <;> with_reducible rfl); (try simp only [List.getElem_toArray, List.getElem_cons_zero, List.getElem_cons_succ, Act.put, List.setIfInBounds_toArray, List.set_cons_zero, List.set_cons_succ]))
        (refine wpAnyH_take (i := 26) (v := ?_) rfl (by kernel_rfl) (by kernel_rfl) (by kernel_rfl) (fun _ _ _ h => h) (Or.inl ⟨by rfl, ?_⟩) (by assumption) ?_; rotate_left; (· intro w5 hS5; (try dsimp only at hS5); go_simp <;> with_reducible rfl); (try simp only [List.getElem_toArray, List.getElem_cons_zero, List.getElem_cons_succ, Act.put, List.setIfInBounds_toArray, List.set_cons_zero, List.set_cons_succ]))
        (refine wpAnyH_take (i := 27) (v := ?_) rfl (by kernel_rfl) (by kernel_rfl) (by kernel_rfl) (fun _ _ _ h => h) (Or.inl ⟨by rfl, ?_⟩) (by assumption) ?_; rotate_left; (· intro w5 hS5; (try dsimp only at hS5); go_simp <;> with_reducible rfl); (try simp only [List.getElem_toArray, List.getElem_cons_zero, List.getElem_cons_succ, Act.put, List.setIfInBounds_toArray, List.set_cons_zero, List.set_cons_succ]))
        (refine wpAnyH_take (i := 28) (v := ?_) rfl (by kernel_rfl) (by kernel_rfl) (by kernel_rfl) (fun _ _ _ h => h) (Or.inl ⟨by rfl, ?_⟩) (by assumption) ?_; rotate_left; (· intro w5 hS5; (try dsimp only at hS5); go_simp <;> with_reducible rfl); (try simp only [List.getElem_toArray, List.getElem_cons_zero, List.getElem_cons_succ, Act.put, List.setIfInBounds_toArray, List.set_cons_zero, List.set_cons_succ]))
        (refine wpAnyH_take (i := 29) (v := ?_) rfl (by kernel_rfl) (by kernel_rfl) (by kernel_rfl) (fun _ _ _ h => h) (Or.inl ⟨by rfl, ?_⟩) (by assumption) ?_; rotate_left; (· intro w5 hS5; (try dsimp only at hS5); go_simp <;> with_reducible rfl); (try simp only [List.getElem_toArray, List.getElem_cons_zero, List.getElem_cons_succ, Act.put, List.setIfInBounds_toArray, List.set_cons_zero, List.set_cons_succ]))
        (refine wpAnyH_take (i := 30) (v := ?_) rfl (by kernel_rfl) (by kernel_rfl) (by kernel_rfl) (fun _ _ _ h => h) (Or.inl ⟨by rfl, ?_⟩) (by assumption) ?_; rotate_left; (· intro w5 hS5; (try dsimp only at hS5); go_simp <;> with_reducible rfl); (try simp only [List.getElem_toArray, List.getElem_cons_zero, List.getElem_cons_succ, Act.put, List.setIfInBounds_toArray, List.set_cons_zero, List.set_cons_succ]))
        (refine wpAnyH_take (i := 31) (v := ?_) rfl (by kernel_rfl) (by kernel_rfl) (by kernel_rfl) (fun _ _ _ h => h) (Or.inl ⟨by rfl, ?_⟩) (by assumption) ?_; rotate_left; (· intro w5 hS5; (try dsimp only at hS5); go_simp <;> with_reducible rfl); (try simp only [List.getElem_toArray, List.getElem_cons_zero, List.getElem_cons_succ, Act.put, List.setIfInBounds_toArray, List.set_cons_zero, List.set_cons_succ]))
        (refine wpAnyH_take (i := 32) (v := ?_) rfl (by kernel_rfl) (by kernel_rfl) (by kernel_rfl) (fun _ _ _ h => h) (Or.inl ⟨by rfl, ?_⟩) (by assumption) ?_; rotate_left; (· intro w5 hS5; (try dsimp only at hS5); go_simp <;> with_reducible rfl); (try simp only [List.getElem_toArray, List.getElem_cons_zero, List.getElem_cons_succ, Act.put, List.setIfInBounds_toArray, List.set_cons_zero, List.set_cons_succ]))
        (refine wpAnyH_take (i := 33) (v := ?_) rfl (by kernel_rfl) (by kernel_rfl) (by kernel_rfl) (fun _ _ _ h => h) (Or.inl ⟨by rfl, ?_⟩) (by assumption) ?_; rotate_left; (· intro w5 hS5; (try dsimp only at hS5); go_simp <;> with_reducible rfl); (try simp only [List.getElem_toArray, List.getElem_cons_zero, List.getElem_cons_succ, Act.put, List.setIfInBounds_toArray, List.set_cons_zero, List.set_cons_succ]))
        (refine wpAnyH_take (i := 34) (v := ?_) rfl (by kernel_rfl) (by kernel_rfl) (by kernel_rfl) (fun _ _ _ h => h) (Or.inl ⟨by rfl, ?_⟩) (by assumption) ?_; rotate_left; (· intro w5 hS5; (try dsimp only at hS5); go_simp <;> with_reducible rfl); (try simp only [List.getElem_toArray, List.getElem_cons_zero, List.getElem_cons_succ, Act.put, List.setIfInBounds_toArray, List.set_cons_zero, List.set_cons_succ]))
        (refine wpAnyH_take (i := 35) (v := .agg (va X)) rfl (by kernel_rfl) (by kernel_rfl) (by kernel_rfl) (fun _ _ _ h => h) (yieldsIf_load_row (by rfl) 26 _ rfl _ rfl 26 _ (0, 0) _ (fun w5 hS5 => AllB.get hS5.1 0 rfl) Tryz.underlying26 rfl (info26 _)) (by assumption) ?_; (try simp only [List.getElem_toArray, List.getElem_cons_zero, List.getElem_cons_succ, Act.put, List.setIfInBounds_toArray, List.set_cons_zero, List.set_cons_succ]))
        (refine wpAnyH_ready (rs := [36]) (by kernel_rfl) (by simp) ?_; refine AllReadyH.cons rfl (fun K hK => ?_) AllReadyH.nil)
        go_simp
        refine (HE.out.la _).mono ?_
        rintro e x1 ⟨rfl, hx1⟩
        replace hA := AllB.below hA hx1
        replace hB := below_next hB hB.size hx1
        refine hK.out _ _ ⟨hA, trivial⟩ (fun hHeld => ?_)
        clear hK K
        (try simp only [List.getElem_toArray, List.getElem_cons_zero, List.getElem_cons_succ, Act.put, List.setIfInBounds_toArray, List.set_cons_zero, List.set_cons_succ])
        (refine wpAnyH_take (i := 37) (v := .bool false) rfl (by kernel_rfl) (by kernel_rfl) (by kernel_rfl) (fun _ _ _ h => h) (yields_ne26 (by rfl) _ _ _ rfl X rfl rfl) (by assumption) ?_; (try simp only [List.getElem_toArray, List.getElem_cons_zero, List.getElem_cons_succ, Act.put, List.setIfInBounds_toArray, List.set_cons_zero, List.set_cons_succ]))
        (refine wpAnyH_take (i := 38) (v := ?_) rfl (by kernel_rfl) (by kernel_rfl) (by kernel_rfl) (fun _ _ _ h => h) (Or.inl ⟨by rfl, ?_⟩) (by assumption) ?_; rotate_left; (· intro w5 hS5; (try dsimp only at hS5); go_simp <;> with_reducible rfl); (try simp only [List.getElem_toArray, List.getElem_cons_zero, List.getElem_cons_succ, Act.put, List.setIfInBounds_toArray, List.set_cons_zero, List.set_cons_succ]))
        (refine wpAnyH_take (i := 39) (v := ?_) rfl (by kernel_rfl) (by kernel_rfl) (by kernel_rfl) (fun _ _ _ h => h) (Or.inl ⟨by rfl, ?_⟩) (by assumption) ?_; rotate_left; (· intro w5 hS5; (try dsimp only at hS5); go_simp <;> with_reducible rfl); (try simp only [List.getElem_toArray, List.getElem_cons_zero, List.getElem_cons_succ, Act.put, List.setIfInBounds_toArray, List.set_cons_zero, List.set_cons_succ]))
        (refine wpAnyH_take (i := 40) (v := .agg (va Y)) rfl (by kernel_rfl) (by kernel_rfl) (by kernel_rfl) (fun _ _ _ h => h) (yieldsIf_load_row (by rfl) 26 _ rfl _ rfl 26 _ (0, 0) _ (fun w5 hS5 => AllB.get hS5.1 1 rfl) Tryz.underlying26 rfl (info26 _)) (by assumption) ?_; (try simp only [List.getElem_toArray, List.getElem_cons_zero, List.getElem_cons_succ, Act.put, List.setIfInBounds_toArray, List.set_cons_zero, List.set_cons_succ]))
        (refine wpAnyH_ready (rs := [41]) (by kernel_rfl) (by simp) ?_; refine AllReadyH.cons rfl (fun K hK => ?_) AllReadyH.nil)
        go_simp
        refine (HE.out.lb _).mono ?_
        rintro e x2 ⟨rfl, hx2⟩
        replace hA := AllB.below hA hx2
        replace hB := below_next hB hB.size hx2
        refine hK.out _ _ ⟨hA, trivial⟩ (fun hHeld => ?_)
        clear hK K
        (try simp only [List.getElem_toArray, List.getElem_cons_zero, List.getElem_cons_succ, Act.put, List.setIfInBounds_toArray, List.set_cons_zero, List.set_cons_succ])
        (refine wpAnyH_take (i := 42) (v := .bool false) rfl (by kernel_rfl) (by kernel_rfl) (by kernel_rfl) (fun _ _ _ h => h) (yields_ne26 (by rfl) _ _ _ rfl Y rfl rfl) (by assumption) ?_; (try simp only [List.getElem_toArray, List.getElem_cons_zero, List.getElem_cons_succ, Act.put, List.setIfInBounds_toArray, List.set_cons_zero, List.set_cons_succ]))
        (refine wpAnyH_take (i := 43) (v := ?_) rfl (by kernel_rfl) (by kernel_rfl) (by kernel_rfl) (fun _ _ _ h => h) (Or.inl ⟨by rfl, ?_⟩) (by assumption) ?_; rotate_left; (· intro w5 hS5; (try dsimp only at hS5); go_simp <;> with_reducible rfl); (try simp only [List.getElem_toArray, List.getElem_cons_zero, List.getElem_cons_succ, Act.put, List.setIfInBounds_toArray, List.set_cons_zero, List.set_cons_succ]))
        refine wpAnyH_done (by kernel_rfl) ?_ _
        clear hHeld
        go_wp2_with fail
        go_meet
        case rel => exact ⟨rfl, hA, hB⟩
    case rest =>
    obtain ⟨rfl, hK8, hW⟩ := hcut
    go_wp2_with fail
    go_cut [20] from 31 (fun v20 wx => v20 = .bool true ∧ AllB wx [(wA.heap.size, 26, va X), (wB.heap.size, 26, va Y), (wC.heap.size, 23, #[.int .i64 202, .int .i64 224]), (wV.heap.size, 48, #[.int .i64 12, .int .i64 10, .int .i64 213, .int .i64 222, .int .i64 216, .int .i64 214]), (wN.heap.size, 48, #[.int .i64 11, .int .i64 13, .int .i64 214, .int .i64 218, .int .i64 213, .int .i64 222]), (wI, 48, vcs ⟨12, 11, 213, 0, 215, 0⟩), (wU.heap.size, 26, va U), (wL.heap.size, 26, va V)] ∧ Below w0.heap.size w0 wx)
    case first =>
      as_aux_lemma =>
        have c0 : wc.cell? ⟨wC.heap.size, 0, none⟩ = some (.int .i64 202) := (AllB.get hK8 2 rfl).cell 0
        have c1 : wc.cell? ⟨wC.heap.size, 1, none⟩ = some (.int .i64 224) := (AllB.get hK8 2 rfl).cell 1
        have c2 : wc.cell? ⟨wV.heap.size, 0, none⟩ = some (.int .i64 12) := (AllB.get hK8 3 rfl).cell 0
        have c3 : wc.cell? ⟨wV.heap.size, 1, none⟩ = some (.int .i64 10) := (AllB.get hK8 3 rfl).cell 1
        have c4 : wc.cell? ⟨wN.heap.size, 0, none⟩ = some (.int .i64 11) := (AllB.get hK8 4 rfl).cell 0
        have c5 : wc.cell? ⟨wN.heap.size, 1, none⟩ = some (.int .i64 13) := (AllB.get hK8 4 rfl).cell 1
        have c6 : wc.cell? ⟨wI, 0, none⟩ = some (.int .i64 12) := (AllB.get hK8 5 rfl).cell 0
        have c7 : wc.cell? ⟨wI, 1, none⟩ = some (.int .i64 11) := (AllB.get hK8 5 rfl).cell 1
        have c8 : wc.cell? ⟨wI, 4, none⟩ = some (.int .i64 215) := (AllB.get hK8 5 rfl).cell 4
        refine wp_region_held_drew (S := fun w' => AllB w' [(wA.heap.size, 26, va X), (wB.heap.size, 26, va Y), (wC.heap.size, 23, #[.int .i64 202, .int .i64 224]), (wV.heap.size, 48, #[.int .i64 12, .int .i64 10, .int .i64 213, .int .i64 222, .int .i64 216, .int .i64 214]), (wN.heap.size, 48, #[.int .i64 11, .int .i64 13, .int .i64 214, .int .i64 218, .int .i64 213, .int .i64 222]), (wI, 48, vcs ⟨12, 11, 213, 0, 215, 0⟩), (wU.heap.size, 26, va U), (wL.heap.size, 26, va V)] ∧ w'.cell? ⟨wC.heap.size, 0, none⟩ = some (.int .i64 202) ∧ w'.cell? ⟨wC.heap.size, 1, none⟩ = some (.int .i64 224) ∧ w'.cell? ⟨wV.heap.size, 0, none⟩ = some (.int .i64 12) ∧ w'.cell? ⟨wV.heap.size, 1, none⟩ = some (.int .i64 10) ∧ w'.cell? ⟨wN.heap.size, 0, none⟩ = some (.int .i64 11) ∧ w'.cell? ⟨wN.heap.size, 1, none⟩ = some (.int .i64 13) ∧ w'.cell? ⟨wI, 0, none⟩ = some (.int .i64 12) ∧ w'.cell? ⟨wI, 1, none⟩ = some (.int .i64 11) ∧ w'.cell? ⟨wI, 4, none⟩ = some (.int .i64 215)) (by kernel_rfl) ⟨hK8, c0, c1, c2, c3, c4, c5, c6, c7, c8⟩ (fun hHeld => ?_)
        have hA := hK8.drew
        have hB := hW.drew
        clear hK8 hW
        replace c0 : (World.drew wc).cell? ⟨wC.heap.size, 0, none⟩ = some (.int .i64 202) := c0
        replace c1 : (World.drew wc).cell? ⟨wC.heap.size, 1, none⟩ = some (.int .i64 224) := c1
        replace c2 : (World.drew wc).cell? ⟨wV.heap.size, 0, none⟩ = some (.int .i64 12) := c2
        replace c3 : (World.drew wc).cell? ⟨wV.heap.size, 1, none⟩ = some (.int .i64 10) := c3
        replace c4 : (World.drew wc).cell? ⟨wN.heap.size, 0, none⟩ = some (.int .i64 11) := c4
        replace c5 : (World.drew wc).cell? ⟨wN.heap.size, 1, none⟩ = some (.int .i64 13) := c5
        replace c6 : (World.drew wc).cell? ⟨wI, 0, none⟩ = some (.int .i64 12) := c6
        replace c7 : (World.drew wc).cell? ⟨wI, 1, none⟩ = some (.int .i64 11) := c7
        replace c8 : (World.drew wc).cell? ⟨wI, 4, none⟩ = some (.int .i64 215) := c8
        (refine wpAnyH_take (i := 0) (v := ?_) rfl (by kernel_rfl) (by kernel_rfl) (by kernel_rfl) (fun _ _ _ h => h) (Or.inl ⟨by rfl, ?_⟩) (by assumption) ?_; rotate_left; (· intro w5 hS5; (try dsimp only at hS5); go_simp <;> with_reducible rfl); (try simp only [List.getElem_toArray, List.getElem_cons_zero, List.getElem_cons_succ, Act.put, List.setIfInBounds_toArray, List.set_cons_zero, List.set_cons_succ]))
        (refine wpAnyH_ready (rs := [1]) (by kernel_rfl) (by simp) ?_; refine AllReadyH.cons rfl (fun K hK => ?_) AllReadyH.nil)
        go_simp
        refine (spot_any _ _ _).mono ?_
        rintro e x3 ⟨rfl, hx3⟩
        replace hA := AllB.below hA hx3
        replace hB := below_next hB hB.size hx3
        replace c0 := keepL hx3 c0
        replace c1 := keepL hx3 c1
        replace c2 := keepL hx3 c2
        replace c3 := keepL hx3 c3
        replace c4 := keepL hx3 c4
        replace c5 := keepL hx3 c5
        replace c6 := keepL hx3 c6
        replace c7 := keepL hx3 c7
        replace c8 := keepL hx3 c8
        refine hK.out _ _ ⟨hA, c0, c1, c2, c3, c4, c5, c6, c7, c8⟩ (fun hHeld => ?_)
        clear hK K
        (try simp only [List.getElem_toArray, List.getElem_cons_zero, List.getElem_cons_succ, Act.put, List.setIfInBounds_toArray, List.set_cons_zero, List.set_cons_succ])
        (refine wpAnyH_take (i := 2) (v := .bool true) rfl (by kernel_rfl) (by kernel_rfl) (by kernel_rfl) (fun _ _ _ h => h) (yields_eq23 (by rfl) _ _ _ rfl 202 224 rfl rfl) (by assumption) ?_; (try simp only [List.getElem_toArray, List.getElem_cons_zero, List.getElem_cons_succ, Act.put, List.setIfInBounds_toArray, List.set_cons_zero, List.set_cons_succ]))
        (refine wpAnyH_take (i := 3) (v := ?_) rfl (by kernel_rfl) (by kernel_rfl) (by kernel_rfl) (fun _ _ _ h => h) (Or.inl ⟨by rfl, ?_⟩) (by assumption) ?_; rotate_left; (· intro w5 hS5; (try dsimp only at hS5); go_simp <;> with_reducible rfl); (try simp only [List.getElem_toArray, List.getElem_cons_zero, List.getElem_cons_succ, Act.put, List.setIfInBounds_toArray, List.set_cons_zero, List.set_cons_succ]))
        (refine wpAnyH_take (i := 4) (v := ?_) rfl (by kernel_rfl) (by kernel_rfl) (by kernel_rfl) (fun _ _ _ h => h) (Or.inl ⟨by rfl, ?_⟩) (by assumption) ?_; rotate_left; (· intro w5 hS5; (try dsimp only at hS5); go_simp <;> with_reducible rfl); (try simp only [List.getElem_toArray, List.getElem_cons_zero, List.getElem_cons_succ, Act.put, List.setIfInBounds_toArray, List.set_cons_zero, List.set_cons_succ]))
        (refine wpAnyH_take (i := 5) (v := ?_) rfl (by kernel_rfl) (by kernel_rfl) (by kernel_rfl) (fun _ _ _ h => h) (Or.inl ⟨by rfl, ?_⟩) (by assumption) ?_; rotate_left; (· intro w5 hS5; (try dsimp only at hS5); go_simp <;> with_reducible rfl); (try simp only [List.getElem_toArray, List.getElem_cons_zero, List.getElem_cons_succ, Act.put, List.setIfInBounds_toArray, List.set_cons_zero, List.set_cons_succ]))
        (refine wpAnyH_take (i := 6) (v := ?_) rfl (by kernel_rfl) (by kernel_rfl) (by kernel_rfl) (fun _ _ _ h => h) (Or.inl ⟨by rfl, ?_⟩) (by assumption) ?_; rotate_left; (· intro w5 hS5; (try dsimp only at hS5); go_simp <;> with_reducible rfl); (try simp only [List.getElem_toArray, List.getElem_cons_zero, List.getElem_cons_succ, Act.put, List.setIfInBounds_toArray, List.set_cons_zero, List.set_cons_succ]))
        (refine wpAnyH_take (i := 7) (v := ?_) rfl (by kernel_rfl) (by kernel_rfl) (by kernel_rfl) (fun _ _ _ h => h) (Or.inl ⟨by rfl, ?_⟩) (by assumption) ?_; rotate_left; (· intro w5 hS5; (try dsimp only at hS5); go_simp <;> with_reducible rfl); (try simp only [List.getElem_toArray, List.getElem_cons_zero, List.getElem_cons_succ, Act.put, List.setIfInBounds_toArray, List.set_cons_zero, List.set_cons_succ]))
        (refine wpAnyH_take (i := 8) (v := ?_) rfl (by kernel_rfl) (by kernel_rfl) (by kernel_rfl) (fun _ _ _ h => h) (Or.inl ⟨by rfl, ?_⟩) (by assumption) ?_; rotate_left; (· intro w5 hS5; (try dsimp only at hS5); go_simp <;> with_reducible rfl); (try simp only [List.getElem_toArray, List.getElem_cons_zero, List.getElem_cons_succ, Act.put, List.setIfInBounds_toArray, List.set_cons_zero, List.set_cons_succ]))
        (refine wpAnyH_take (i := 9) (v := ?_) rfl (by kernel_rfl) (by kernel_rfl) (by kernel_rfl) (fun _ _ _ h => h) (Or.inl ⟨by rfl, ?_⟩) (by assumption) ?_; rotate_left; (· intro w5 hS5; (try dsimp only at hS5); go_simp <;> with_reducible rfl); (try simp only [List.getElem_toArray, List.getElem_cons_zero, List.getElem_cons_succ, Act.put, List.setIfInBounds_toArray, List.set_cons_zero, List.set_cons_succ]))
        (refine wpAnyH_take (i := 10) (v := ?_) rfl (by kernel_rfl) (by kernel_rfl) (by kernel_rfl) (fun _ _ _ h => h) (Or.inl ⟨by rfl, ?_⟩) (by assumption) ?_; rotate_left; (· intro w5 hS5; (try dsimp only at hS5); go_simp <;> with_reducible rfl); (try simp only [List.getElem_toArray, List.getElem_cons_zero, List.getElem_cons_succ, Act.put, List.setIfInBounds_toArray, List.set_cons_zero, List.set_cons_succ]))
        (refine wpAnyH_take (i := 11) (v := ?_) rfl (by kernel_rfl) (by kernel_rfl) (by kernel_rfl) (fun _ _ _ h => h) (Or.inl ⟨by rfl, ?_⟩) (by assumption) ?_; rotate_left; (· intro w5 hS5; (try dsimp only at hS5); go_simp <;> with_reducible rfl); (try simp only [List.getElem_toArray, List.getElem_cons_zero, List.getElem_cons_succ, Act.put, List.setIfInBounds_toArray, List.set_cons_zero, List.set_cons_succ]))
        (refine wpAnyH_take (i := 12) (v := ?_) rfl (by kernel_rfl) (by kernel_rfl) (by kernel_rfl) (fun _ _ _ h => h) (Or.inl ⟨by rfl, ?_⟩) (by assumption) ?_; rotate_left; (· intro w5 hS5; (try dsimp only at hS5); go_simp <;> with_reducible rfl); (try simp only [List.getElem_toArray, List.getElem_cons_zero, List.getElem_cons_succ, Act.put, List.setIfInBounds_toArray, List.set_cons_zero, List.set_cons_succ]))
        (refine wpAnyH_take (i := 13) (v := ?_) rfl (by kernel_rfl) (by kernel_rfl) (by kernel_rfl) (fun _ _ _ h => h) (Or.inl ⟨by rfl, ?_⟩) (by assumption) ?_; rotate_left; (· intro w5 hS5; (try dsimp only at hS5); go_simp <;> with_reducible rfl); (try simp only [List.getElem_toArray, List.getElem_cons_zero, List.getElem_cons_succ, Act.put, List.setIfInBounds_toArray, List.set_cons_zero, List.set_cons_succ]))
        (refine wpAnyH_take (i := 14) (v := ?_) rfl (by kernel_rfl) (by kernel_rfl) (by kernel_rfl) (fun _ _ _ h => h) (Or.inl ⟨by rfl, ?_⟩) (by assumption) ?_; rotate_left; (· intro w5 hS5; (try dsimp only at hS5); go_simp <;> with_reducible rfl); (try simp only [List.getElem_toArray, List.getElem_cons_zero, List.getElem_cons_succ, Act.put, List.setIfInBounds_toArray, List.set_cons_zero, List.set_cons_succ]))
        (refine wpAnyH_take (i := 15) (v := ?_) rfl (by kernel_rfl) (by kernel_rfl) (by kernel_rfl) (fun _ _ _ h => h) (Or.inl ⟨by rfl, ?_⟩) (by assumption) ?_; rotate_left; (· intro w5 hS5; (try dsimp only at hS5); go_simp <;> with_reducible rfl); (try simp only [List.getElem_toArray, List.getElem_cons_zero, List.getElem_cons_succ, Act.put, List.setIfInBounds_toArray, List.set_cons_zero, List.set_cons_succ]))
        (refine wpAnyH_take (i := 16) (v := ?_) rfl (by kernel_rfl) (by kernel_rfl) (by kernel_rfl) (fun _ _ _ h => h) (Or.inl ⟨by rfl, ?_⟩) (by assumption) ?_; rotate_left; (· intro w5 hS5; (try dsimp only at hS5); go_simp <;> with_reducible rfl); (try simp only [List.getElem_toArray, List.getElem_cons_zero, List.getElem_cons_succ, Act.put, List.setIfInBounds_toArray, List.set_cons_zero, List.set_cons_succ]))
        (refine wpAnyH_take (i := 17) (v := ?_) rfl (by kernel_rfl) (by kernel_rfl) (by kernel_rfl) (fun _ _ _ h => h) (Or.inl ⟨by rfl, ?_⟩) (by assumption) ?_; rotate_left; (· intro w5 hS5; (try dsimp only at hS5); go_simp <;> with_reducible rfl); (try simp only [List.getElem_toArray, List.getElem_cons_zero, List.getElem_cons_succ, Act.put, List.setIfInBounds_toArray, List.set_cons_zero, List.set_cons_succ]))
        (refine wpAnyH_take (i := 18) (v := ?_) rfl (by kernel_rfl) (by kernel_rfl) (by kernel_rfl) (fun _ _ _ h => h) (Or.inl ⟨by rfl, ?_⟩) (by assumption) ?_; rotate_left; (· intro w5 hS5; (try dsimp only at hS5); go_simp <;> with_reducible rfl); (try simp only [List.getElem_toArray, List.getElem_cons_zero, List.getElem_cons_succ, Act.put, List.setIfInBounds_toArray, List.set_cons_zero, List.set_cons_succ]))
        (refine wpAnyH_take (i := 19) (v := ?_) rfl (by kernel_rfl) (by kernel_rfl) (by kernel_rfl) (fun _ _ _ h => h) (Or.inl ⟨by rfl, ?_⟩) (by assumption) ?_; rotate_left; (· intro w5 hS5; (try dsimp only at hS5); go_simp <;> with_reducible rfl); (try simp only [List.getElem_toArray, List.getElem_cons_zero, List.getElem_cons_succ, Act.put, List.setIfInBounds_toArray, List.set_cons_zero, List.set_cons_succ]))
        (refine wpAnyH_take (i := 20) (v := ?_) rfl (by kernel_rfl) (by kernel_rfl) (by kernel_rfl) (fun _ _ _ h => h) (Or.inl ⟨by rfl, ?_⟩) (by assumption) ?_; rotate_left; (· intro w5 hS5; (try dsimp only at hS5); go_simp <;> with_reducible rfl); (try simp only [List.getElem_toArray, List.getElem_cons_zero, List.getElem_cons_succ, Act.put, List.setIfInBounds_toArray, List.set_cons_zero, List.set_cons_succ]))
        (refine wpAnyH_take (i := 21) (v := ?_) rfl (by kernel_rfl) (by kernel_rfl) (by kernel_rfl) (fun _ _ _ h => h) (Or.inl ⟨by rfl, ?_⟩) (by assumption) ?_; rotate_left; (· intro w5 hS5; (try dsimp only at hS5); go_simp <;> with_reducible rfl); (try simp only [List.getElem_toArray, List.getElem_cons_zero, List.getElem_cons_succ, Act.put, List.setIfInBounds_toArray, List.set_cons_zero, List.set_cons_succ]))
        (refine wpAnyH_take (i := 22) (v := ?_) rfl (by kernel_rfl) (by kernel_rfl) (by kernel_rfl) (fun _ _ _ h => h) (Or.inl ⟨by rfl, ?_⟩) (by assumption) ?_; rotate_left; (· intro w5 hS5; (try dsimp only at hS5); go_simp <;> with_reducible rfl); (try simp only [List.getElem_toArray, List.getElem_cons_zero, List.getElem_cons_succ, Act.put, List.setIfInBounds_toArray, List.set_cons_zero, List.set_cons_succ]))
        (refine wpAnyH_take (i := 23) (v := ?_) rfl (by kernel_rfl) (by kernel_rfl) (by kernel_rfl) (fun _ _ _ h => h) (Or.inl ⟨by rfl, ?_⟩) (by assumption) ?_; rotate_left; (· intro w5 hS5; (try dsimp only at hS5); go_simp <;> with_reducible rfl); (try simp only [List.getElem_toArray, List.getElem_cons_zero, List.getElem_cons_succ, Act.put, List.setIfInBounds_toArray, List.set_cons_zero, List.set_cons_succ]))
        (refine wpAnyH_take (i := 24) (v := ?_) rfl (by kernel_rfl) (by kernel_rfl) (by kernel_rfl) (fun _ _ _ h => h) (Or.inl ⟨by rfl, ?_⟩) (by assumption) ?_; rotate_left; (· intro w5 hS5; (try dsimp only at hS5); go_simp <;> with_reducible rfl); (try simp only [List.getElem_toArray, List.getElem_cons_zero, List.getElem_cons_succ, Act.put, List.setIfInBounds_toArray, List.set_cons_zero, List.set_cons_succ]))
        (refine wpAnyH_take (i := 25) (v := ?_) rfl (by kernel_rfl) (by kernel_rfl) (by kernel_rfl) (fun _ _ _ h => h) (Or.inl ⟨by rfl, ?_⟩) (by assumption) ?_; rotate_left; (· intro w5 hS5; (try dsimp only at hS5); go_simp <;> with_reducible rfl); (try simp only [List.getElem_toArray, List.getElem_cons_zero, List.getElem_cons_succ, Act.put, List.setIfInBounds_toArray, List.set_cons_zero, List.set_cons_succ]))
        (refine wpAnyH_take (i := 26) (v := ?_) rfl (by kernel_rfl) (by kernel_rfl) (by kernel_rfl) (fun _ _ _ h => h) (Or.inl ⟨by rfl, ?_⟩) (by assumption) ?_; rotate_left; (· intro w5 hS5; (try dsimp only at hS5); go_simp <;> with_reducible rfl); (try simp only [List.getElem_toArray, List.getElem_cons_zero, List.getElem_cons_succ, Act.put, List.setIfInBounds_toArray, List.set_cons_zero, List.set_cons_succ]))
        (refine wpAnyH_take (i := 27) (v := ?_) rfl (by kernel_rfl) (by kernel_rfl) (by kernel_rfl) (fun _ _ _ h => h) (Or.inl ⟨by rfl, ?_⟩) (by assumption) ?_; rotate_left; (· intro w5 hS5; (try dsimp only at hS5); go_simp <;> with_reducible rfl); (try simp only [List.getElem_toArray, List.getElem_cons_zero, List.getElem_cons_succ, Act.put, List.setIfInBounds_toArray, List.set_cons_zero, List.set_cons_succ]))
        (refine wpAnyH_take (i := 28) (v := ?_) rfl (by kernel_rfl) (by kernel_rfl) (by kernel_rfl) (fun _ _ _ h => h) (Or.inl ⟨by rfl, ?_⟩) (by assumption) ?_; rotate_left; (· intro w5 hS5; (try dsimp only at hS5); go_simp <;> with_reducible rfl); (try simp only [List.getElem_toArray, List.getElem_cons_zero, List.getElem_cons_succ, Act.put, List.setIfInBounds_toArray, List.set_cons_zero, List.set_cons_succ]))
        (refine wpAnyH_take (i := 29) (v := ?_) rfl (by kernel_rfl) (by kernel_rfl) (by kernel_rfl) (fun _ _ _ h => h) (Or.inl ⟨by rfl, ?_⟩) (by assumption) ?_; rotate_left; (· intro w5 hS5; (try dsimp only at hS5); go_simp <;> with_reducible rfl); (try simp only [List.getElem_toArray, List.getElem_cons_zero, List.getElem_cons_succ, Act.put, List.setIfInBounds_toArray, List.set_cons_zero, List.set_cons_succ]))
        (refine wpAnyH_take (i := 30) (v := ?_) rfl (by kernel_rfl) (by kernel_rfl) (by kernel_rfl) (fun _ _ _ h => h) (Or.inl ⟨by rfl, ?_⟩) (by assumption) ?_; rotate_left; (· intro w5 hS5; (try dsimp only at hS5); go_simp <;> with_reducible rfl); (try simp only [List.getElem_toArray, List.getElem_cons_zero, List.getElem_cons_succ, Act.put, List.setIfInBounds_toArray, List.set_cons_zero, List.set_cons_succ]))
        (refine wpAnyH_take (i := 31) (v := ?_) rfl (by kernel_rfl) (by kernel_rfl) (by kernel_rfl) (fun _ _ _ h => h) (Or.inl ⟨by rfl, ?_⟩) (by assumption) ?_; rotate_left; (· intro w5 hS5; (try dsimp only at hS5); go_simp <;> with_reducible rfl); (try simp only [List.getElem_toArray, List.getElem_cons_zero, List.getElem_cons_succ, Act.put, List.setIfInBounds_toArray, List.set_cons_zero, List.set_cons_succ]))
        (refine wpAnyH_take (i := 32) (v := ?_) rfl (by kernel_rfl) (by kernel_rfl) (by kernel_rfl) (fun _ _ _ h => h) (Or.inl ⟨by rfl, ?_⟩) (by assumption) ?_; rotate_left; (· intro w5 hS5; (try dsimp only at hS5); go_simp <;> with_reducible rfl); (try simp only [List.getElem_toArray, List.getElem_cons_zero, List.getElem_cons_succ, Act.put, List.setIfInBounds_toArray, List.set_cons_zero, List.set_cons_succ]))
        (refine wpAnyH_take (i := 33) (v := ?_) rfl (by kernel_rfl) (by kernel_rfl) (by kernel_rfl) (fun _ _ _ h => h) (Or.inl ⟨by rfl, ?_⟩) (by assumption) ?_; rotate_left; (· intro w5 hS5; (try dsimp only at hS5); go_simp <;> with_reducible rfl); (try simp only [List.getElem_toArray, List.getElem_cons_zero, List.getElem_cons_succ, Act.put, List.setIfInBounds_toArray, List.set_cons_zero, List.set_cons_succ]))
        (refine wpAnyH_take (i := 34) (v := ?_) rfl (by kernel_rfl) (by kernel_rfl) (by kernel_rfl) (fun _ _ _ h => h) (Or.inl ⟨by rfl, ?_⟩) (by assumption) ?_; rotate_left; (· intro w5 hS5; (try dsimp only at hS5); go_simp <;> with_reducible rfl); (try simp only [List.getElem_toArray, List.getElem_cons_zero, List.getElem_cons_succ, Act.put, List.setIfInBounds_toArray, List.set_cons_zero, List.set_cons_succ]))
        (refine wpAnyH_take (i := 35) (v := ?_) rfl (by kernel_rfl) (by kernel_rfl) (by kernel_rfl) (fun _ _ _ h => h) (Or.inl ⟨by rfl, ?_⟩) (by assumption) ?_; rotate_left; (· intro w5 hS5; (try dsimp only at hS5); go_simp <;> with_reducible rfl); (try simp only [List.getElem_toArray, List.getElem_cons_zero, List.getElem_cons_succ, Act.put, List.setIfInBounds_toArray, List.set_cons_zero, List.set_cons_succ]))
        (refine wpAnyH_take (i := 36) (v := ?_) rfl (by kernel_rfl) (by kernel_rfl) (by kernel_rfl) (fun _ _ _ h => h) (Or.inl ⟨by rfl, ?_⟩) (by assumption) ?_; rotate_left; (· intro w5 hS5; (try dsimp only at hS5); go_simp <;> with_reducible rfl); (try simp only [List.getElem_toArray, List.getElem_cons_zero, List.getElem_cons_succ, Act.put, List.setIfInBounds_toArray, List.set_cons_zero, List.set_cons_succ]))
        (refine wpAnyH_take (i := 37) (v := ?_) rfl (by kernel_rfl) (by kernel_rfl) (by kernel_rfl) (fun _ _ _ h => h) (Or.inl ⟨by rfl, ?_⟩) (by assumption) ?_; rotate_left; (· intro w5 hS5; (try dsimp only at hS5); go_simp <;> with_reducible rfl); (try simp only [List.getElem_toArray, List.getElem_cons_zero, List.getElem_cons_succ, Act.put, List.setIfInBounds_toArray, List.set_cons_zero, List.set_cons_succ]))
        (refine wpAnyH_take (i := 38) (v := ?_) rfl (by kernel_rfl) (by kernel_rfl) (by kernel_rfl) (fun _ _ _ h => h) (Or.inl ⟨by rfl, ?_⟩) (by assumption) ?_; rotate_left; (· intro w5 hS5; (try dsimp only at hS5); go_simp <;> with_reducible rfl); (try simp only [List.getElem_toArray, List.getElem_cons_zero, List.getElem_cons_succ, Act.put, List.setIfInBounds_toArray, List.set_cons_zero, List.set_cons_succ]))
        (refine wpAnyH_take (i := 39) (v := ?_) rfl (by kernel_rfl) (by kernel_rfl) (by kernel_rfl) (fun _ _ _ h => h) (Or.inl ⟨by rfl, ?_⟩) (by assumption) ?_; rotate_left; (· intro w5 hS5; (try dsimp only at hS5); go_simp <;> with_reducible rfl); (try simp only [List.getElem_toArray, List.getElem_cons_zero, List.getElem_cons_succ, Act.put, List.setIfInBounds_toArray, List.set_cons_zero, List.set_cons_succ]))
        (refine wpAnyH_take (i := 40) (v := ?_) rfl (by kernel_rfl) (by kernel_rfl) (by kernel_rfl) (fun _ _ _ h => h) (Or.inl ⟨by rfl, ?_⟩) (by assumption) ?_; rotate_left; (· intro w5 hS5; (try dsimp only at hS5); go_simp <;> with_reducible rfl); (try simp only [List.getElem_toArray, List.getElem_cons_zero, List.getElem_cons_succ, Act.put, List.setIfInBounds_toArray, List.set_cons_zero, List.set_cons_succ]))
        (refine wpAnyH_take (i := 41) (v := ?_) rfl (by kernel_rfl) (by kernel_rfl) (by kernel_rfl) (fun _ _ _ h => h) (Or.inl ⟨by rfl, ?_⟩) (by assumption) ?_; rotate_left; (· intro w5 hS5; (try dsimp only at hS5); go_simp <;> with_reducible rfl); (try simp only [List.getElem_toArray, List.getElem_cons_zero, List.getElem_cons_succ, Act.put, List.setIfInBounds_toArray, List.set_cons_zero, List.set_cons_succ]))
        (refine wpAnyH_take (i := 42) (v := ?_) rfl (by kernel_rfl) (by kernel_rfl) (by kernel_rfl) (fun _ _ _ h => h) (Or.inl ⟨by rfl, ?_⟩) (by assumption) ?_; rotate_left; (· intro w5 hS5; (try dsimp only at hS5); go_simp <;> with_reducible rfl); (try simp only [List.getElem_toArray, List.getElem_cons_zero, List.getElem_cons_succ, Act.put, List.setIfInBounds_toArray, List.set_cons_zero, List.set_cons_succ]))
        (refine wpAnyH_take (i := 43) (v := ?_) rfl (by kernel_rfl) (by kernel_rfl) (by kernel_rfl) (fun _ _ _ h => h) (Or.inl ⟨by rfl, ?_⟩) (by assumption) ?_; rotate_left; (· intro w5 hS5; (try dsimp only at hS5); go_simp <;> with_reducible rfl); (try simp only [List.getElem_toArray, List.getElem_cons_zero, List.getElem_cons_succ, Act.put, List.setIfInBounds_toArray, List.set_cons_zero, List.set_cons_succ]))
        refine wpAnyH_done (by kernel_rfl) ?_ _
        clear hHeld
        go_wp2_with fail
        go_meet
        case rel => exact ⟨rfl, hA, hB⟩
    case rest =>
    obtain ⟨rfl, hK8, hW⟩ := hcut
    go_wp2_with fail
    go_cut [20] from 31 (fun v20 wx => v20 = .bool true ∧ AllB wx [(wA.heap.size, 26, va X), (wB.heap.size, 26, va Y), (wC.heap.size, 23, #[.int .i64 202, .int .i64 224]), (wV.heap.size, 48, #[.int .i64 12, .int .i64 10, .int .i64 213, .int .i64 222, .int .i64 216, .int .i64 214]), (wN.heap.size, 48, #[.int .i64 11, .int .i64 13, .int .i64 214, .int .i64 218, .int .i64 213, .int .i64 222]), (wI, 48, vcs ⟨12, 11, 213, 0, 215, 0⟩), (wU.heap.size, 26, va U), (wL.heap.size, 26, va V)] ∧ Below w0.heap.size w0 wx)
    case first =>
      as_aux_lemma =>
        have c0 : wc.cell? ⟨wU.heap.size, 16, none⟩ = some (.int .i64 214) := by rw [(AllB.get hK8 6 rfl : Blk _ _ 26 (va U)).va 16 (by omega), HE.out.u.1.1]
        have c1 : wc.cell? ⟨wU.heap.size, 17, none⟩ = some (.int .i64 216) := by rw [(AllB.get hK8 6 rfl : Blk _ _ 26 (va U)).va 17 (by omega), HE.out.u.1.2]
        have c2 : wc.cell? ⟨wU.heap.size, 22, none⟩ = some (.int .i64 214) := by rw [(AllB.get hK8 6 rfl : Blk _ _ 26 (va U)).va 22 (by omega), HE.out.u.2.1.1]
        have c3 : wc.cell? ⟨wU.heap.size, 23, none⟩ = some (.int .i64 216) := by rw [(AllB.get hK8 6 rfl : Blk _ _ 26 (va U)).va 23 (by omega), HE.out.u.2.1.2]
        have c4 : wc.cell? ⟨wU.heap.size, 14, none⟩ = some (.int .i64 212) := by rw [(AllB.get hK8 6 rfl : Blk _ _ 26 (va U)).va 14 (by omega), HE.out.u.2.2.1]
        have c5 : wc.cell? ⟨wU.heap.size, 15, none⟩ = some (.int .i64 217) := by rw [(AllB.get hK8 6 rfl : Blk _ _ 26 (va U)).va 15 (by omega), HE.out.u.2.2.2]
        have c6 : wc.cell? ⟨wL.heap.size, 22, none⟩ = some (.int .i64 7) := by rw [(AllB.get hK8 7 rfl : Blk _ _ 26 (va V)).va 22 (by omega), HE.out.w.1.1]
        have c7 : wc.cell? ⟨wL.heap.size, 23, none⟩ = some (.int .i64 9) := by rw [(AllB.get hK8 7 rfl : Blk _ _ 26 (va V)).va 23 (by omega), HE.out.w.1.2]
        have c8 : wc.cell? ⟨wL.heap.size, 20, none⟩ = some (.int .i64 4) := by rw [(AllB.get hK8 7 rfl : Blk _ _ 26 (va V)).va 20 (by omega), HE.out.w.2.1]
        have c9 : wc.cell? ⟨wL.heap.size, 21, none⟩ = some (.int .i64 12) := by rw [(AllB.get hK8 7 rfl : Blk _ _ 26 (va V)).va 21 (by omega), HE.out.w.2.2]
        refine wp_region_held_drew (S := fun w' => AllB w' [(wA.heap.size, 26, va X), (wB.heap.size, 26, va Y), (wC.heap.size, 23, #[.int .i64 202, .int .i64 224]), (wV.heap.size, 48, #[.int .i64 12, .int .i64 10, .int .i64 213, .int .i64 222, .int .i64 216, .int .i64 214]), (wN.heap.size, 48, #[.int .i64 11, .int .i64 13, .int .i64 214, .int .i64 218, .int .i64 213, .int .i64 222]), (wI, 48, vcs ⟨12, 11, 213, 0, 215, 0⟩), (wU.heap.size, 26, va U), (wL.heap.size, 26, va V)] ∧ w'.cell? ⟨wU.heap.size, 16, none⟩ = some (.int .i64 214) ∧ w'.cell? ⟨wU.heap.size, 17, none⟩ = some (.int .i64 216) ∧ w'.cell? ⟨wU.heap.size, 22, none⟩ = some (.int .i64 214) ∧ w'.cell? ⟨wU.heap.size, 23, none⟩ = some (.int .i64 216) ∧ w'.cell? ⟨wU.heap.size, 14, none⟩ = some (.int .i64 212) ∧ w'.cell? ⟨wU.heap.size, 15, none⟩ = some (.int .i64 217) ∧ w'.cell? ⟨wL.heap.size, 22, none⟩ = some (.int .i64 7) ∧ w'.cell? ⟨wL.heap.size, 23, none⟩ = some (.int .i64 9) ∧ w'.cell? ⟨wL.heap.size, 20, none⟩ = some (.int .i64 4) ∧ w'.cell? ⟨wL.heap.size, 21, none⟩ = some (.int .i64 12)) (by kernel_rfl) ⟨hK8, c0, c1, c2, c3, c4, c5, c6, c7, c8, c9⟩ (fun hHeld => ?_)
        have hA := hK8.drew
        have hB := hW.drew
        clear hK8 hW
        replace c0 : (World.drew wc).cell? ⟨wU.heap.size, 16, none⟩ = some (.int .i64 214) := c0
        replace c1 : (World.drew wc).cell? ⟨wU.heap.size, 17, none⟩ = some (.int .i64 216) := c1
        replace c2 : (World.drew wc).cell? ⟨wU.heap.size, 22, none⟩ = some (.int .i64 214) := c2
        replace c3 : (World.drew wc).cell? ⟨wU.heap.size, 23, none⟩ = some (.int .i64 216) := c3
        replace c4 : (World.drew wc).cell? ⟨wU.heap.size, 14, none⟩ = some (.int .i64 212) := c4
        replace c5 : (World.drew wc).cell? ⟨wU.heap.size, 15, none⟩ = some (.int .i64 217) := c5
        replace c6 : (World.drew wc).cell? ⟨wL.heap.size, 22, none⟩ = some (.int .i64 7) := c6
        replace c7 : (World.drew wc).cell? ⟨wL.heap.size, 23, none⟩ = some (.int .i64 9) := c7
        replace c8 : (World.drew wc).cell? ⟨wL.heap.size, 20, none⟩ = some (.int .i64 4) := c8
        replace c9 : (World.drew wc).cell? ⟨wL.heap.size, 21, none⟩ = some (.int .i64 12) := c9
        (refine wpAnyH_take (i := 0) (v := ?_) rfl (by kernel_rfl) (by kernel_rfl) (by kernel_rfl) (fun _ _ _ h => h) (Or.inl ⟨by rfl, ?_⟩) (by assumption) ?_; rotate_left; (· intro w5 hS5; (try dsimp only at hS5); go_simp <;> with_reducible rfl); (try simp only [List.getElem_toArray, List.getElem_cons_zero, List.getElem_cons_succ, Act.put, List.setIfInBounds_toArray, List.set_cons_zero, List.set_cons_succ]))
        (refine wpAnyH_take (i := 1) (v := ?_) rfl (by kernel_rfl) (by kernel_rfl) (by kernel_rfl) (fun _ _ _ h => h) (Or.inl ⟨by rfl, ?_⟩) (by assumption) ?_; rotate_left; (· intro w5 hS5; (try dsimp only at hS5); go_simp <;> with_reducible rfl); (try simp only [List.getElem_toArray, List.getElem_cons_zero, List.getElem_cons_succ, Act.put, List.setIfInBounds_toArray, List.set_cons_zero, List.set_cons_succ]))
        (refine wpAnyH_take (i := 2) (v := ?_) rfl (by kernel_rfl) (by kernel_rfl) (by kernel_rfl) (fun _ _ _ h => h) (Or.inl ⟨by rfl, ?_⟩) (by assumption) ?_; rotate_left; (· intro w5 hS5; (try dsimp only at hS5); go_simp <;> with_reducible rfl); (try simp only [List.getElem_toArray, List.getElem_cons_zero, List.getElem_cons_succ, Act.put, List.setIfInBounds_toArray, List.set_cons_zero, List.set_cons_succ]))
        (refine wpAnyH_take (i := 3) (v := ?_) rfl (by kernel_rfl) (by kernel_rfl) (by kernel_rfl) (fun _ _ _ h => h) (Or.inl ⟨by rfl, ?_⟩) (by assumption) ?_; rotate_left; (· intro w5 hS5; (try dsimp only at hS5); go_simp <;> with_reducible rfl); (try simp only [List.getElem_toArray, List.getElem_cons_zero, List.getElem_cons_succ, Act.put, List.setIfInBounds_toArray, List.set_cons_zero, List.set_cons_succ]))
        (refine wpAnyH_take (i := 4) (v := ?_) rfl (by kernel_rfl) (by kernel_rfl) (by kernel_rfl) (fun _ _ _ h => h) (Or.inl ⟨by rfl, ?_⟩) (by assumption) ?_; rotate_left; (· intro w5 hS5; (try dsimp only at hS5); go_simp <;> with_reducible rfl); (try simp only [List.getElem_toArray, List.getElem_cons_zero, List.getElem_cons_succ, Act.put, List.setIfInBounds_toArray, List.set_cons_zero, List.set_cons_succ]))
        (refine wpAnyH_take (i := 5) (v := ?_) rfl (by kernel_rfl) (by kernel_rfl) (by kernel_rfl) (fun _ _ _ h => h) (Or.inl ⟨by rfl, ?_⟩) (by assumption) ?_; rotate_left; (· intro w5 hS5; (try dsimp only at hS5); go_simp <;> with_reducible rfl); (try simp only [List.getElem_toArray, List.getElem_cons_zero, List.getElem_cons_succ, Act.put, List.setIfInBounds_toArray, List.set_cons_zero, List.set_cons_succ]))
        (refine wpAnyH_take (i := 6) (v := ?_) rfl (by kernel_rfl) (by kernel_rfl) (by kernel_rfl) (fun _ _ _ h => h) (Or.inl ⟨by rfl, ?_⟩) (by assumption) ?_; rotate_left; (· intro w5 hS5; (try dsimp only at hS5); go_simp <;> with_reducible rfl); (try simp only [List.getElem_toArray, List.getElem_cons_zero, List.getElem_cons_succ, Act.put, List.setIfInBounds_toArray, List.set_cons_zero, List.set_cons_succ]))
        (refine wpAnyH_take (i := 7) (v := ?_) rfl (by kernel_rfl) (by kernel_rfl) (by kernel_rfl) (fun _ _ _ h => h) (Or.inl ⟨by rfl, ?_⟩) (by assumption) ?_; rotate_left; (· intro w5 hS5; (try dsimp only at hS5); go_simp <;> with_reducible rfl); (try simp only [List.getElem_toArray, List.getElem_cons_zero, List.getElem_cons_succ, Act.put, List.setIfInBounds_toArray, List.set_cons_zero, List.set_cons_succ]))
        (refine wpAnyH_take (i := 8) (v := ?_) rfl (by kernel_rfl) (by kernel_rfl) (by kernel_rfl) (fun _ _ _ h => h) (Or.inl ⟨by rfl, ?_⟩) (by assumption) ?_; rotate_left; (· intro w5 hS5; (try dsimp only at hS5); go_simp <;> with_reducible rfl); (try simp only [List.getElem_toArray, List.getElem_cons_zero, List.getElem_cons_succ, Act.put, List.setIfInBounds_toArray, List.set_cons_zero, List.set_cons_succ]))
        (refine wpAnyH_ready (rs := [9]) (by kernel_rfl) (by simp) ?_; refine AllReadyH.cons rfl (fun K hK => ?_) AllReadyH.nil)
        go_simp
        refine (spot_any _ _ _).mono ?_
        rintro e x4 ⟨rfl, hx4⟩
        replace hA := AllB.below hA hx4
        replace hB := below_next hB hB.size hx4
        replace c0 := keepL hx4 c0
        replace c1 := keepL hx4 c1
        replace c2 := keepL hx4 c2
        replace c3 := keepL hx4 c3
        replace c4 := keepL hx4 c4
        replace c5 := keepL hx4 c5
        replace c6 := keepL hx4 c6
        replace c7 := keepL hx4 c7
        replace c8 := keepL hx4 c8
        replace c9 := keepL hx4 c9
        refine hK.out _ _ ⟨hA, c0, c1, c2, c3, c4, c5, c6, c7, c8, c9⟩ (fun hHeld => ?_)
        clear hK K
        (try simp only [List.getElem_toArray, List.getElem_cons_zero, List.getElem_cons_succ, Act.put, List.setIfInBounds_toArray, List.set_cons_zero, List.set_cons_succ])
        (refine wpAnyH_take (i := 10) (v := .bool true) rfl (by kernel_rfl) (by kernel_rfl) (by kernel_rfl) (fun _ _ _ h => h) (yields_eq23 (by rfl) _ _ _ rfl 214 216 rfl rfl) (by assumption) ?_; (try simp only [List.getElem_toArray, List.getElem_cons_zero, List.getElem_cons_succ, Act.put, List.setIfInBounds_toArray, List.set_cons_zero, List.set_cons_succ]))
        (refine wpAnyH_take (i := 11) (v := ?_) rfl (by kernel_rfl) (by kernel_rfl) (by kernel_rfl) (fun _ _ _ h => h) (Or.inl ⟨by rfl, ?_⟩) (by assumption) ?_; rotate_left; (· intro w5 hS5; (try dsimp only at hS5); go_simp <;> with_reducible rfl); (try simp only [List.getElem_toArray, List.getElem_cons_zero, List.getElem_cons_succ, Act.put, List.setIfInBounds_toArray, List.set_cons_zero, List.set_cons_succ]))
        (refine wpAnyH_take (i := 12) (v := ?_) rfl (by kernel_rfl) (by kernel_rfl) (by kernel_rfl) (fun _ _ _ h => h) (Or.inl ⟨by rfl, ?_⟩) (by assumption) ?_; rotate_left; (· intro w5 hS5; (try dsimp only at hS5); go_simp <;> with_reducible rfl); (try simp only [List.getElem_toArray, List.getElem_cons_zero, List.getElem_cons_succ, Act.put, List.setIfInBounds_toArray, List.set_cons_zero, List.set_cons_succ]))
        (refine wpAnyH_take (i := 13) (v := ?_) rfl (by kernel_rfl) (by kernel_rfl) (by kernel_rfl) (fun _ _ _ h => h) (Or.inl ⟨by rfl, ?_⟩) (by assumption) ?_; rotate_left; (· intro w5 hS5; (try dsimp only at hS5); go_simp <;> with_reducible rfl); (try simp only [List.getElem_toArray, List.getElem_cons_zero, List.getElem_cons_succ, Act.put, List.setIfInBounds_toArray, List.set_cons_zero, List.set_cons_succ]))
        (refine wpAnyH_take (i := 14) (v := ?_) rfl (by kernel_rfl) (by kernel_rfl) (by kernel_rfl) (fun _ _ _ h => h) (Or.inl ⟨by rfl, ?_⟩) (by assumption) ?_; rotate_left; (· intro w5 hS5; (try dsimp only at hS5); go_simp <;> with_reducible rfl); (try simp only [List.getElem_toArray, List.getElem_cons_zero, List.getElem_cons_succ, Act.put, List.setIfInBounds_toArray, List.set_cons_zero, List.set_cons_succ]))
        (refine wpAnyH_take (i := 15) (v := ?_) rfl (by kernel_rfl) (by kernel_rfl) (by kernel_rfl) (fun _ _ _ h => h) (Or.inl ⟨by rfl, ?_⟩) (by assumption) ?_; rotate_left; (· intro w5 hS5; (try dsimp only at hS5); go_simp <;> with_reducible rfl); (try simp only [List.getElem_toArray, List.getElem_cons_zero, List.getElem_cons_succ, Act.put, List.setIfInBounds_toArray, List.set_cons_zero, List.set_cons_succ]))
        (refine wpAnyH_ready (rs := [16]) (by kernel_rfl) (by simp) ?_; refine AllReadyH.cons rfl (fun K hK => ?_) AllReadyH.nil)
        go_simp
        refine (spot_any _ _ _).mono ?_
        rintro e x5 ⟨rfl, hx5⟩
        replace hA := AllB.below hA hx5
        replace hB := below_next hB hB.size hx5
        replace c0 := keepL hx5 c0
        replace c1 := keepL hx5 c1
        replace c2 := keepL hx5 c2
        replace c3 := keepL hx5 c3
        replace c4 := keepL hx5 c4
        replace c5 := keepL hx5 c5
        replace c6 := keepL hx5 c6
        replace c7 := keepL hx5 c7
        replace c8 := keepL hx5 c8
        replace c9 := keepL hx5 c9
        refine hK.out _ _ ⟨hA, c0, c1, c2, c3, c4, c5, c6, c7, c8, c9⟩ (fun hHeld => ?_)
        clear hK K
        (try simp only [List.getElem_toArray, List.getElem_cons_zero, List.getElem_cons_succ, Act.put, List.setIfInBounds_toArray, List.set_cons_zero, List.set_cons_succ])
        (refine wpAnyH_take (i := 17) (v := .bool true) rfl (by kernel_rfl) (by kernel_rfl) (by kernel_rfl) (fun _ _ _ h => h) (yields_eq23 (by rfl) _ _ _ rfl 214 216 rfl rfl) (by assumption) ?_; (try simp only [List.getElem_toArray, List.getElem_cons_zero, List.getElem_cons_succ, Act.put, List.setIfInBounds_toArray, List.set_cons_zero, List.set_cons_succ]))
        (refine wpAnyH_take (i := 18) (v := ?_) rfl (by kernel_rfl) (by kernel_rfl) (by kernel_rfl) (fun _ _ _ h => h) (Or.inl ⟨by rfl, ?_⟩) (by assumption) ?_; rotate_left; (· intro w5 hS5; (try dsimp only at hS5); go_simp <;> with_reducible rfl); (try simp only [List.getElem_toArray, List.getElem_cons_zero, List.getElem_cons_succ, Act.put, List.setIfInBounds_toArray, List.set_cons_zero, List.set_cons_succ]))
        (refine wpAnyH_take (i := 19) (v := ?_) rfl (by kernel_rfl) (by kernel_rfl) (by kernel_rfl) (fun _ _ _ h => h) (Or.inl ⟨by rfl, ?_⟩) (by assumption) ?_; rotate_left; (· intro w5 hS5; (try dsimp only at hS5); go_simp <;> with_reducible rfl); (try simp only [List.getElem_toArray, List.getElem_cons_zero, List.getElem_cons_succ, Act.put, List.setIfInBounds_toArray, List.set_cons_zero, List.set_cons_succ]))
        (refine wpAnyH_take (i := 20) (v := ?_) rfl (by kernel_rfl) (by kernel_rfl) (by kernel_rfl) (fun _ _ _ h => h) (Or.inl ⟨by rfl, ?_⟩) (by assumption) ?_; rotate_left; (· intro w5 hS5; (try dsimp only at hS5); go_simp <;> with_reducible rfl); (try simp only [List.getElem_toArray, List.getElem_cons_zero, List.getElem_cons_succ, Act.put, List.setIfInBounds_toArray, List.set_cons_zero, List.set_cons_succ]))
        (refine wpAnyH_take (i := 21) (v := ?_) rfl (by kernel_rfl) (by kernel_rfl) (by kernel_rfl) (fun _ _ _ h => h) (Or.inl ⟨by rfl, ?_⟩) (by assumption) ?_; rotate_left; (· intro w5 hS5; (try dsimp only at hS5); go_simp <;> with_reducible rfl); (try simp only [List.getElem_toArray, List.getElem_cons_zero, List.getElem_cons_succ, Act.put, List.setIfInBounds_toArray, List.set_cons_zero, List.set_cons_succ]))
        (refine wpAnyH_take (i := 22) (v := ?_) rfl (by kernel_rfl) (by kernel_rfl) (by kernel_rfl) (fun _ _ _ h => h) (Or.inl ⟨by rfl, ?_⟩) (by assumption) ?_; rotate_left; (· intro w5 hS5; (try dsimp only at hS5); go_simp <;> with_reducible rfl); (try simp only [List.getElem_toArray, List.getElem_cons_zero, List.getElem_cons_succ, Act.put, List.setIfInBounds_toArray, List.set_cons_zero, List.set_cons_succ]))
        (refine wpAnyH_ready (rs := [23]) (by kernel_rfl) (by simp) ?_; refine AllReadyH.cons rfl (fun K hK => ?_) AllReadyH.nil)
        go_simp
        refine (spot_any _ _ _).mono ?_
        rintro e x6 ⟨rfl, hx6⟩
        replace hA := AllB.below hA hx6
        replace hB := below_next hB hB.size hx6
        replace c0 := keepL hx6 c0
        replace c1 := keepL hx6 c1
        replace c2 := keepL hx6 c2
        replace c3 := keepL hx6 c3
        replace c4 := keepL hx6 c4
        replace c5 := keepL hx6 c5
        replace c6 := keepL hx6 c6
        replace c7 := keepL hx6 c7
        replace c8 := keepL hx6 c8
        replace c9 := keepL hx6 c9
        refine hK.out _ _ ⟨hA, c0, c1, c2, c3, c4, c5, c6, c7, c8, c9⟩ (fun hHeld => ?_)
        clear hK K
        (try simp only [List.getElem_toArray, List.getElem_cons_zero, List.getElem_cons_succ, Act.put, List.setIfInBounds_toArray, List.set_cons_zero, List.set_cons_succ])
        (refine wpAnyH_take (i := 24) (v := .bool true) rfl (by kernel_rfl) (by kernel_rfl) (by kernel_rfl) (fun _ _ _ h => h) (yields_eq23 (by rfl) _ _ _ rfl 212 217 rfl rfl) (by assumption) ?_; (try simp only [List.getElem_toArray, List.getElem_cons_zero, List.getElem_cons_succ, Act.put, List.setIfInBounds_toArray, List.set_cons_zero, List.set_cons_succ]))
        (refine wpAnyH_take (i := 25) (v := ?_) rfl (by kernel_rfl) (by kernel_rfl) (by kernel_rfl) (fun _ _ _ h => h) (Or.inl ⟨by rfl, ?_⟩) (by assumption) ?_; rotate_left; (· intro w5 hS5; (try dsimp only at hS5); go_simp <;> with_reducible rfl); (try simp only [List.getElem_toArray, List.getElem_cons_zero, List.getElem_cons_succ, Act.put, List.setIfInBounds_toArray, List.set_cons_zero, List.set_cons_succ]))
        (refine wpAnyH_take (i := 26) (v := ?_) rfl (by kernel_rfl) (by kernel_rfl) (by kernel_rfl) (fun _ _ _ h => h) (Or.inl ⟨by rfl, ?_⟩) (by assumption) ?_; rotate_left; (· intro w5 hS5; (try dsimp only at hS5); go_simp <;> with_reducible rfl); (try simp only [List.getElem_toArray, List.getElem_cons_zero, List.getElem_cons_succ, Act.put, List.setIfInBounds_toArray, List.set_cons_zero, List.set_cons_succ]))
        (refine wpAnyH_take (i := 27) (v := ?_) rfl (by kernel_rfl) (by kernel_rfl) (by kernel_rfl) (fun _ _ _ h => h) (Or.inl ⟨by rfl, ?_⟩) (by assumption) ?_; rotate_left; (· intro w5 hS5; (try dsimp only at hS5); go_simp <;> with_reducible rfl); (try simp only [List.getElem_toArray, List.getElem_cons_zero, List.getElem_cons_succ, Act.put, List.setIfInBounds_toArray, List.set_cons_zero, List.set_cons_succ]))
        (refine wpAnyH_take (i := 28) (v := ?_) rfl (by kernel_rfl) (by kernel_rfl) (by kernel_rfl) (fun _ _ _ h => h) (Or.inl ⟨by rfl, ?_⟩) (by assumption) ?_; rotate_left; (· intro w5 hS5; (try dsimp only at hS5); go_simp <;> with_reducible rfl); (try simp only [List.getElem_toArray, List.getElem_cons_zero, List.getElem_cons_succ, Act.put, List.setIfInBounds_toArray, List.set_cons_zero, List.set_cons_succ]))
        (refine wpAnyH_take (i := 29) (v := ?_) rfl (by kernel_rfl) (by kernel_rfl) (by kernel_rfl) (fun _ _ _ h => h) (Or.inl ⟨by rfl, ?_⟩) (by assumption) ?_; rotate_left; (· intro w5 hS5; (try dsimp only at hS5); go_simp <;> with_reducible rfl); (try simp only [List.getElem_toArray, List.getElem_cons_zero, List.getElem_cons_succ, Act.put, List.setIfInBounds_toArray, List.set_cons_zero, List.set_cons_succ]))
        (refine wpAnyH_ready (rs := [30]) (by kernel_rfl) (by simp) ?_; refine AllReadyH.cons rfl (fun K hK => ?_) AllReadyH.nil)
        go_simp
        refine (spot_any _ _ _).mono ?_
        rintro e x7 ⟨rfl, hx7⟩
        replace hA := AllB.below hA hx7
        replace hB := below_next hB hB.size hx7
        replace c0 := keepL hx7 c0
        replace c1 := keepL hx7 c1
        replace c2 := keepL hx7 c2
        replace c3 := keepL hx7 c3
        replace c4 := keepL hx7 c4
        replace c5 := keepL hx7 c5
        replace c6 := keepL hx7 c6
        replace c7 := keepL hx7 c7
        replace c8 := keepL hx7 c8
        replace c9 := keepL hx7 c9
        refine hK.out _ _ ⟨hA, c0, c1, c2, c3, c4, c5, c6, c7, c8, c9⟩ (fun hHeld => ?_)
        clear hK K
        (try simp only [List.getElem_toArray, List.getElem_cons_zero, List.getElem_cons_succ, Act.put, List.setIfInBounds_toArray, List.set_cons_zero, List.set_cons_succ])
        (refine wpAnyH_take (i := 31) (v := .bool true) rfl (by kernel_rfl) (by kernel_rfl) (by kernel_rfl) (fun _ _ _ h => h) (yields_eq23 (by rfl) _ _ _ rfl 7 9 rfl rfl) (by assumption) ?_; (try simp only [List.getElem_toArray, List.getElem_cons_zero, List.getElem_cons_succ, Act.put, List.setIfInBounds_toArray, List.set_cons_zero, List.set_cons_succ]))
        (refine wpAnyH_take (i := 32) (v := ?_) rfl (by kernel_rfl) (by kernel_rfl) (by kernel_rfl) (fun _ _ _ h => h) (Or.inl ⟨by rfl, ?_⟩) (by assumption) ?_; rotate_left; (· intro w5 hS5; (try dsimp only at hS5); go_simp <;> with_reducible rfl); (try simp only [List.getElem_toArray, List.getElem_cons_zero, List.getElem_cons_succ, Act.put, List.setIfInBounds_toArray, List.set_cons_zero, List.set_cons_succ]))
        (refine wpAnyH_take (i := 33) (v := ?_) rfl (by kernel_rfl) (by kernel_rfl) (by kernel_rfl) (fun _ _ _ h => h) (Or.inl ⟨by rfl, ?_⟩) (by assumption) ?_; rotate_left; (· intro w5 hS5; (try dsimp only at hS5); go_simp <;> with_reducible rfl); (try simp only [List.getElem_toArray, List.getElem_cons_zero, List.getElem_cons_succ, Act.put, List.setIfInBounds_toArray, List.set_cons_zero, List.set_cons_succ]))
        (refine wpAnyH_take (i := 34) (v := ?_) rfl (by kernel_rfl) (by kernel_rfl) (by kernel_rfl) (fun _ _ _ h => h) (Or.inl ⟨by rfl, ?_⟩) (by assumption) ?_; rotate_left; (· intro w5 hS5; (try dsimp only at hS5); go_simp <;> with_reducible rfl); (try simp only [List.getElem_toArray, List.getElem_cons_zero, List.getElem_cons_succ, Act.put, List.setIfInBounds_toArray, List.set_cons_zero, List.set_cons_succ]))
        (refine wpAnyH_take (i := 35) (v := ?_) rfl (by kernel_rfl) (by kernel_rfl) (by kernel_rfl) (fun _ _ _ h => h) (Or.inl ⟨by rfl, ?_⟩) (by assumption) ?_; rotate_left; (· intro w5 hS5; (try dsimp only at hS5); go_simp <;> with_reducible rfl); (try simp only [List.getElem_toArray, List.getElem_cons_zero, List.getElem_cons_succ, Act.put, List.setIfInBounds_toArray, List.set_cons_zero, List.set_cons_succ]))
        (refine wpAnyH_take (i := 36) (v := ?_) rfl (by kernel_rfl) (by kernel_rfl) (by kernel_rfl) (fun _ _ _ h => h) (Or.inl ⟨by rfl, ?_⟩) (by assumption) ?_; rotate_left; (· intro w5 hS5; (try dsimp only at hS5); go_simp <;> with_reducible rfl); (try simp only [List.getElem_toArray, List.getElem_cons_zero, List.getElem_cons_succ, Act.put, List.setIfInBounds_toArray, List.set_cons_zero, List.set_cons_succ]))
        (refine wpAnyH_ready (rs := [37]) (by kernel_rfl) (by simp) ?_; refine AllReadyH.cons rfl (fun K hK => ?_) AllReadyH.nil)
        go_simp
        refine (spot_any _ _ _).mono ?_
        rintro e x8 ⟨rfl, hx8⟩
        replace hA := AllB.below hA hx8
        replace hB := below_next hB hB.size hx8
        replace c0 := keepL hx8 c0
        replace c1 := keepL hx8 c1
        replace c2 := keepL hx8 c2
        replace c3 := keepL hx8 c3
        replace c4 := keepL hx8 c4
        replace c5 := keepL hx8 c5
        replace c6 := keepL hx8 c6
        replace c7 := keepL hx8 c7
        replace c8 := keepL hx8 c8
        replace c9 := keepL hx8 c9
        refine hK.out _ _ ⟨hA, c0, c1, c2, c3, c4, c5, c6, c7, c8, c9⟩ (fun hHeld => ?_)
        clear hK K
        (try simp only [List.getElem_toArray, List.getElem_cons_zero, List.getElem_cons_succ, Act.put, List.setIfInBounds_toArray, List.set_cons_zero, List.set_cons_succ])
        (refine wpAnyH_take (i := 38) (v := .bool true) rfl (by kernel_rfl) (by kernel_rfl) (by kernel_rfl) (fun _ _ _ h => h) (yields_eq23 (by rfl) _ _ _ rfl 4 12 rfl rfl) (by assumption) ?_; (try simp only [List.getElem_toArray, List.getElem_cons_zero, List.getElem_cons_succ, Act.put, List.setIfInBounds_toArray, List.set_cons_zero, List.set_cons_succ]))
        (refine wpAnyH_take (i := 39) (v := ?_) rfl (by kernel_rfl) (by kernel_rfl) (by kernel_rfl) (fun _ _ _ h => h) (Or.inl ⟨by rfl, ?_⟩) (by assumption) ?_; rotate_left; (· intro w5 hS5; (try dsimp only at hS5); go_simp <;> with_reducible rfl); (try simp only [List.getElem_toArray, List.getElem_cons_zero, List.getElem_cons_succ, Act.put, List.setIfInBounds_toArray, List.set_cons_zero, List.set_cons_succ]))
        (refine wpAnyH_take (i := 40) (v := ?_) rfl (by kernel_rfl) (by kernel_rfl) (by kernel_rfl) (fun _ _ _ h => h) (Or.inl ⟨by rfl, ?_⟩) (by assumption) ?_; rotate_left; (· intro w5 hS5; (try dsimp only at hS5); go_simp <;> with_reducible rfl); (try simp only [List.getElem_toArray, List.getElem_cons_zero, List.getElem_cons_succ, Act.put, List.setIfInBounds_toArray, List.set_cons_zero, List.set_cons_succ]))
        refine wpAnyH_done (by kernel_rfl) ?_ _
        clear hHeld
        go_wp2_with fail
        go_meet
        case rel => exact ⟨rfl, hA, hB⟩
    case rest =>
    obtain ⟨rfl, hK8, hW⟩ := hcut
    have hL : AllB wc [] := AllB.nil wc
    clear hK8
    as_aux_lemma =>
      go_wp2_with (first
        | (go_at_call 68; refine (year_any _).mono ?_; rintro e w ⟨ad, rfl, hD, hb⟩; replace hW := below_next hW hW.size hb; replace hL := hL.below hb; (first | (replace hS := hS.behind hb) | skip); clear hb)
        | (go_at_call 34; refine (means_year _ (by first | exact .inl rfl | exact .inr (.inl rfl) | exact .inr (.inr rfl)) _ _ hD).mono ?_; rw [Y2.out.1, Y2.out.2]; rintro e wP ⟨rfl, hb⟩; replace hW := (below_next hW hW.size hb).trans ((below26 wP P).mono (below_next hW hW.size hb).size); replace hL := (hL.below hb).push (below26 wP P) (new26 wP P); clear hb; have kN := new26z wP)
        | (go_at_call 34; refine (means_year _ (by first | exact .inl rfl | exact .inr (.inl rfl) | exact .inr (.inr rfl)) _ _ hD).mono ?_; rw [Y1.out.1, Y1.out.2]; rintro e wO ⟨rfl, hb⟩; replace hW := (below_next hW hW.size hb).trans ((below26 wO zeroV).mono (below_next hW hW.size hb).size); replace hL := (hL.below hb).push (below26 wO zeroV) (new26 wO zeroV); clear hb; have kN := new26z wO)
        | (go_at_call 34; refine (means_year _ (by first | exact .inl rfl | exact .inr (.inl rfl) | exact .inr (.inr rfl)) _ _ hD).mono ?_; rw [Y5.out.1, Y5.out.2]; rintro e wQ ⟨rfl, hb⟩; replace hW := (below_next hW hW.size hb).trans ((below26 wQ Q).mono (below_next hW hW.size hb).size); replace hL := (hL.below hb).push (below26 wQ Q) (new26 wQ Q); clear hb; have kN := new26z wQ)
        | (refine stV _ 212 rfl rfl kN rfl rfl ?_)
        | (refine stV _ 217 rfl rfl kN rfl rfl ?_)
        | (refine stV _ 222 rfl rfl kN rfl rfl ?_)
        | (go_at_call 35; refine (needs_year _ _ hD).mono ?_; rintro e w ⟨A3, c3, rfl, ho, hb⟩; replace hW := below_next hW hW.size hb; replace hL := hL.below hb; have hS := Strs.of_own ho; clear hb ho)
        | (go_at_call 37; refine (changes_year _ _ hD).mono ?_; rintro e wZ ⟨A4, c4, rfl, ho, hb⟩; replace hW := below_next hW hW.size hb; replace hL := hL.below hb; replace hS := hS.behind hb; have hI := Ints.of_own ho; clear hb ho))
      have hK3 : AllB wZ [(wP.heap.size, 26, va P), (wO.heap.size, 26, va zeroV), (wQ.heap.size, 26, va Q)] := hL
      clear hL kN hD
      have c0 : wZ.cell? ⟨wP.heap.size, 22, none⟩ = some (.int .i64 220) := by rw [(AllB.get hK3 0 rfl : Blk _ _ 26 (va P)).va 22 (by omega), HP.out.1]
      have c1 : wZ.cell? ⟨wP.heap.size, 23, none⟩ = some (.int .i64 222) := by rw [(AllB.get hK3 0 rfl : Blk _ _ 26 (va P)).va 23 (by omega), HP.out.2]
      have c2 : wZ.cell? ⟨wQ.heap.size, 0, none⟩ = some (.int .i64 221) := by rw [(AllB.get hK3 2 rfl : Blk _ _ 26 (va Q)).va 0 (by omega), HQ.out.1]
      have c3' : wZ.cell? ⟨wQ.heap.size, 1, none⟩ = some (.int .i64 223) := by rw [(AllB.get hK3 2 rfl : Blk _ _ 26 (va Q)).va 1 (by omega), HQ.out.2]
      refine wp_region_held_drew (S := fun w' => w'.cell? ⟨wP.heap.size, 22, none⟩ = some (.int .i64 220) ∧ w'.cell? ⟨wP.heap.size, 23, none⟩ = some (.int .i64 222) ∧ w'.cell? ⟨wQ.heap.size, 0, none⟩ = some (.int .i64 221) ∧ w'.cell? ⟨wQ.heap.size, 1, none⟩ = some (.int .i64 223)) (by kernel_rfl) ⟨c0, c1, c2, c3'⟩ (fun hHeld => ?_)
      have hB := hW.drew
      replace c0 : wZ.drew.cell? ⟨wP.heap.size, 22, none⟩ = some (.int .i64 220) := c0
      replace c1 : wZ.drew.cell? ⟨wP.heap.size, 23, none⟩ = some (.int .i64 222) := c1
      replace c2 : wZ.drew.cell? ⟨wQ.heap.size, 0, none⟩ = some (.int .i64 221) := c2
      replace c3' : wZ.drew.cell? ⟨wQ.heap.size, 1, none⟩ = some (.int .i64 223) := c3'
      replace hS : Strs wZ.drew wZ.drew.heap.size A3 [nmL] := hS
      replace hI : Ints wZ.drew wZ.drew.heap.size A4 [2, 5] := hI
      clear hW hK3
      (refine wpAnyH_take (i := 0) (v := ?_) rfl (by kernel_rfl) (by kernel_rfl) (by kernel_rfl) (fun _ _ _ h => h) (Or.inl ⟨by rfl, ?_⟩) (by assumption) ?_; rotate_left; (· intro w5 hS5; (try dsimp only at hS5); go_simp <;> with_reducible rfl); (try simp only [List.getElem_toArray, List.getElem_cons_zero, List.getElem_cons_succ, Act.put, List.setIfInBounds_toArray, List.set_cons_zero, List.set_cons_succ]))
      (refine wpAnyH_take (i := 1) (v := ?_) rfl (by kernel_rfl) (by kernel_rfl) (by kernel_rfl) (fun _ _ _ h => h) (Or.inl ⟨by rfl, ?_⟩) (by assumption) ?_; rotate_left; (· intro w5 hS5; (try dsimp only at hS5); go_simp <;> with_reducible rfl); (try simp only [List.getElem_toArray, List.getElem_cons_zero, List.getElem_cons_succ, Act.put, List.setIfInBounds_toArray, List.set_cons_zero, List.set_cons_succ]))
      (refine wpAnyH_take (i := 2) (v := ?_) rfl (by kernel_rfl) (by kernel_rfl) (by kernel_rfl) (fun _ _ _ h => h) (Or.inl ⟨by rfl, ?_⟩) (by assumption) ?_; rotate_left; (· intro w5 hS5; (try dsimp only at hS5); go_simp <;> with_reducible rfl); (try simp only [List.getElem_toArray, List.getElem_cons_zero, List.getElem_cons_succ, Act.put, List.setIfInBounds_toArray, List.set_cons_zero, List.set_cons_succ]))
      (refine wpAnyH_take (i := 3) (v := ?_) rfl (by kernel_rfl) (by kernel_rfl) (by kernel_rfl) (fun _ _ _ h => h) (Or.inl ⟨by rfl, ?_⟩) (by assumption) ?_; rotate_left; (· intro w5 hS5; (try dsimp only at hS5); go_simp <;> with_reducible rfl); (try simp only [List.getElem_toArray, List.getElem_cons_zero, List.getElem_cons_succ, Act.put, List.setIfInBounds_toArray, List.set_cons_zero, List.set_cons_succ]))
      (refine wpAnyH_take (i := 4) (v := ?_) rfl (by kernel_rfl) (by kernel_rfl) (by kernel_rfl) (fun _ _ _ h => h) (Or.inl ⟨by rfl, ?_⟩) (by assumption) ?_; rotate_left; (· intro w5 hS5; (try dsimp only at hS5); go_simp <;> with_reducible rfl); (try simp only [List.getElem_toArray, List.getElem_cons_zero, List.getElem_cons_succ, Act.put, List.setIfInBounds_toArray, List.set_cons_zero, List.set_cons_succ]))
      (refine wpAnyH_take (i := 5) (v := ?_) rfl (by kernel_rfl) (by kernel_rfl) (by kernel_rfl) (fun _ _ _ h => h) (Or.inl ⟨by rfl, ?_⟩) (by assumption) ?_; rotate_left; (· intro w5 hS5; (try dsimp only at hS5); go_simp <;> with_reducible rfl); (try simp only [List.getElem_toArray, List.getElem_cons_zero, List.getElem_cons_succ, Act.put, List.setIfInBounds_toArray, List.set_cons_zero, List.set_cons_succ]))
      (refine wpAnyH_take (i := 6) (v := ?_) rfl (by kernel_rfl) (by kernel_rfl) (by kernel_rfl) (fun _ _ _ h => h) (Or.inl ⟨by rfl, ?_⟩) (by assumption) ?_; rotate_left; (· intro w5 hS5; (try dsimp only at hS5); go_simp <;> with_reducible rfl); (try simp only [List.getElem_toArray, List.getElem_cons_zero, List.getElem_cons_succ, Act.put, List.setIfInBounds_toArray, List.set_cons_zero, List.set_cons_succ]))
      (refine wpAnyH_take (i := 7) (v := ?_) rfl (by kernel_rfl) (by kernel_rfl) (by kernel_rfl) (fun _ _ _ h => h) (Or.inl ⟨by rfl, ?_⟩) (by assumption) ?_; rotate_left; (· intro w5 hS5; (try dsimp only at hS5); go_simp <;> with_reducible rfl); (try simp only [List.getElem_toArray, List.getElem_cons_zero, List.getElem_cons_succ, Act.put, List.setIfInBounds_toArray, List.set_cons_zero, List.set_cons_succ]))
      (refine wpAnyH_take (i := 8) (v := ?_) rfl (by kernel_rfl) (by kernel_rfl) (by kernel_rfl) (fun _ _ _ h => h) (Or.inl ⟨by rfl, ?_⟩) (by assumption) ?_; rotate_left; (· intro w5 hS5; (try dsimp only at hS5); go_simp <;> with_reducible rfl); (try simp only [List.getElem_toArray, List.getElem_cons_zero, List.getElem_cons_succ, Act.put, List.setIfInBounds_toArray, List.set_cons_zero, List.set_cons_succ]))
      (refine wpAnyH_ready (rs := [9]) (by kernel_rfl) (by simp) ?_; refine AllReadyH.cons rfl (fun K hK => ?_) AllReadyH.nil)
      go_simp
      refine (spot_any _ _ _).mono ?_
      rintro e x901 ⟨rfl, hx901⟩
      replace hB := below_next hB hB.size hx901
      replace hS := hS.behind hx901
      replace hI := hI.behind hx901
      replace c0 := keepL hx901 c0
      replace c1 := keepL hx901 c1
      replace c2 := keepL hx901 c2
      replace c3' := keepL hx901 c3'
      refine hK.out _ _ ⟨c0, c1, c2, c3'⟩ (fun hHeld => ?_)
      clear hK K
      (try simp only [List.getElem_toArray, List.getElem_cons_zero, List.getElem_cons_succ, Act.put, List.setIfInBounds_toArray, List.set_cons_zero, List.set_cons_succ])
      (refine wpAnyH_take (i := 10) (v := .bool true) rfl (by kernel_rfl) (by kernel_rfl) (by kernel_rfl) (fun _ _ _ h => h) (yields_eq23 (by rfl) _ _ _ rfl 220 222 rfl rfl) (by assumption) ?_; (try simp only [List.getElem_toArray, List.getElem_cons_zero, List.getElem_cons_succ, Act.put, List.setIfInBounds_toArray, List.set_cons_zero, List.set_cons_succ]))
      (refine wpAnyH_take (i := 11) (v := ?_) rfl (by kernel_rfl) (by kernel_rfl) (by kernel_rfl) (fun _ _ _ h => h) (Or.inl ⟨by rfl, ?_⟩) (by assumption) ?_; rotate_left; (· intro w5 hS5; (try dsimp only at hS5); go_simp <;> with_reducible rfl); (try simp only [List.getElem_toArray, List.getElem_cons_zero, List.getElem_cons_succ, Act.put, List.setIfInBounds_toArray, List.set_cons_zero, List.set_cons_succ]))
      (refine wpAnyH_take (i := 12) (v := ?_) rfl (by kernel_rfl) (by kernel_rfl) (by kernel_rfl) (fun _ _ _ h => h) (Or.inl ⟨by rfl, ?_⟩) (by assumption) ?_; rotate_left; (· intro w5 hS5; (try dsimp only at hS5); go_simp <;> with_reducible rfl); (try simp only [List.getElem_toArray, List.getElem_cons_zero, List.getElem_cons_succ, Act.put, List.setIfInBounds_toArray, List.set_cons_zero, List.set_cons_succ]))
      (refine wpAnyH_take (i := 13) (v := ?_) rfl (by kernel_rfl) (by kernel_rfl) (by kernel_rfl) (fun _ _ _ h => h) (Or.inl ⟨by rfl, ?_⟩) (by assumption) ?_; rotate_left; (· intro w5 hS5; (try dsimp only at hS5); go_simp <;> with_reducible rfl); (try simp only [List.getElem_toArray, List.getElem_cons_zero, List.getElem_cons_succ, Act.put, List.setIfInBounds_toArray, List.set_cons_zero, List.set_cons_succ]))
      (refine wpAnyH_take (i := 14) (v := ?_) rfl (by kernel_rfl) (by kernel_rfl) (by kernel_rfl) (fun _ _ _ h => h) (Or.inl ⟨by rfl, ?_⟩) (by assumption) ?_; rotate_left; (· intro w5 hS5; (try dsimp only at hS5); go_simp <;> with_reducible rfl); (try simp only [List.getElem_toArray, List.getElem_cons_zero, List.getElem_cons_succ, Act.put, List.setIfInBounds_toArray, List.set_cons_zero, List.set_cons_succ]))
      (refine wpAnyH_take (i := 15) (v := ?_) rfl (by kernel_rfl) (by kernel_rfl) (by kernel_rfl) (fun _ _ _ h => h) (Or.inl ⟨by rfl, ?_⟩) (by assumption) ?_; rotate_left; (· intro w5 hS5; (try dsimp only at hS5); go_simp <;> with_reducible rfl); (try simp only [List.getElem_toArray, List.getElem_cons_zero, List.getElem_cons_succ, Act.put, List.setIfInBounds_toArray, List.set_cons_zero, List.set_cons_succ]))
      (refine wpAnyH_take (i := 16) (v := ?_) rfl (by kernel_rfl) (by kernel_rfl) (by kernel_rfl) (fun _ _ _ h => h) (Or.inl ⟨by rfl, ?_⟩) (by assumption) ?_; rotate_left; (· intro w5 hS5; (try dsimp only at hS5); go_simp <;> with_reducible rfl); (try simp only [List.getElem_toArray, List.getElem_cons_zero, List.getElem_cons_succ, Act.put, List.setIfInBounds_toArray, List.set_cons_zero, List.set_cons_succ]))
      (refine wpAnyH_take (i := 17) (v := ?_) rfl (by kernel_rfl) (by kernel_rfl) (by kernel_rfl) (fun _ _ _ h => h) (Or.inl ⟨by rfl, ?_⟩) (by assumption) ?_; rotate_left; (· intro w5 hS5; (try dsimp only at hS5); go_simp <;> with_reducible rfl); (try simp only [List.getElem_toArray, List.getElem_cons_zero, List.getElem_cons_succ, Act.put, List.setIfInBounds_toArray, List.set_cons_zero, List.set_cons_succ]))
      (refine wpAnyH_take (i := 18) (v := ?_) rfl (by kernel_rfl) (by kernel_rfl) (by kernel_rfl) (fun _ _ _ h => h) (Or.inl ⟨by rfl, ?_⟩) (by assumption) ?_; rotate_left; (· intro w5 hS5; (try dsimp only at hS5); go_simp <;> with_reducible rfl); (try simp only [List.getElem_toArray, List.getElem_cons_zero, List.getElem_cons_succ, Act.put, List.setIfInBounds_toArray, List.set_cons_zero, List.set_cons_succ]))
      (refine wpAnyH_take (i := 19) (v := ?_) rfl (by kernel_rfl) (by kernel_rfl) (by kernel_rfl) (fun _ _ _ h => h) (Or.inl ⟨by rfl, ?_⟩) (by assumption) ?_; rotate_left; (· intro w5 hS5; (try dsimp only at hS5); go_simp <;> with_reducible rfl); (try simp only [List.getElem_toArray, List.getElem_cons_zero, List.getElem_cons_succ, Act.put, List.setIfInBounds_toArray, List.set_cons_zero, List.set_cons_succ]))
      (refine wpAnyH_take (i := 20) (v := ?_) rfl (by kernel_rfl) (by kernel_rfl) (by kernel_rfl) (fun _ _ _ h => h) (Or.inl ⟨by rfl, ?_⟩) (by assumption) ?_; rotate_left; (· intro w5 hS5; (try dsimp only at hS5); go_simp <;> with_reducible rfl); (try simp only [List.getElem_toArray, List.getElem_cons_zero, List.getElem_cons_succ, Act.put, List.setIfInBounds_toArray, List.set_cons_zero, List.set_cons_succ]))
      (refine wpAnyH_take (i := 21) (v := ?_) rfl (by kernel_rfl) (by kernel_rfl) (by kernel_rfl) (fun _ _ _ h => h) (Or.inl ⟨by rfl, ?_⟩) (by assumption) ?_; rotate_left; (· intro w5 hS5; (try dsimp only at hS5); go_simp <;> with_reducible rfl); (try simp only [List.getElem_toArray, List.getElem_cons_zero, List.getElem_cons_succ, Act.put, List.setIfInBounds_toArray, List.set_cons_zero, List.set_cons_succ]))
      (refine wpAnyH_take (i := 22) (v := ?_) rfl (by kernel_rfl) (by kernel_rfl) (by kernel_rfl) (fun _ _ _ h => h) (Or.inl ⟨by rfl, ?_⟩) (by assumption) ?_; rotate_left; (· intro w5 hS5; (try dsimp only at hS5); go_simp <;> with_reducible rfl); (try simp only [List.getElem_toArray, List.getElem_cons_zero, List.getElem_cons_succ, Act.put, List.setIfInBounds_toArray, List.set_cons_zero, List.set_cons_succ]))
      (refine wpAnyH_take (i := 23) (v := ?_) rfl (by kernel_rfl) (by kernel_rfl) (by kernel_rfl) (fun _ _ _ h => h) (Or.inl ⟨by rfl, ?_⟩) (by assumption) ?_; rotate_left; (· intro w5 hS5; (try dsimp only at hS5); go_simp <;> with_reducible rfl); (try simp only [List.getElem_toArray, List.getElem_cons_zero, List.getElem_cons_succ, Act.put, List.setIfInBounds_toArray, List.set_cons_zero, List.set_cons_succ]))
      (refine wpAnyH_ready (rs := [24]) (by kernel_rfl) (by simp) ?_; refine AllReadyH.cons rfl (fun K hK => ?_) AllReadyH.nil)
      go_simp
      refine (spot_any _ _ _).mono ?_
      rintro e x902 ⟨rfl, hx902⟩
      replace hB := below_next hB hB.size hx902
      replace hS := hS.behind hx902
      replace hI := hI.behind hx902
      replace c0 := keepL hx902 c0
      replace c1 := keepL hx902 c1
      replace c2 := keepL hx902 c2
      replace c3' := keepL hx902 c3'
      refine hK.out _ _ ⟨c0, c1, c2, c3'⟩ (fun hHeld => ?_)
      clear hK K
      (try simp only [List.getElem_toArray, List.getElem_cons_zero, List.getElem_cons_succ, Act.put, List.setIfInBounds_toArray, List.set_cons_zero, List.set_cons_succ])
      (refine wpAnyH_take (i := 25) (v := .bool true) rfl (by kernel_rfl) (by kernel_rfl) (by kernel_rfl) (fun _ _ _ h => h) (yields_eq23 (by rfl) _ _ _ rfl 221 223 rfl rfl) (by assumption) ?_; (try simp only [List.getElem_toArray, List.getElem_cons_zero, List.getElem_cons_succ, Act.put, List.setIfInBounds_toArray, List.set_cons_zero, List.set_cons_succ]))
      (refine wpAnyH_take (i := 26) (v := ?_) rfl (by kernel_rfl) (by kernel_rfl) (by kernel_rfl) (fun _ _ _ h => h) (Or.inl ⟨by rfl, ?_⟩) (by assumption) ?_; rotate_left; (· intro w5 hS5; (try dsimp only at hS5); go_simp <;> with_reducible rfl); (try simp only [List.getElem_toArray, List.getElem_cons_zero, List.getElem_cons_succ, Act.put, List.setIfInBounds_toArray, List.set_cons_zero, List.set_cons_succ]))
      (refine wpAnyH_take (i := 27) (v := ?_) rfl (by kernel_rfl) (by kernel_rfl) (by kernel_rfl) (fun _ _ _ h => h) (Or.inl ⟨by rfl, ?_⟩) (by assumption) ?_; rotate_left; (· intro w5 hS5; (try dsimp only at hS5); go_simp <;> with_reducible rfl); (try simp only [List.getElem_toArray, List.getElem_cons_zero, List.getElem_cons_succ, Act.put, List.setIfInBounds_toArray, List.set_cons_zero, List.set_cons_succ]))
      (refine wpAnyH_take (i := 28) (v := ?_) rfl (by kernel_rfl) (by kernel_rfl) (by kernel_rfl) (fun _ _ _ h => h) (Or.inl ⟨by rfl, ?_⟩) (by assumption) ?_; rotate_left; (· intro w5 hS5; (try dsimp only at hS5); go_simp <;> with_reducible rfl); (try simp only [List.getElem_toArray, List.getElem_cons_zero, List.getElem_cons_succ, Act.put, List.setIfInBounds_toArray, List.set_cons_zero, List.set_cons_succ]))
      (refine wpAnyH_take (i := 29) (v := ?_) rfl (by kernel_rfl) (by kernel_rfl) (by kernel_rfl) (fun _ _ _ h => h) (Or.inl ⟨by rfl, ?_⟩) (by assumption) ?_; rotate_left; (· intro w5 hS5; (try dsimp only at hS5); go_simp <;> with_reducible rfl); (try simp only [List.getElem_toArray, List.getElem_cons_zero, List.getElem_cons_succ, Act.put, List.setIfInBounds_toArray, List.set_cons_zero, List.set_cons_succ]))
      (refine wpAnyH_take (i := 30) (v := ?_) rfl (by kernel_rfl) (by kernel_rfl) (by kernel_rfl) (fun _ _ _ h => h) (Or.inl ⟨by rfl, ?_⟩) (by assumption) ?_; rotate_left; (· intro w5 hS5; (try dsimp only at hS5); go_simp <;> with_reducible rfl); (try simp only [List.getElem_toArray, List.getElem_cons_zero, List.getElem_cons_succ, Act.put, List.setIfInBounds_toArray, List.set_cons_zero, List.set_cons_succ]))
      (refine wpAnyH_take (i := 31) (v := ?_) rfl (by kernel_rfl) (by kernel_rfl) (by kernel_rfl) (fun _ _ _ h => h) (Or.inl ⟨by rfl, ?_⟩) (by assumption) ?_; rotate_left; (· intro w5 hS5; (try dsimp only at hS5); go_simp <;> with_reducible rfl); (try simp only [List.getElem_toArray, List.getElem_cons_zero, List.getElem_cons_succ, Act.put, List.setIfInBounds_toArray, List.set_cons_zero, List.set_cons_succ]))
      (refine wpAnyH_take (i := 32) (v := ?_) rfl (by kernel_rfl) (by kernel_rfl) (by kernel_rfl) (fun _ _ _ h => h) (Or.inl ⟨by rfl, ?_⟩) (by assumption) ?_; rotate_left; (· intro w5 hS5; (try dsimp only at hS5); go_simp <;> with_reducible rfl); (try simp only [List.getElem_toArray, List.getElem_cons_zero, List.getElem_cons_succ, Act.put, List.setIfInBounds_toArray, List.set_cons_zero, List.set_cons_succ]))
      (refine wpAnyH_ready (rs := [33]) (by kernel_rfl) (by simp) ?_; refine AllReadyH.cons rfl (fun K hK => ?_) AllReadyH.nil)
      have hbn := below_new x902 (.cells #[.string nmL] 9)
      have hT : Strs (x902.alloc (.cells #[.string nmL] 9)) (x902.alloc (.cells #[.string nmL] 9)).heap.size (some ⟨x902.heap.size, 0, none⟩) [nmL] := Strs.of_own (e := 9) (base := 0) (n := 1) (c := 1) (own_new x902 9 0 (Nat.zero_le _) [.string nmL] (by simp [maxLen]))
      replace hB := below_next hB hB.size hbn
      replace hS := hS.behind hbn
      replace hI := hI.behind hbn
      replace c0 := keepL hbn c0
      replace c1 := keepL hbn c1
      replace c2 := keepL hbn c2
      replace c3' := keepL hbn c3'
      go_simp
      refine hK.out _ _ ⟨c0, c1, c2, c3'⟩ (fun hHeld => ?_)
      clear hK K
      (try simp only [List.getElem_toArray, List.getElem_cons_zero, List.getElem_cons_succ, Act.put, List.setIfInBounds_toArray, List.set_cons_zero, List.set_cons_succ])
      (refine wpAnyH_ready (rs := [34]) (by kernel_rfl) (by simp) ?_; refine AllReadyH.cons rfl (fun K hK => ?_) AllReadyH.nil)
      go_simp
      refine (sameTexts_any A3 (some ⟨x902.heap.size, 0, none⟩) c3 1 _ _ [nmL] [nmL] _ (by decide) (by decide) hS hT).mono ?_
      rw [show decide ([nmL] = [nmL]) = true from decide_eq_true rfl]
      rintro e x903 ⟨rfl, n1, hx903⟩
      have hb3 : Below (x902.alloc (.cells #[.string nmL] 9)).heap.size (x902.alloc (.cells #[.string nmL] 9)) x903 := by rw [hx903]; exact below_drewN (Below.refl _ _) n1
      clear hx903
      replace hB := below_next hB hB.size hb3
      replace hI := hI.behind hb3
      replace c0 := keepL hb3 c0
      replace c1 := keepL hb3 c1
      replace c2 := keepL hb3 c2
      replace c3' := keepL hb3 c3'
      refine hK.out _ _ ⟨c0, c1, c2, c3'⟩ (fun hHeld => ?_)
      clear hK K
      (try simp only [List.getElem_toArray, List.getElem_cons_zero, List.getElem_cons_succ, Act.put, List.setIfInBounds_toArray, List.set_cons_zero, List.set_cons_succ])
      (refine wpAnyH_take (i := 35) (v := ?_) rfl (by kernel_rfl) (by kernel_rfl) (by kernel_rfl) (fun _ _ _ h => h) (Or.inl ⟨by rfl, ?_⟩) (by assumption) ?_; rotate_left; (· intro w5 hS5; (try dsimp only at hS5); go_simp <;> with_reducible rfl); (try simp only [List.getElem_toArray, List.getElem_cons_zero, List.getElem_cons_succ, Act.put, List.setIfInBounds_toArray, List.set_cons_zero, List.set_cons_succ]))
      (refine wpAnyH_take (i := 36) (v := ?_) rfl (by kernel_rfl) (by kernel_rfl) (by kernel_rfl) (fun _ _ _ h => h) (Or.inl ⟨by rfl, ?_⟩) (by assumption) ?_; rotate_left; (· intro w5 hS5; (try dsimp only at hS5); go_simp <;> with_reducible rfl); (try simp only [List.getElem_toArray, List.getElem_cons_zero, List.getElem_cons_succ, Act.put, List.setIfInBounds_toArray, List.set_cons_zero, List.set_cons_succ]))
      (refine wpAnyH_take (i := 37) (v := ?_) rfl (by kernel_rfl) (by kernel_rfl) (by kernel_rfl) (fun _ _ _ h => h) (Or.inl ⟨by rfl, ?_⟩) (by assumption) ?_; rotate_left; (· intro w5 hS5; (try dsimp only at hS5); go_simp <;> with_reducible rfl); (try simp only [List.getElem_toArray, List.getElem_cons_zero, List.getElem_cons_succ, Act.put, List.setIfInBounds_toArray, List.set_cons_zero, List.set_cons_succ]))
      (refine wpAnyH_take (i := 38) (v := ?_) rfl (by kernel_rfl) (by kernel_rfl) (by kernel_rfl) (fun _ _ _ h => h) (Or.inl ⟨by rfl, ?_⟩) (by assumption) ?_; rotate_left; (· intro w5 hS5; (try dsimp only at hS5); go_simp <;> with_reducible rfl); (try simp only [List.getElem_toArray, List.getElem_cons_zero, List.getElem_cons_succ, Act.put, List.setIfInBounds_toArray, List.set_cons_zero, List.set_cons_succ]))
      (refine wpAnyH_take (i := 39) (v := ?_) rfl (by kernel_rfl) (by kernel_rfl) (by kernel_rfl) (fun _ _ _ h => h) (Or.inl ⟨by rfl, ?_⟩) (by assumption) ?_; rotate_left; (· intro w5 hS5; (try dsimp only at hS5); go_simp <;> with_reducible rfl); (try simp only [List.getElem_toArray, List.getElem_cons_zero, List.getElem_cons_succ, Act.put, List.setIfInBounds_toArray, List.set_cons_zero, List.set_cons_succ]))
      (refine wpAnyH_take (i := 40) (v := ?_) rfl (by kernel_rfl) (by kernel_rfl) (by kernel_rfl) (fun _ _ _ h => h) (Or.inl ⟨by rfl, ?_⟩) (by assumption) ?_; rotate_left; (· intro w5 hS5; (try dsimp only at hS5); go_simp <;> with_reducible rfl); (try simp only [List.getElem_toArray, List.getElem_cons_zero, List.getElem_cons_succ, Act.put, List.setIfInBounds_toArray, List.set_cons_zero, List.set_cons_succ]))
      (refine wpAnyH_take (i := 41) (v := ?_) rfl (by kernel_rfl) (by kernel_rfl) (by kernel_rfl) (fun _ _ _ h => h) (Or.inl ⟨by rfl, ?_⟩) (by assumption) ?_; rotate_left; (· intro w5 hS5; (try dsimp only at hS5); go_simp <;> with_reducible rfl); (try simp only [List.getElem_toArray, List.getElem_cons_zero, List.getElem_cons_succ, Act.put, List.setIfInBounds_toArray, List.set_cons_zero, List.set_cons_succ]))
      (refine wpAnyH_ready (rs := [42]) (by kernel_rfl) (by simp) ?_; refine AllReadyH.cons rfl (fun K hK => ?_) AllReadyH.nil)
      have hbm := below_new x903 (.cells #[.int .i64 2, .int .i64 5] 3)
      have hU : Ints (x903.alloc (.cells #[.int .i64 2, .int .i64 5] 3)) (x903.alloc (.cells #[.int .i64 2, .int .i64 5] 3)).heap.size (some ⟨x903.heap.size, 0, none⟩) [2, 5] := Ints.of_own (e := 3) (base := 0) (n := 2) (c := 2) (own_new x903 3 0 (Nat.zero_le _) [.int .i64 2, .int .i64 5] (by simp [maxLen]))
      replace hB := below_next hB hB.size hbm
      replace hI := hI.behind hbm
      replace c0 := keepL hbm c0
      replace c1 := keepL hbm c1
      replace c2 := keepL hbm c2
      replace c3' := keepL hbm c3'
      go_simp
      refine hK.out _ _ ⟨c0, c1, c2, c3'⟩ (fun hHeld => ?_)
      clear hK K
      (try simp only [List.getElem_toArray, List.getElem_cons_zero, List.getElem_cons_succ, Act.put, List.setIfInBounds_toArray, List.set_cons_zero, List.set_cons_succ])
      (refine wpAnyH_ready (rs := [43]) (by kernel_rfl) (by simp) ?_; refine AllReadyH.cons rfl (fun K hK => ?_) AllReadyH.nil)
      go_simp
      refine (sameInts_any A4 (some ⟨x903.heap.size, 0, none⟩) c4 2 _ _ [2, 5] [2, 5] _ (by decide) (by decide) hI hU).mono ?_
      rw [show decide (([2, 5] : List Int) = [2, 5]) = true from decide_eq_true rfl]
      rintro e x904 ⟨rfl, n2, hx904⟩
      have hb4 : Below (x903.alloc (.cells #[.int .i64 2, .int .i64 5] 3)).heap.size (x903.alloc (.cells #[.int .i64 2, .int .i64 5] 3)) x904 := by rw [hx904]; exact below_drewN (Below.refl _ _) n2
      clear hx904
      replace hB := below_next hB hB.size hb4
      replace c0 := keepL hb4 c0
      replace c1 := keepL hb4 c1
      replace c2 := keepL hb4 c2
      replace c3' := keepL hb4 c3'
      refine hK.out _ _ ⟨c0, c1, c2, c3'⟩ (fun hHeld => ?_)
      clear hK K
      (try simp only [List.getElem_toArray, List.getElem_cons_zero, List.getElem_cons_succ, Act.put, List.setIfInBounds_toArray, List.set_cons_zero, List.set_cons_succ])
      (refine wpAnyH_take (i := 44) (v := ?_) rfl (by kernel_rfl) (by kernel_rfl) (by kernel_rfl) (fun _ _ _ h => h) (Or.inl ⟨by rfl, ?_⟩) (by assumption) ?_; rotate_left; (· intro w5 hS5; (try dsimp only at hS5); go_simp <;> with_reducible rfl); (try simp only [List.getElem_toArray, List.getElem_cons_zero, List.getElem_cons_succ, Act.put, List.setIfInBounds_toArray, List.set_cons_zero, List.set_cons_succ]))
      (refine wpAnyH_take (i := 45) (v := ?_) rfl (by kernel_rfl) (by kernel_rfl) (by kernel_rfl) (fun _ _ _ h => h) (Or.inl ⟨by rfl, ?_⟩) (by assumption) ?_; rotate_left; (· intro w5 hS5; (try dsimp only at hS5); go_simp <;> with_reducible rfl); (try simp only [List.getElem_toArray, List.getElem_cons_zero, List.getElem_cons_succ, Act.put, List.setIfInBounds_toArray, List.set_cons_zero, List.set_cons_succ]))
      refine wpAnyH_done (by kernel_rfl) ?_ _
      clear hHeld
      go_wp2_with fail
      go_ret
      exact ⟨rfl, hB⟩
end Go.Proofs.YtbhiphjifdnhmaaGreatDoor
