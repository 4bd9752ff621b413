/-
AboutAdds returns true for every three vague days, right or not, every number that names a degree, and every two numbers that name places in the spans: sums and differences of the numbers there are allowed by Plus and Less, Plus and Hull do not depend on the order, and Plus of Less and the second day holds the first one.
-/
import Derived.Test.YtbhiphjifdnhmaaGreatDoorE4b
import Derived.Test.YtbhiphjifdnhmaaGreatDoorK25
import Derived.Test.YtbhiphjifdnhmaaGreatDoorL0
namespace Go.Proofs.YtbhiphjifdnhmaaGreatDoor
set_option linter.unusedSimpArgs false
set_option linter.unusedVariables false
open Go.ChangeShapes Go.WideShapes Go.ChangeAt Go.RowKit

theorem trodAll_open6 {H : Type} {enc : TypeId × Value → H} {P : Program} {w : World} {base : Nat} {spare : Nat → Bool} {held : Bool} {t0 t1 t2 t3 t4 t5 : TypeId} {args : Array Value} {ds : List (DataW H)} {ps : List MemPlace} (h : DataW.TrodAll enc P w base spare held [t0, t1, t2, t3, t4, t5] args.toList ds ps) :
    ∃ v0 v1 v2 v3 v4 v5 d0 d1 d2 d3 d4 d5 p0 p1 p2 p3 p4 p5, args = #[v0, v1, v2, v3, v4, v5] ∧ ds = [d0, d1, d2, d3, d4, d5] ∧ ps = p0 ++ (p1 ++ (p2 ++ (p3 ++ (p4 ++ (p5 ++ []))))) ∧ DataW.Trod enc P w base spare held t0 v0 d0 p0 ∧ DataW.Trod enc P w base spare held t1 v1 d1 p1 ∧ DataW.Trod enc P w base spare held t2 v2 d2 p2 ∧ DataW.Trod enc P w base spare held t3 v3 d3 p3 ∧ DataW.Trod enc P w base spare held t4 v4 d4 p4 ∧ DataW.Trod enc P w base spare held t5 v5 d5 p5 := by
  obtain ⟨v0, vs1, d0, ds1, p0, q1, hargs, rfl, rfl, h0, r1⟩ := trodAll_cons h
  obtain ⟨v1, vs2, d1, ds2, p1, q2, rfl, rfl, rfl, h1, r2⟩ := trodAll_cons r1
  obtain ⟨v2, vs3, d2, ds3, p2, q3, rfl, rfl, rfl, h2, r3⟩ := trodAll_cons r2
  obtain ⟨v3, vs4, d3, ds4, p3, q4, rfl, rfl, rfl, h3, r4⟩ := trodAll_cons r3
  obtain ⟨v4, vs5, d4, ds5, p4, q5, rfl, rfl, rfl, h4, r5⟩ := trodAll_cons r4
  obtain ⟨v5, vs6, d5, ds6, p5, q6, rfl, rfl, rfl, h5, r6⟩ := trodAll_cons r5
  obtain ⟨rfl, rfl, rfl⟩ := trodAll_nil r6
  exact ⟨v0, v1, v2, v3, v4, v5, d0, d1, d2, d3, d4, d5, p0, p1, p2, p3, p4, p5, by cases args; simp_all, rfl, rfl, h0, h1, h2, h3, h4, h5⟩

set_option maxRecDepth 100000 in
theorem law4_lifted (os : Os) (started : os.Started) (H : Type) (enc : TypeId × Value → H) :
    ReturnsInHanded {} Tryz.checked os 4 .any (fun w args => (Rows.aboutAddsSpec.pre enc Tryz.prog Tryz.f4 Rows.aboutAddsRow.domain false w args ∧ laidMetH Tryz.prog Rows.aboutAddsRow.laid w) ∧ sizedMet enc Tryz.prog Tryz.f4 (OpenSpec.ofChange Rows.aboutAddsSpec) false w args) (Rows.aboutAddsSpec.post enc Tryz.prog Tryz.f4 false true false false) := by
  refine returnsInHanded_of_change_and (C := Tryz.checked) (X := fun w _ => laidMetH Tryz.prog Rows.aboutAddsRow.laid w) (fun _ _ _ hh h => h.of_heap hh) k_own started (by kernel_rfl) Tryz.func4
    (ChangeSpec.witness_shaped (enc := enc) (C := Tryz.checked) (os := os) (X := fun w _ => laidMetH Tryz.prog Rows.aboutAddsRow.laid w) false (World.doorLaid Tryz.prog 28 os) #[.agg #[.int .i64 0, .int .i64 0, .int .i64 0, .int .i64 0, .int .i64 0, .int .i64 0, .int .i64 0, .int .i64 0, .int .i64 0, .int .i64 0, .int .i64 0, .int .i64 0, .int .i64 0, .int .i64 0, .int .i64 0, .int .i64 0, .int .i64 0, .int .i64 0, .int .i64 0, .int .i64 0, .int .i64 0, .int .i64 0, .int .i64 0, .int .i64 0], .agg #[.int .i64 0, .int .i64 0, .int .i64 0, .int .i64 0, .int .i64 0, .int .i64 0, .int .i64 0, .int .i64 0, .int .i64 0, .int .i64 0, .int .i64 0, .int .i64 0, .int .i64 0, .int .i64 0, .int .i64 0, .int .i64 0, .int .i64 0, .int .i64 0, .int .i64 0, .int .i64 0, .int .i64 0, .int .i64 0, .int .i64 0, .int .i64 0], .agg #[.int .i64 0, .int .i64 0, .int .i64 0, .int .i64 0, .int .i64 0, .int .i64 0, .int .i64 0, .int .i64 0, .int .i64 0, .int .i64 0, .int .i64 0, .int .i64 0, .int .i64 0, .int .i64 0, .int .i64 0, .int .i64 0, .int .i64 0, .int .i64 0, .int .i64 0, .int .i64 0, .int .i64 0, .int .i64 0, .int .i64 0, .int .i64 0], .int .u8 0, .int .u16 0, .int .u16 0] 8 rfl (World.shaped_of_RefB (by kernel_rfl) (by kernel_rfl)) (by kernel_rfl) (by kernel_rfl) (by kernel_rfl) (door_met os _)) ?_
  intro W base args ds gs before hval0 hW _ _ hL _
  have hval : ∀ (j : Nat) t v, Tryz.f4.params[j]? = some t → args[j]? = some v → Value.okWide Tryz.prog W .any base t v := hval0
  have hW' := hW
  obtain ⟨p, q, hA0, hV, rfl, _, _⟩ := hW
  have hA : DataW.TrodAll enc Tryz.prog W 0 (fun _ => true) true Tryz.f4.params.toList args.toList ds p := hA0
  have hps : Tryz.f4.params = #[26, 26, 26, 5, 40, 40] := by kernel_rfl
  have hrs : Tryz.f4.resultTypes = #[4] := by kernel_rfl
  rw [hps] at hA hval
  obtain ⟨v0, v1, v2, v3, v4, v5, d0, d1, d2, d3, d4, d5, p0, p1, p2, p3, p4, p5, rfl, rfl, rfl, h0, h1, h2, h3, h4, h5⟩ := trodAll_open6 hA
  obtain ⟨rfl, rfl⟩ := trodVars_none hV
  obtain ⟨a, rfl⟩ := vague_opens (hval 0 26 v0 rfl rfl) h0
  obtain ⟨b, rfl⟩ := vague_opens (hval 1 26 v1 rfl rfl) h1
  obtain ⟨c, rfl⟩ := vague_opens (hval 2 26 v2 rfl rfl) h2
  obtain ⟨d, rfl, _, _, wn3⟩ := open_int Tryz.underlying5 (hval 3 5 v3 rfl rfl) h3
  have hn3 : 0 ≤ d ∧ d ≤ 255 := by
    have h2 : IntKind.u8.min ≤ d ∧ d ≤ IntKind.u8.max := by simpa [Lit.wf] using wn3
    exact ⟨Int.le_trans (by decide) h2.1, Int.le_trans h2.2 (by decide)⟩
  obtain ⟨x, rfl, _, _, wn4⟩ := open_int Tryz.underlying40 (hval 4 40 v4 rfl rfl) h4
  have hn4 : 0 ≤ x ∧ x ≤ 65535 := by
    have h2 : IntKind.u16.min ≤ x ∧ x ≤ IntKind.u16.max := by simpa [Lit.wf] using wn4
    exact ⟨Int.le_trans (by decide) h2.1, Int.le_trans h2.2 (by decide)⟩
  obtain ⟨y, rfl, _, _, wn5⟩ := open_int Tryz.underlying40 (hval 5 40 v5 rfl rfl) h5
  have hn5 : 0 ≤ y ∧ y ≤ 65535 := by
    have h2 : IntKind.u16.min ≤ y ∧ y ≤ IntKind.u16.max := by simpa [Lit.wf] using wn5
    exact ⟨Int.le_trans (by decide) h2.1, Int.le_trans h2.2 (by decide)⟩
  simp only [List.append_nil] at hW'
  have hlt : ∀ x ∈ p0 ++ (p1 ++ (p2 ++ (p3 ++ (p4 ++ (p5))))), x.block < W.heap.size := fun x hx => hW'.lt x (by simpa using hx)
  have hlt0 : ∀ x ∈ p0, x.block < W.heap.size := fun x hx => hlt x (by simp [hx])
  have hlt1 : ∀ x ∈ p1, x.block < W.heap.size := fun x hx => hlt x (by simp [hx])
  have hlt2 : ∀ x ∈ p2, x.block < W.heap.size := fun x hx => hlt x (by simp [hx])
  have hlt3 : ∀ x ∈ p3, x.block < W.heap.size := fun x hx => hlt x (by simp [hx])
  have hlt4 : ∀ x ∈ p4, x.block < W.heap.size := fun x hx => hlt x (by simp [hx])
  have hlt5 : ∀ x ∈ p5, x.block < W.heap.size := fun x hx => hlt x (by simp [hx])
  clear hA0 hval0
  refine (law4_any (Lib.hid (fun W => sanity_ex _ _ _ _ ex_is W)) a b c d x y hn3 hn4 hn5 W).mono fun e W' ⟨he, hnx⟩ => ?_
  subst he
  refine ⟨_, rfl, _, _, _, [], p0 ++ (p1 ++ (p2 ++ (p3 ++ (p4 ++ (p5))))), [], hW', ?_, ?_, rfl, hnx.frame _, fun h => by cases h⟩
  · rw [hrs]
    exact trodAll_mk1 (k_bool true)
  · rw [hps]
    exact trodAll_cons_mk (Below.trod k_laid (by kernel_rfl) (of_decide_eq_true (by kernel_rfl)) h0 hnx hlt0) (trodAll_cons_mk (Below.trod k_laid (by kernel_rfl) (of_decide_eq_true (by kernel_rfl)) h1 hnx hlt1) (trodAll_cons_mk (Below.trod k_laid (by kernel_rfl) (of_decide_eq_true (by kernel_rfl)) h2 hnx hlt2) (trodAll_cons_mk (Below.trod k_laid (by kernel_rfl) (of_decide_eq_true (by kernel_rfl)) h3 hnx hlt3) (trodAll_cons_mk (Below.trod k_laid (by kernel_rfl) (of_decide_eq_true (by kernel_rfl)) h4 hnx hlt4) (trodAll_mk1 (Below.trod k_laid (by kernel_rfl) (of_decide_eq_true (by kernel_rfl)) h5 hnx hlt5))))))

theorem aboutAdds_row : Rows.AboutAddsSaid :=
  OpenClaim.holds_of_wide 4 Tryz.f4 rfl rfl rfl rfl rfl rfl rfl ⟨rfl, rfl, rfl, rfl, rfl⟩ rfl rfl rfl rfl rfl (by kernel_rfl) Tryz.func4 (by kernel_rfl)
    (of_decide_eq_true (by kernel_rfl)) (by unfold Func.isWrapper; first | (rw [if_pos (by decide +kernel)]; kernel_rfl) | (rw [if_neg (by decide +kernel)]; exact ⟨rfl, rfl⟩))
    (fun os started H enc _ => law4_lifted os started H enc)

theorem aboutAdds_holds : Rows.AboutAddsCardSaid :=
  Claim7.holds_tied_plain_at .later [] [.sentinel] true (true, "4d621d99bc1e0b66f2774e1e1f063c373948eccdf72f865d0d73e01b92262fba") true
    aboutAdds_row (fun _ h => by cases h) (by kernel_rfl) (fun _ h => by cases h) aboutAdds_row_tie rfl ⟨rfl, rfl⟩ (by kernel_rfl) rfl
    (fun f fn hf hfn => by
      obtain rfl : f = 4 := Option.some.inj ((show Tryz.prog.funcNamed "potence/potencelaw02.AboutAdds" = some 4 by kernel_rfl).symm.trans hf) |>.symm
      obtain rfl : fn = Tryz.f4 := (Option.some.inj (Tryz.func4.symm.trans hfn)).symm
      exact ⟨by kernel_rfl, fun j t ht => by
        have hps : Tryz.f4.params = #[26, 26, 26, 5, 40, 40] := by kernel_rfl
        rw [hps] at ht
        have hm : t ∈ [26, 26, 26, 5, 40, 40] := by simpa using Array.mem_of_getElem? ht
        have hall : ([26, 26, 26, 5, 40, 40].all fun u => !Tryz.prog.wantsStandIn u) = true := by kernel_rfl
        exact (show Tryz.prog.wantsStandIn t = false by simpa using List.all_eq_true.1 hall t hm)⟩)
    (by kernel_rfl)

end Go.Proofs.YtbhiphjifdnhmaaGreatDoor
