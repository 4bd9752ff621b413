/-
RoundStands returns true for every house, every list of holes and every number that names a stand: out of its bounds sanity alone is asked; within them closing the stand raises the count exactly if it is needed, taking it saves one exactly if it is useful, and what is needed is useful.
-/
import Derived.Test.YtnjmkdgglpcfpaaD9
import Derived.Test.YtnjmkdgglpcfpaaL1
import Derived.Carry
namespace Go.Proofs.Ytnjmkdgglpcfpaa
set_option linter.unusedSimpArgs false
set_option linter.unusedVariables false
open Go.ChangeShapes Go.WideShapes Go.ChangeAt Go.RowKit


set_option maxRecDepth 100000 in
theorem law9_lifted (os : Os) (started : os.Started) (H : Type) (enc : TypeId × Value → H) :
    ReturnsInHanded {} Try.checked os 9 .any (Rows.roundStandsSpec.pre6 enc Try.prog Try.f9 Rows.roundStandsRow.domain false) (Rows.roundStandsSpec.post enc Try.prog Try.f9 false true false false) := by
  refine returnsInHanded_of_change (C := Try.checked) k_own started (by kernel_rfl) Try.func9
    (ChangeSpec.witness6 (enc := enc) (C := Try.checked) false ⟨#[], #[.agg #[.int .i64 0, .int .i64 0, .int .i64 0, .int .i64 0, .slice none 0 0], .slice none 0 0, .int .u8 0], []⟩ 8 (by kernel_rfl) (by kernel_rfl) (by kernel_rfl) (by kernel_rfl)) ?_
  intro W base args ds gs before hval0 hW _ _
  have hval : ∀ (j : Nat) t v, Try.f9.params[j]? = some t → args[j]? = some v → Value.okWide Try.prog W .any base t v := hval0
  have hW' := hW
  obtain ⟨p, q, hA0, hV, rfl, _, _⟩ := hW
  have hA : DataW.TrodAll enc Try.prog W 0 (fun _ => true) true Try.f9.params.toList args.toList ds p := hA0
  have hps : Try.f9.params = #[24, 22, 5] := by kernel_rfl
  have hrs : Try.f9.resultTypes = #[4] := by kernel_rfl
  rw [hps] at hA hval
  obtain ⟨v0, v1, v2, d0, d1, d2, p0, p1, p2, rfl, rfl, rfl, h0, h1, h2⟩ := trodAll_three hA
  obtain ⟨rfl, rfl⟩ := trodVars_none hV
  obtain ⟨C, R, B, F, A, cap, cl, rfl, q1, q2, q3, q4⟩ := house_opens (hval 0 24 v0 rfl rfl) h0
  obtain ⟨D, dap, l, rfl, s11, s12, s13⟩ := slice_opens (hval 1 22 v1 rfl rfl) h1
  obtain ⟨b, rfl, rfl, rfl, wn2⟩ := open_int Try.underlying5 (hval 2 5 v2 rfl rfl) h2
  have hn2 : 0 ≤ b ∧ b ≤ 255 := by
    have h2 : IntKind.u8.min ≤ b ∧ b ≤ IntKind.u8.max := by simpa [Lit.wf] using wn2
    exact ⟨Int.le_trans (by decide) h2.1, Int.le_trans h2.2 (by decide)⟩
  simp only [List.append_nil] at hW'
  have hlt : ∀ x ∈ p0 ++ p1, x.block < W.heap.size := fun x hx => hW'.lt x (by simpa using hx)
  have hlt0 : ∀ x ∈ p0, x.block < W.heap.size := fun x hx => hlt x (by simp [hx])
  have hlt1 : ∀ x ∈ p1, x.block < W.heap.size := fun x hx => hlt x (by simp [hx])
  clear hA0 hval0
  refine (standsLaw_any C R B F A cap cl D dap l b W q4 (Nat.le_trans q1 q2) (Nat.le_trans s11 s12) q3 s13 hn2.1 hn2.2).mono fun e W' ⟨he, hnx⟩ => ?_
  subst he
  refine ⟨_, rfl, _, _, _, [], p0 ++ (p1 ++ ([])), [], hW', ?_, ?_, rfl, hnx.frame _, fun h => by cases h⟩
  · rw [hrs]
    exact trodAll_mk1 (k_bool true)
  · rw [hps]
    exact trodAll_mk3 (Below.trod k_laid (by kernel_rfl) (of_decide_eq_true (by kernel_rfl)) h0 hnx hlt0) (Below.trod k_laid (by kernel_rfl) (of_decide_eq_true (by kernel_rfl)) h1 hnx hlt1) (Below.trod k_laid (by kernel_rfl) (of_decide_eq_true (by kernel_rfl)) h2 hnx (by simp))

theorem roundStands_holds : Rows.RoundStandsSaid :=
  OpenClaim.holds_of_wide 9 Try.f9 rfl rfl rfl rfl rfl rfl rfl ⟨rfl, rfl, rfl, rfl, rfl⟩ rfl rfl rfl rfl rfl (by kernel_rfl) Try.func9 (by kernel_rfl)
    (of_decide_eq_true (by kernel_rfl)) (by unfold Func.isWrapper; first | (rw [if_pos (by decide +kernel)]; kernel_rfl) | (rw [if_neg (by decide +kernel)]; exact ⟨rfl, rfl⟩))
    (fun os started H enc _ => law9_lifted os started H enc)

end Go.Proofs.Ytnjmkdgglpcfpaa
