/-
GrainProves returns true for every barn, whether it needs the most or the least, every list of days and all lots: its head holds in every world; what Best finds is a way that its prices prove to be cheapest, and lots that CheckBest accepts cost just as much. No condition.
-/
import Derived.Test.YtolgomkmilbkgaaGreatG
import Derived.Test.YtolgomkmilbkgaaGreatRows
import Derived.WalkKit
import Derived.ProofKit
import Derived.ReadAgain
import Derived.RowKitTokens
import Derived.JoinedFifth
import Derived.Below
import Derived.Carry
set_option linter.unusedSimpArgs false
set_option linter.unusedVariables false
namespace Go.Proofs.YtolgomkmilbkgaaGreat
open Go.ChangeShapes Go.WideShapes Go.ChangeAt Go.RowKit

theorem grainProves_own : ownKnob Tryz.prog.godebug = none := by kernel_rfl
theorem grainProves_laid : laidOutB Tryz.prog = true := by kernel_rfl
theorem grainProves_bool {H : Type} {enc : TypeId × Value → H} {W' : World} {b : Nat} {sp : Nat → Bool} {held : Bool} (c : Bool) : DataW.Trod enc Tryz.prog W' b sp held 4 (.bool c) (.lit (.bool c)) [] := ⟨1, by simp [DataW.trod, Value.cells, Tryz.underlying4]⟩
set_option maxRecDepth 100000 in
theorem grainProves_lifted (os : Os) (started : os.Started) (H : Type) (enc : TypeId × Value → H) :
    ReturnsInHanded {} Tryz.checked os 3 .any (Rows.grainProvesSpec.pre6 enc Tryz.prog Tryz.f3 Rows.grainProvesRow.domain false) (Rows.grainProvesSpec.post enc Tryz.prog Tryz.f3 false true false false) := by
  refine returnsInHanded_of_change (C := Tryz.checked) grainProves_own started (by kernel_rfl) Tryz.func3
    (ChangeSpec.witness6 (enc := enc) (C := Tryz.checked) false ⟨#[], #[.agg #[.int .i64 0, .int .i64 0, .slice none 0 0], .bool false, .slice none 0 0, .agg #[.slice none 0 0, .int .i64 0, .slice none 0 0]], []⟩ 12 (by kernel_rfl) (by kernel_rfl) (by kernel_rfl) (by kernel_rfl)) ?_
  intro W base args ds gs before hval0 hW _ _
  have hval : ∀ (j : Nat) t v, Tryz.f3.params[j]? = some t → args[j]? = some v → Value.okWide Tryz.prog W .any base t v := hval0
  have hW' := hW
  obtain ⟨p, q, hA0, hV, rfl, _, _⟩ := hW
  have hA : DataW.TrodAll enc Tryz.prog W 0 (fun _ => true) true Tryz.f3.params.toList args.toList ds p := hA0
  have hps : Tryz.f3.params = #[24, 4, 25, 27] := by kernel_rfl
  have hrs : Tryz.f3.resultTypes = #[4] := by kernel_rfl
  rw [hps] at hA hval
  obtain ⟨rfl, rfl⟩ := trodVars_none hV
  simp only [List.append_nil] at hW'
  have hlt : ∀ x ∈ p, x.block < W.heap.size := fun x hx => hW'.lt x hx
  have hrun := Go.Proofs.YtolgomkmilbkgaaGreat.Ev.law_run (f := 3) (d := 5) grainProves_pur grainProves_laid (by kernel_rfl) (fun j t v h1 h2 => hval j t v (by simpa using h1) (by simpa using h2)) hA hlt
  refine hrun.mono fun e W' ⟨he, hnx, hre⟩ => ?_
  subst he
  have hds : ∃ d0 d1 d2 d3, ds = [d0, d1, d2, d3] := by
    have hlen : ∀ (ts : List TypeId) (vs : List Value) (ds : List (DataW H)) (p : List MemPlace), DataW.TrodAll enc Tryz.prog W 0 (fun _ => true) true ts vs ds p → ds.length = ts.length := by
      intro ts
      induction ts with
      | nil => intro vs ds p h; obtain ⟨_, rfl, _⟩ := trodAll_nil h; rfl
      | cons t ts ih =>
        intro vs ds p h
        cases vs with
        | nil => cases ds <;> exact h.elim
        | cons v vs =>
          cases ds with
          | nil => exact h.elim
          | cons x ds => obtain ⟨_, _, _, h2, _⟩ := h; simp [ih _ _ _ h2]
    have := hlen _ _ _ _ hA
    match ds, this with
    | [d0, d1, d2, d3], _ => exact ⟨d0, d1, d2, d3, rfl⟩
  obtain ⟨d0, d1, d2, d3, rfl⟩ := hds
  refine ⟨_, rfl, _, _, _, [], p, [], hW', ?_, ?_, rfl, hnx.frame _, fun h => by cases h⟩
  · rw [hrs]
    exact trodAll_mk1 (grainProves_bool true)
  · rw [hps]
    exact hre

theorem grainProves_holds : Rows.GrainProvesSaid :=
  OpenClaim.holds_of_wide 3 Tryz.f3 rfl rfl rfl rfl rfl rfl rfl ⟨rfl, rfl, rfl, rfl, rfl⟩ rfl rfl rfl rfl rfl (by kernel_rfl) Tryz.func3 (by kernel_rfl)
    (of_decide_eq_true (by kernel_rfl)) (by unfold Func.isWrapper; first | (rw [if_pos (by decide +kernel)]; kernel_rfl) | (rw [if_neg (by decide +kernel)]; exact ⟨rfl, rfl⟩))
    (fun os started H enc _ => grainProves_lifted os started H enc)
end Go.Proofs.YtolgomkmilbkgaaGreat

