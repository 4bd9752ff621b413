import Derived.Test.YtieclenlldjfjaaGreatE29
set_option autoImplicit false
set_option linter.unusedVariables false
set_option linter.unusedSimpArgs false
namespace Go.Proofs.YtieclenlldjfjaaGreat.Ev
open Go
section
variable {P : Program}

/-- Where nothing is known yet: in every world. -/
theorem Rel.start (w : World) : Rel (fun _ => none) ⟨heap0, 0⟩ w := by
  have hd : ∀ nm, ¬ Alive ⟨heap0, 0⟩ nm := by
    intro nm h
    apply h
    rw [St.obj_mk]
    by_cases hn : nm < 65536
    · unfold objAt
      rw [bsel_eq, if_neg (by rw [ble_iff]; omega)]
      exact heap0_get hn
    · exact objAt_big (by omega)
  exact ⟨fun nm h => absurd h (hd nm), fun nm nm' k k' h => absurd h (hd nm), fun nm h => ⟨rfl, hd nm⟩, (fun nm k h => by cases h), Nat.zero_le _⟩

/-- A call without arguments, in every world: what it returns; all memory that was there stays as it was. -/
theorem call0_top (hm : P.follows .mixedOrders = true) {O : Orc} (hO : OrcOk P O) {K : Nat} {f : FuncId} {v : Value} {st' : St} (h : call0 P O K f = .ok v st') (w : World) :
    Calls P f #[] w fun e w' => ∃ σ' v', e = .returned v' ∧ VR σ' v v' ∧ Rel σ' st' w' ∧ w.heap.size ≤ w'.heap.size ∧ (∀ b, b < w.heap.size → w'.heap[b]? = w.heap[b]?) ∧
      (∀ b, Own σ' st' b → w.heap.size ≤ b) ∧ w'.tape = w.tape ∧ w'.os = w.os ∧ w'.output = w.output := by
  have := calls_top hm hO h (Rel.start w) (args' := []) .nil
  intro cs
  obtain ⟨e, w', fr, ⟨σ', v', h1, h2, h3, h4⟩, rest⟩ := this cs
  have hno : ∀ b, ¬ Own (fun _ => none) ⟨heap0, 0⟩ b := fun b ⟨x, k, _, hk, _⟩ => by cases hk
  refine ⟨e, w', fr, ⟨σ', v', h1, h2, h3, h4.size, fun b hb => h4.kept b hb (hno b), fun b hb => ?_, h4.tape, h4.os, h4.output⟩, rest⟩
  rcases Nat.lt_or_ge b w.heap.size with h | h
  · exact absurd (h4.own b h hb) (hno b)
  · exact h

/-- A call that returns a truth value. -/
noncomputable def isTrue (r : Re) : Bool := Re.rec false (fun v _ => isBool v true) r

theorem call0_true (hm : P.follows .mixedOrders = true) {O : Orc} (hO : OrcOk P O) {K : Nat} {f : FuncId} (h : isTrue (call0 P O K f) = true) (w : World) :
    Calls P f #[] w fun e w' => e = .returned (.bool true) ∧ w.heap.size ≤ w'.heap.size ∧ (∀ b, b < w.heap.size → w'.heap[b]? = w.heap[b]?) ∧ w'.tape = w.tape ∧ w'.os = w.os ∧ w'.output = w.output := by
  cases hc : call0 P O K f with
  | no => rw [hc] at h; cases h
  | ok v st' =>
    rw [hc] at h
    have hv := isBool_iff.1 (show isBool v true = true from h)
    subst hv
    intro cs
    obtain ⟨e, w', fr, ⟨σ', v', h1, h2, h3, h4, h5, h6, h7, h8, h9⟩, rest⟩ := call0_top hm hO hc w cs
    have := bool_inv h2
    subst this
    exact ⟨e, w', fr, ⟨h1, h4, h5, h7, h8, h9⟩, rest⟩
end
end Go.Proofs.YtieclenlldjfjaaGreat.Ev
