/-
RoundTurns returns true for every house, every beginning, every list of stands and every turning: out of its bounds sanity alone is asked; within them the gaps, the length of the shortest turning and what CheckTurn says are the same on both sides.
-/
import Derived.Test.YtnjmkdgglpcfpaaD7
import Derived.Test.YtnjmkdgglpcfpaaL1
import Derived.Carry
namespace Go.Proofs.Ytnjmkdgglpcfpaa
set_option linter.unusedSimpArgs false
set_option linter.unusedVariables false
open Go.ChangeShapes Go.WideShapes Go.ChangeAt Go.RowKit

theorem k_cells67 : Try.prog.cellsOf 67 = 2 := by kernel_rfl
set_option maxRecDepth 100000 in
/-- a turning that is read as data -/
theorem turning_opens {H : Type} {enc : TypeId × Value → H} {W : World} {base : Nat} {v : Value} {d : DataW H} {p : List MemPlace} (hv : Value.okWide Try.prog W .any base 67 v) (h : DataW.Trod enc Try.prog W 0 (fun _ => true) true 67 v d p) :
    ∃ (TA : Option Addr) (tap : Nat) (turns : List Int) (len : Int), v = .agg #[.slice TA turns.length tap, .int .i64 len] ∧ turns.length ≤ tap ∧ tap ≤ maxLen ∧ Ints W W.heap.size TA turns := by
  obtain ⟨cs, rfl, hsz⟩ := okWide_struct Try.underlying67 hv
  obtain ⟨l⟩ := cs
  have hl : l.length = 2 := hsz.trans k_cells67
  match l, hl with
  | [a, b], _ =>
    obtain ⟨fuel, hf⟩ := h
    obtain ⟨xs, n, _, hx, _, hlen, hg⟩ := DataW.trod_struct Try.underlying67 hf
    match xs, hlen with
    | [x0, x1], _ =>
      have g0 : DataW.trod enc Try.prog W 0 (fun _ => true) true n 22 [a] = some x0 := by have := hg 0 _ rfl; simpa [k_cells22, Value.cells] using this
      have g1 : DataW.trod enc Try.prog W 0 (fun _ => true) true n 3 [b] = some x1 := by have := hg 1 _ rfl; simpa [k_cells3, Value.cells] using this
      obtain ⟨TA, tap, turns, rfl, q1, q2, q3⟩ := ints_opens g0
      obtain ⟨len, e1, _, _⟩ := DataW.trod_int Try.underlying3 g1
      cases e1
      exact ⟨TA, tap, turns, len, rfl, q1, q2, q3⟩

set_option maxRecDepth 100000 in
theorem law7_lifted (os : Os) (started : os.Started) (H : Type) (enc : TypeId × Value → H) :
    ReturnsInHanded {} Try.checked os 7 .any (Rows.roundTurnsSpec.pre6 enc Try.prog Try.f7 Rows.roundTurnsRow.domain false) (Rows.roundTurnsSpec.post enc Try.prog Try.f7 false true false false) := by
  refine returnsInHanded_of_change (C := Try.checked) k_own started (by kernel_rfl) Try.func7
    (ChangeSpec.witness6 (enc := enc) (C := Try.checked) false ⟨#[], #[.agg #[.int .i64 0, .int .i64 0, .int .i64 0, .int .i64 0, .slice none 0 0], .int .i64 0, .slice none 0 0, .agg #[.slice none 0 0, .int .i64 0]], []⟩ 8 (by kernel_rfl) (by kernel_rfl) (by kernel_rfl) (by kernel_rfl)) ?_
  intro W base args ds gs before hval0 hW _ _
  have hval : ∀ (j : Nat) t v, Try.f7.params[j]? = some t → args[j]? = some v → Value.okWide Try.prog W .any base t v := hval0
  have hW' := hW
  obtain ⟨p, q, hA0, hV, rfl, _, _⟩ := hW
  have hA : DataW.TrodAll enc Try.prog W 0 (fun _ => true) true Try.f7.params.toList args.toList ds p := hA0
  have hps : Try.f7.params = #[24, 3, 22, 67] := by kernel_rfl
  have hrs : Try.f7.resultTypes = #[4] := by kernel_rfl
  rw [hps] at hA hval
  obtain ⟨v0, v1, v2, v3, d0, d1, d2, d3, p0, p1, p2, p3, rfl, rfl, rfl, h0, h1, h2, h3⟩ := trodAll_four hA
  obtain ⟨rfl, rfl⟩ := trodVars_none hV
  obtain ⟨C, R, B, F, A, cap, cl, rfl, q1, q2, q3, q4⟩ := house_opens (hval 0 24 v0 rfl rfl) h0
  obtain ⟨b, rfl, rfl, rfl, wn1⟩ := open_int Try.underlying3 (hval 1 3 v1 rfl rfl) h1
  have hn1 : -9223372036854775808 ≤ b ∧ b ≤ 9223372036854775807 := by
    have h2 : IntKind.i64.min ≤ b ∧ b ≤ IntKind.i64.max := by simpa [Lit.wf] using wn1
    exact ⟨Int.le_trans (by decide) h2.1, Int.le_trans h2.2 (by decide)⟩
  obtain ⟨D, dap, l, rfl, s21, s22, s23⟩ := slice_opens (hval 2 22 v2 rfl rfl) h2
  obtain ⟨TA, tap, turns, len, rfl, s31, s32, s33⟩ := turning_opens (hval 3 67 v3 rfl rfl) h3
  simp only [List.append_nil] at hW'
  have hlt : ∀ x ∈ p0 ++ p2 ++ p3, x.block < W.heap.size := fun x hx => hW'.lt x (by simpa using hx)
  have hlt0 : ∀ x ∈ p0, x.block < W.heap.size := fun x hx => hlt x (by simp [hx])
  have hlt2 : ∀ x ∈ p2, x.block < W.heap.size := fun x hx => hlt x (by simp [hx])
  have hlt3 : ∀ x ∈ p3, x.block < W.heap.size := fun x hx => hlt x (by simp [hx])
  clear hA0 hval0
  refine (turnsLaw_any C R B F A cap cl b D dap l TA tap turns len W q4 (Nat.le_trans q1 q2) (Nat.le_trans s21 s22) (Nat.le_trans s31 s32) q3 s23 s33).mono fun e W' ⟨he, hnx⟩ => ?_
  subst he
  refine ⟨_, rfl, _, _, _, [], p0 ++ ([] ++ (p2 ++ (p3))), [], hW', ?_, ?_, rfl, hnx.frame _, fun h => by cases h⟩
  · rw [hrs]
    exact trodAll_mk1 (k_bool true)
  · rw [hps]
    exact trodAll_mk4 (Below.trod k_laid (by kernel_rfl) (of_decide_eq_true (by kernel_rfl)) h0 hnx hlt0) (Below.trod k_laid (by kernel_rfl) (of_decide_eq_true (by kernel_rfl)) h1 hnx (by simp)) (Below.trod k_laid (by kernel_rfl) (of_decide_eq_true (by kernel_rfl)) h2 hnx hlt2) (Below.trod k_laid (by kernel_rfl) (of_decide_eq_true (by kernel_rfl)) h3 hnx hlt3)

theorem roundTurns_holds : Rows.RoundTurnsSaid :=
  OpenClaim.holds_of_wide 7 Try.f7 rfl rfl rfl rfl rfl rfl rfl ⟨rfl, rfl, rfl, rfl, rfl⟩ rfl rfl rfl rfl rfl (by kernel_rfl) Try.func7 (by kernel_rfl)
    (of_decide_eq_true (by kernel_rfl)) (by unfold Func.isWrapper; first | (rw [if_pos (by decide +kernel)]; kernel_rfl) | (rw [if_neg (by decide +kernel)]; exact ⟨rfl, rfl⟩))
    (fun os started H enc _ => law7_lifted os started H enc)

end Go.Proofs.Ytnjmkdgglpcfpaa
