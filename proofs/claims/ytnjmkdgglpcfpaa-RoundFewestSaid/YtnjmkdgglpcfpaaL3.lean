import Derived.Test.YtnjmkdgglpcfpaaL1
import Derived.Test.YtnjmkdgglpcfpaaC12
import Derived.Deep.SlicePairs
/- From a claim's input to a walk's: a round that is read as data. -/
namespace Go.Proofs.Ytnjmkdgglpcfpaa
set_option linter.unusedSimpArgs false
set_option linter.unusedVariables false
open Go.ChangeShapes Go.WideShapes Go.ChangeAt Go.RowKit Go.Deep

theorem k_cells54 : Try.prog.cellsOf 54 = 1 := by kernel_rfl
theorem k_cells56 : Try.prog.cellsOf 56 = 2 := by kernel_rfl
theorem k_cells104 : Try.prog.cellsOf 104 = 2 := by kernel_rfl
theorem addr_pair (a : Addr) (i : Nat) : a.add (i * 2 + 1) = ⟨(a.add (i * 2)).block, (a.add (i * 2)).off + 1, none⟩ := by
  unfold Addr.add
  by_cases h : i * 2 = 0
  · rw [if_neg (by omega), if_pos h, h]
  · rw [if_neg (by omega), if_neg h]
    simp [Nat.add_assoc]
section
variable {H : Type} {enc : TypeId × Value → H} {W : World} {base : Nat}
set_option maxRecDepth 100000 in
/-- a slice of cuts that is read as data -/
theorem cuts_opens {fuel : Nat} {v : Value} {x : DataW H × List MemPlace} (h : DataW.trod enc Try.prog W 0 (fun _ => true) true fuel 54 [v] = some x) :
    ∃ (G : Option Addr) (gap : Nat) (cuts : List (Int × List Int)), v = .slice G cuts.length gap ∧ cuts.length ≤ gap ∧ gap ≤ maxLen ∧ CutsC W W.heap.size G cuts ∧ ∀ c ∈ cuts, c.2.length ≤ maxLen := by
  rcases open_slice_pairs Try.underlying54 Try.underlying104 k_cells104 rfl rfl k_cells3 k_cells22 h with ⟨hcs, hx⟩ | ⟨a, len, cap, m, n, V0, V1, D0, D1, P0, P1, hcs, _, hl, hm, hmm, hx, each⟩
  · exact ⟨none, 0, [], by simpa using hcs, by simp, by simp [maxLen], CutsC.nil, by simp⟩
  · have hlm : len ≤ m := by rw [hmm]; simpa using hl
    have key : ∀ i : Nat, ∃ c : Int × List Int, i < len → ∃ E ecap, W.cell? (a.add (i * 2)) = some (.int .i64 c.1) ∧ W.cell? (a.add (i * 2 + 1)) = some (.slice E c.2.length ecap) ∧ c.2.length ≤ ecap ∧ ecap ≤ maxLen ∧ Ints W W.heap.size E c.2 := by
      intro i
      by_cases hi : i < len
      · obtain ⟨h1, h2, h3, h4⟩ := each i (by omega)
        obtain ⟨z, e1, _, _⟩ := DataW.trod_int Try.underlying3 h3
        obtain ⟨E, ecap, l, e2, q1, q2, q3⟩ := ints_opens h4
        refine ⟨(z, l), fun _ => ⟨E, ecap, ?_, ?_, q1, q2, q3⟩⟩
        · rw [h1]
          simpa using e1
        · rw [h2, e2]
      · exact ⟨(0, []), fun h => absurd h hi⟩
    obtain ⟨f, hf⟩ := Classical.axiomOfChoice key
    have hlen : ((List.range len).map f).length = len := by simp
    refine ⟨some a, cap, (List.range len).map f, by rw [hlen]; simpa using hcs, by rw [hlen]; exact hl, hm, fun k c hk => ?_, fun c hc => ?_⟩
    · have hk2 : k < len := by have := (List.getElem?_eq_some_iff.1 hk).1; rwa [hlen] at this
      have hck : c = f k := by
        rw [List.getElem?_map, List.getElem?_range hk2] at hk
        simpa using hk.symm
      subst hck
      obtain ⟨E, ecap, h1, h2, h3, h4, h5⟩ := hf k hk2
      refine ⟨a, E, ecap, rfl, ?_, h1, by rw [← addr_pair]; exact h2, h5, h3, h4⟩
      have hb := World.block_lt_of_cell? W _ h1
      rwa [addr_block] at hb
    · obtain ⟨k, hk, rfl⟩ := List.mem_map.1 hc
      obtain ⟨E, ecap, _, _, h3, h4, _⟩ := hf k (List.mem_range.1 hk)
      exact Nat.le_trans h3 h4
set_option maxRecDepth 100000 in
/-- a round that is read as data -/
theorem round_opens {v : Value} {d : DataW H} {p : List MemPlace} (hv : Value.okWide Try.prog W .any base 56 v) (h : DataW.Trod enc Try.prog W 0 (fun _ => true) true 56 v d p) :
    ∃ (E : Option Addr) (eap : Nat) (st : List Int) (G : Option Addr) (gap : Nat) (cuts : List (Int × List Int)), v = .agg #[.slice E st.length eap, .slice G cuts.length gap] ∧ st.length ≤ maxLen ∧ cuts.length ≤ maxLen ∧ Ints W W.heap.size E st ∧ CutsC W W.heap.size G cuts ∧ ∀ c ∈ cuts, c.2.length ≤ maxLen := by
  obtain ⟨cs, rfl, hsz⟩ := okWide_struct Try.underlying56 hv
  obtain ⟨l⟩ := cs
  have hl : l.length = 2 := hsz.trans k_cells56
  match l, hl with
  | [a, b], _ =>
    obtain ⟨fuel, hf⟩ := h
    obtain ⟨xs, n, _, hx, _, hlen, hg⟩ := DataW.trod_struct Try.underlying56 hf
    match xs, hlen with
    | [x0, x1], _ =>
      have g0 : DataW.trod enc Try.prog W 0 (fun _ => true) true n 22 [a] = some x0 := by have := hg 0 _ rfl; simpa [k_cells22, Value.cells] using this
      have g1 : DataW.trod enc Try.prog W 0 (fun _ => true) true n 54 [b] = some x1 := by have := hg 1 _ rfl; simpa [k_cells54, Value.cells] using this
      obtain ⟨E, eap, st, rfl, q1, q2, q3⟩ := ints_opens g0
      obtain ⟨G, gap, cuts, rfl, r1, r2, r3, r4⟩ := cuts_opens g1
      exact ⟨E, eap, st, G, gap, cuts, rfl, Nat.le_trans q1 q2, Nat.le_trans r1 r2, q3, r3, r4⟩
end
end Go.Proofs.Ytnjmkdgglpcfpaa
