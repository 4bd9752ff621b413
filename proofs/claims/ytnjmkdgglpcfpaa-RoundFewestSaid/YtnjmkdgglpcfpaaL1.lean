import Derived.Test.YtnjmkdgglpcfpaaRows
import Derived.Test.YtnjmkdgglpcfpaaWd
import Derived.WalkKit
import Derived.ProofKit
import Derived.ReadAgain
import Derived.RowKitTokens
import Derived.JoinedFifth
import Derived.Below
import Derived.ChangeSlices
import Derived.Deep.Fields23
/- From a claim's input to a walk's: a house that is read as data, numbers, and what a law that answers true leaves behind. -/
namespace Go.Proofs.Ytnjmkdgglpcfpaa
open Go.ChangeShapes Go.WideShapes Go.ChangeAt Go.RowKit

theorem k_own : ownKnob Try.prog.godebug = none := by kernel_rfl
theorem k_laid : laidOutB Try.prog = true := by kernel_rfl
theorem k_cells24 : Try.prog.cellsOf 24 = 5 := by kernel_rfl
theorem k_cells22 : Try.prog.cellsOf 22 = 1 := by kernel_rfl
theorem k_cells3 : Try.prog.cellsOf 3 = 1 := by kernel_rfl
theorem k_wf {x : Int} (h : (Lit.int .i64 x).wf = true) : -9223372036854775808 ≤ x ∧ x ≤ 9223372036854775807 := by
  have h2 : IntKind.i64.min ≤ x ∧ x ≤ IntKind.i64.max := by simpa [Lit.wf] using h
  exact ⟨Int.le_trans (by decide) h2.1, Int.le_trans h2.2 (by decide)⟩
section
variable {H : Type} {enc : TypeId × Value → H} {W : World} {base : Nat}
/-- a slice of numbers that is read as data -/
theorem ints_opens {fuel : Nat} {v : Value} {x : DataW H × List MemPlace} (h : DataW.trod enc Try.prog W 0 (fun _ => true) true fuel 22 [v] = some x) :
    ∃ (A : Option Addr) (cap : Nat) (l : List Int), v = .slice A l.length cap ∧ l.length ≤ cap ∧ cap ≤ maxLen ∧ Ints W W.heap.size A l := by
  rcases open_ints Try.underlying22 Try.underlying3 k_cells3 h with ⟨hcs, hx⟩ | ⟨a, len, cap, zs, hcs, _, hl, hm, hz, hx, hcell, _⟩
  · exact ⟨none, 0, [], by simpa using hcs, by simp, by simp [maxLen], Ints.nil⟩
  · have hz' : zs.length = cap := hz
    have e : (zs.take len).length = len := by rw [List.length_take]; omega
    refine ⟨some a, cap, zs.take len, by rw [e]; simpa using hcs, by rw [e]; exact hl, hm, fun k y hk => ?_⟩
    have hk2 : k < len := by have := (List.getElem?_eq_some_iff.1 hk).1; rw [e] at this; exact this
    have hc := hcell k (by omega)
    refine ⟨a, rfl, ?_, ?_⟩
    · have hb := World.block_lt_of_cell? W _ hc
      rwa [addr_block] at hb
    · rw [hc]
      rw [List.getElem?_take_of_lt hk2] at hk
      simp [List.getD, hk]
set_option maxRecDepth 100000 in
/-- a house that is read as data -/
theorem house_opens {v : Value} {d : DataW H} {p : List MemPlace} (hv : Value.okWide Try.prog W .any base 24 v) (h : DataW.Trod enc Try.prog W 0 (fun _ => true) true 24 v d p) :
    ∃ (C R B F : Int) (A : Option Addr) (cap : Nat) (cl : List Int), v = .agg #[.int .i64 C, .int .i64 R, .int .i64 B, .int .i64 F, .slice A cl.length cap] ∧ cl.length ≤ cap ∧ cap ≤ maxLen ∧ Ints W W.heap.size A cl ∧
      B ≤ 9223372036854775807 := by
  obtain ⟨cs, rfl, hsz⟩ := okWide_struct Try.underlying24 hv
  obtain ⟨l⟩ := cs
  have hl : l.length = 5 := hsz.trans k_cells24
  match l, hl with
  | [a, b, c, e, f], _ =>
    obtain ⟨fuel, hf⟩ := h
    obtain ⟨xs, n, _, hx, _, hlen, hg⟩ := DataW.trod_struct Try.underlying24 hf
    match xs, hlen with
    | [x0, x1, x2, x3, x4], _ =>
      have g0 : DataW.trod enc Try.prog W 0 (fun _ => true) true n 3 [a] = some x0 := by have := hg 0 _ rfl; simpa [k_cells3, Value.cells] using this
      have g1 : DataW.trod enc Try.prog W 0 (fun _ => true) true n 3 [b] = some x1 := by have := hg 1 _ rfl; simpa [k_cells3, Value.cells] using this
      have g2 : DataW.trod enc Try.prog W 0 (fun _ => true) true n 3 [c] = some x2 := by have := hg 2 _ rfl; simpa [k_cells3, Value.cells] using this
      have g3 : DataW.trod enc Try.prog W 0 (fun _ => true) true n 3 [e] = some x3 := by have := hg 3 _ rfl; simpa [k_cells3, Value.cells] using this
      have g4 : DataW.trod enc Try.prog W 0 (fun _ => true) true n 22 [f] = some x4 := by have := hg 4 _ rfl; simpa [k_cells22, Value.cells] using this
      obtain ⟨C, e0, _, _⟩ := DataW.trod_int Try.underlying3 g0
      obtain ⟨R, e1, _, _⟩ := DataW.trod_int Try.underlying3 g1
      obtain ⟨B, e2, _, w2⟩ := DataW.trod_int Try.underlying3 g2
      obtain ⟨F, e3, _, _⟩ := DataW.trod_int Try.underlying3 g3
      cases e0; cases e1; cases e2; cases e3
      obtain ⟨A, cap, cl, rfl, q1, q2, q3⟩ := ints_opens g4
      exact ⟨C, R, B, F, A, cap, cl, rfl, q1, q2, q3, (k_wf w2).2⟩
set_option maxRecDepth 100000 in
/-- an argument that is a slice of numbers -/
theorem slice_opens {v : Value} {d : DataW H} {p : List MemPlace} (hv : Value.okWide Try.prog W .any base 22 v) (h : DataW.Trod enc Try.prog W 0 (fun _ => true) true 22 v d p) :
    ∃ (A : Option Addr) (cap : Nat) (l : List Int), v = .slice A l.length cap ∧ l.length ≤ cap ∧ cap ≤ maxLen ∧ Ints W W.heap.size A l := by
  obtain ⟨a, n, c, rfl⟩ := okWide_slice Try.underlying22 hv
  obtain ⟨fu, hf⟩ := h
  have hf' : DataW.trod enc Try.prog W 0 (fun _ => true) true fu 22 [.slice a n c] = some (d, p) := hf
  exact ints_opens hf'
theorem k_bool {W' : World} {b : Nat} {sp : Nat → Bool} {held : Bool} (c : Bool) : DataW.Trod enc Try.prog W' b sp held 4 (.bool c) (.lit (.bool c)) [] := ⟨1, by simp [DataW.trod, Value.cells, Try.underlying4]⟩
end
end Go.Proofs.Ytnjmkdgglpcfpaa
