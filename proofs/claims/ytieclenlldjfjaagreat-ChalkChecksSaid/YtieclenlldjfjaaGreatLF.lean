import Derived.Test.YtieclenlldjfjaaGreatRows
import Derived.Test.YtieclenlldjfjaaGreatW
import Derived.WalkKit
import Derived.ProofKit
import Derived.ReadAgain
import Derived.RowKitTokens
import Derived.JoinedFifth
import Derived.Below
import Derived.ChangeSlices
import Derived.ChangeMaps5
import Derived.Deep.Fields23
set_option linter.unusedSimpArgs false
set_option linter.unusedVariables false
/- From a claim's input to a walk's: a mark and a text that are read as data. -/
namespace Go.Proofs.YtieclenlldjfjaaGreat
open Go.ChangeShapes Go.WideShapes Go.ChangeAt Go.RowKit

theorem k_own : ownKnob Tryz.prog.godebug = none := by kernel_rfl
theorem k_laid : laidOutB Tryz.prog = true := by kernel_rfl
theorem k_cells3 : Tryz.prog.cellsOf 3 = 1 := by kernel_rfl
section
variable {H : Type} {enc : TypeId × Value → H} {W : World} {base : Nat}
/-- a slice of numbers that is read as data -/
theorem ints_opens {fuel : Nat} {v : Value} {x : DataW H × List MemPlace} (h : DataW.trod enc Tryz.prog W 0 (fun _ => true) true fuel 25 [v] = some x) :
    ∃ (A : Option Addr) (cap : Nat) (l : List Int), v = .slice A l.length cap ∧ l.length ≤ cap ∧ cap ≤ maxLen ∧ Ints W W.heap.size A l := by
  rcases open_ints Tryz.underlying25 Tryz.underlying3 k_cells3 h with ⟨hcs, hx⟩ | ⟨a, len, cap, zs, hcs, _, hl, hm, hz, hx, hcell, _⟩
  · exact ⟨none, 0, [], by simpa using hcs, by simp, by simp [maxLen], Ints.nil⟩
  · have hz' : zs.length = cap := hz
    have e : (zs.take len).length = len := by rw [List.length_take]; omega
    refine ⟨some a, cap, zs.take len, by rw [e]; simpa using hcs, by rw [e]; exact hl, hm, fun k y hk => ?_⟩
    have hk2 : k < len := by have := (List.getElem?_eq_some_iff.1 hk).1; rw [e] at this; exact this
    have hc := hcell k (by omega)
    refine ⟨a, rfl, ?_, ?_⟩
    · have hb := World.block_lt_of_cell? W _ hc
      rwa [addr_block] at hb
    · rw [hc]
      rw [List.getElem?_take_of_lt hk2] at hk
      simp [List.getD, hk]
set_option maxRecDepth 100000 in
/-- an argument that is a slice of numbers -/
theorem slice_opens {v : Value} {d : DataW H} {p : List MemPlace} (hv : Value.okWide Tryz.prog W .any base 25 v) (h : DataW.Trod enc Tryz.prog W 0 (fun _ => true) true 25 v d p) :
    ∃ (A : Option Addr) (cap : Nat) (l : List Int), v = .slice A l.length cap ∧ l.length ≤ cap ∧ cap ≤ maxLen ∧ Ints W W.heap.size A l := by
  obtain ⟨a, n, c, rfl⟩ := okWide_slice Tryz.underlying25 hv
  obtain ⟨fu, hf⟩ := h
  have hf' : DataW.trod enc Tryz.prog W 0 (fun _ => true) true fu 25 [.slice a n c] = some (d, p) := hf
  exact ints_opens hf'
set_option maxRecDepth 100000 in
theorem text_opens {v : Value} {d : DataW H} {p : List MemPlace} (hv : Value.okWide Tryz.prog W .any base 9 v) (h : DataW.Trod enc Tryz.prog W 0 (fun _ => true) true 9 v d p) :
    ∃ s : ByteArray, v = .string s ∧ s.size ≤ maxLen := by
  obtain ⟨s, rfl⟩ := okWide_string Tryz.underlying9 hv
  obtain ⟨fuel, hf⟩ := h
  obtain ⟨s', e, _, hs⟩ := DataW.trod_string Tryz.underlying9 hf
  cases e
  exact ⟨s, rfl, hs⟩
theorem k_bool {W' : World} {b : Nat} {sp : Nat → Bool} {held : Bool} (c : Bool) : DataW.Trod enc Tryz.prog W' b sp held 4 (.bool c) (.lit (.bool c)) [] := ⟨1, by simp [DataW.trod, Value.cells, Tryz.underlying4]⟩
end
end Go.Proofs.YtieclenlldjfjaaGreat
