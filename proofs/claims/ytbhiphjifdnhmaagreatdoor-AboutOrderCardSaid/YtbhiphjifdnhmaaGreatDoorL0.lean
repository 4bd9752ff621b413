import Derived.Test.YtbhiphjifdnhmaaGreatDoorTie
import Derived.Test.YtbhiphjifdnhmaaGreatDoorCards
import Derived.Test.YtbhiphjifdnhmaaGreatDoorM4
import Derived.WalkKit
import Derived.ProofKit
import Derived.ReadAgain
import Derived.RowKitTokens
import Derived.JoinedFifth
import Derived.Below
import Derived.ChangeSlices
import Derived.Deep.Fields23
import Derived.Carry
import Derived.LaidMore
import Derived.OpenShut
import Derived.Stop.Joined
/- From a claim's input to a walk's: vague days, spans and verdicts that are read as data; the listed variable; what a law that answers true leaves behind. -/
namespace Go.Proofs.YtbhiphjifdnhmaaGreatDoor
open Go.ChangeShapes Go.WideShapes Go.ChangeAt Go.RowKit

theorem k_own : ownKnob Tryz.prog.godebug = none := by kernel_rfl
theorem k_laid : laidOutB Tryz.prog = true := by kernel_rfl
theorem k_cells26 : Tryz.prog.cellsOf 26 = 24 := by kernel_rfl
theorem k_cells24 : Tryz.prog.cellsOf 24 = 24 := by kernel_rfl
theorem k_cells23 : Tryz.prog.cellsOf 23 = 2 := by kernel_rfl
theorem k_cells3 : Tryz.prog.cellsOf 3 = 1 := by kernel_rfl
theorem door_met (os : Os) (args : Array Value) : laidMetH Tryz.prog [("potence/about.errRing", Rows.laid_potence_about_errRing)] ((World.doorLaid Tryz.prog 28 os).forCall (fun _ _ => 0) ⟨#[], args, []⟩).memory :=
  laidMetH_of_parts3 (fuel := 8) (laidMet_of_run' 8 (by kernel_rfl) (by kernel_rfl)) (by kernel_rfl) (by kernel_rfl)
theorem take_two {l : List Value} {k : Nat} {u v : Value} (h : (l.drop k).take 2 = [u, v]) : l[k]? = some u ∧ l[k + 1]? = some v := by
  have h0 := congrArg (fun x : List Value => x[0]?) h
  have h1 := congrArg (fun x : List Value => x[1]?) h
  simp [List.getElem?_drop] at h0 h1
  exact ⟨h0, h1⟩
section
variable {H : Type} {enc : TypeId × Value → H} {W : World} {base : Nat}
theorem k_bool {W' : World} {b : Nat} {sp : Nat → Bool} {held : Bool} (c : Bool) : DataW.Trod enc Tryz.prog W' b sp held 4 (.bool c) (.lit (.bool c)) [] := ⟨1, by simp [DataW.trod, Value.cells, Tryz.underlying4]⟩
set_option maxRecDepth 100000 in
/-- a span that is read as data -/
theorem two_ints {n : Nat} {cs : List Value} {x : DataW H × List MemPlace} (h : DataW.trod enc Tryz.prog W 0 (fun _ => true) true n 23 cs = some x) : ∃ p q : Int, cs = [.int .i64 p, .int .i64 q] := by
  obtain ⟨xs, n, _, hx, hl, hlen, hg⟩ := DataW.trod_struct Tryz.underlying23 h
  rw [k_cells23] at hl
  match cs, hl with
  | [a, b], _ =>
    match xs, hlen with
    | [x0, x1], _ =>
      have g0 : DataW.trod enc Tryz.prog W 0 (fun _ => true) true n 3 [a] = some x0 := by have := hg 0 _ rfl; simpa [k_cells3, Value.cells] using this
      have g1 : DataW.trod enc Tryz.prog W 0 (fun _ => true) true n 3 [b] = some x1 := by have := hg 1 _ rfl; simpa [k_cells3, Value.cells] using this
      obtain ⟨p, e0, _, _⟩ := DataW.trod_int Tryz.underlying3 g0
      obtain ⟨q, e1, _, _⟩ := DataW.trod_int Tryz.underlying3 g1
      cases e0; cases e1
      exact ⟨p, q, rfl⟩
set_option maxRecDepth 100000 in
theorem span_opens {v : Value} {d : DataW H} {p : List MemPlace} (hv : Value.okWide Tryz.prog W .any base 23 v) (h : DataW.Trod enc Tryz.prog W 0 (fun _ => true) true 23 v d p) :
    ∃ lo hi : Int, v = .agg #[.int .i64 lo, .int .i64 hi] := by
  obtain ⟨cs, rfl, hsz⟩ := okWide_struct Tryz.underlying23 hv
  obtain ⟨fuel, hf⟩ := h
  obtain ⟨lo, hi, e⟩ := two_ints (cs := cs.toList) hf
  exact ⟨lo, hi, by cases cs; simp_all⟩
set_option maxRecDepth 100000 in
/-- a vague day that is read as data -/
theorem vague_opens {v : Value} {d : DataW H} {p : List MemPlace} (hv : Value.okWide Tryz.prog W .any base 26 v) (h : DataW.Trod enc Tryz.prog W 0 (fun _ => true) true 26 v d p) :
    ∃ a : Nat → Int, v = .agg (va a) := by
  obtain ⟨cs, rfl, hsz⟩ := okWide_struct Tryz.underlying26 hv
  rw [k_cells26] at hsz
  obtain ⟨fuel, hf⟩ := h
  obtain ⟨xs, n, _, hx, _, hlen, hg⟩ := DataW.trod_struct Tryz.underlying26 hf
  match xs, hlen with
  | [x0], _ =>
    have g0 : DataW.trod enc Tryz.prog W 0 (fun _ => true) true n 24 cs.toList = some x0 := by
      have h0 := hg 0 _ rfl
      have hc : (cs.toList.drop 0).take (Tryz.prog.cellsOf 24) = cs.toList := by
        rw [k_cells24, List.drop_zero, List.take_of_length_le (by simp; omega)]
      exact (congrArg _ hc).symm.trans h0
    obtain ⟨ys, m, _, _, _, hn, hel⟩ := DataW.trod_array Tryz.underlying24 g0
    have key : ∀ i, i < 12 → ∃ p q : Int, cs.toList[i * 2]? = some (.int .i64 p) ∧ cs.toList[i * 2 + 1]? = some (.int .i64 q) := fun i hi => by
      have h1 := hel i hi
      rw [k_cells23, List.getElem?_eq_getElem (show i < ys.length by omega)] at h1
      obtain ⟨p, q, e⟩ := two_ints h1
      exact ⟨p, q, take_two e⟩
    refine ⟨fun j => match cs[j]? with | some (.int .i64 x) => x | _ => 0, ?_⟩
    congr 1
    apply Array.ext_getElem?
    intro j
    by_cases hj : j < 24
    · rw [va_get _ _ hj]
      obtain ⟨p, q, e0, e1⟩ := key (j / 2) (by omega)
      rcases Nat.mod_two_eq_zero_or_one j with e | e
      · rw [show j / 2 * 2 = j by omega, Array.getElem?_toList] at e0
        simp only [e0]
      · rw [show j / 2 * 2 + 1 = j by omega, Array.getElem?_toList] at e1
        simp only [e1]
    · rw [va_past _ _ (by omega)]
      simp; omega
end
end Go.Proofs.YtbhiphjifdnhmaaGreatDoor
