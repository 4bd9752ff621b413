import Derived.Test.YtieclenlldjfjaaGreatM3
import Derived.Test.YtieclenlldjfjaaGreatP5
set_option linter.unusedSimpArgs false
set_option linter.unusedVariables false
/- Plain mathematics: the program's array of flags, and the reference's list. -/
namespace Go.Proofs.YtieclenlldjfjaaGreat
open Go.RowKit

/-- the array for a list of N flags -/
def bOf (N : Nat) (V : List Bool) : List Bool := false :: (V ++ List.replicate (12 - N) false)
theorem bOf_len {N : Nat} {V : List Bool} (h : V.length = N) (hN : N ≤ 12) : (bOf N V).length = 13 := by simp [bOf, h]; omega
theorem bOf_get {N : Nat} {V : List Bool} {s : Nat} (hs : s < V.length) : (bOf N V)[s + 1]? = some V[s] := by
  unfold bOf
  rw [List.getElem?_cons_succ, List.getElem?_append_left hs, List.getElem?_eq_getElem hs]
theorem bOf_set {N : Nat} {V : List Bool} {s : Nat} {b : Bool} (hs : s < V.length) : (bOf N V).set (s + 1) b = bOf N (V.set s b) := by
  unfold bOf
  rw [List.set_cons_succ, List.set_append_left _ _ hs]
theorem bOf_inj {N : Nat} {V W : List Bool} (h1 : V.length = N) (h2 : W.length = N) (h : bOf N V = bOf N W) : V = W := by
  apply List.ext_getElem (by rw [h1, h2])
  intro i g1 g2
  have e1 := bOf_get (N := N) g1
  have e2 := bOf_get (N := N) g2
  rw [h, e2] at e1
  injection e1 with e1
  exact e1.symm
theorem bOf_start (N : Nat) (hN : N ≤ 12) : bOf N (List.replicate N false) = List.replicate 13 false := by
  unfold bOf
  rw [List.replicate_append_replicate, show N + (12 - N) = 12 by omega]
  rfl
theorem open_app (a b : List Bool) : open_ (a ++ b) = open_ a + open_ b := by simp [open_]
theorem bOf_open (N : Nat) (V : List Bool) : open_ (bOf N V) = 1 + open_ V + (12 - N) := by
  unfold bOf
  rw [show (false :: (V ++ List.replicate (12 - N) false)) = [false] ++ (V ++ List.replicate (12 - N) false) from rfl, open_app, open_app]
  have : open_ (List.replicate (12 - N) false) = 12 - N := by simp [open_]
  rw [this]
  simp [open_]; omega
theorem bOf_use0 {N : Nat} {X : List Int} {s0 : Nat} (hN : N ≤ 12) (hX : StOk N X) (hs : s0 < N) :
    ∃ u : Int, (cOf N X)[s0 + 1]? = some u ∧ (List.replicate 13 false).set (s0 + 1) (decide (u < 1125899906842624)) = bOf N (use0 N X ((s0 : Int) + 1)) := by
  have hsl : s0 < X.length := by rw [hX.len]; exact hs
  refine ⟨up X[s0], cOf_get hsl, ?_⟩
  rw [← bOf_start N hN, bOf_set (by simpa using hs)]
  unfold use0
  rw [show ((s0 : Int) + 1 - 1).toNat = s0 by omega, List.getD_eq_getElem?_getD, List.getElem?_eq_getElem hsl]
  have hb := hX.le hN (List.getElem_mem hsl)
  have : decide (up X[s0] < 1125899906842624) = decide (0 ≤ (some X[s0]).getD (-1)) := by
    apply decide_eq_decide.2
    show up X[s0] < _ ↔ 0 ≤ X[s0]
    unfold up
    split <;> omega
  rw [this]
theorem none_iff {N : Nat} {X : List Int} (hN : N ≤ 12) (hX : StOk N X) {m : Mkg} (hm : Fit N m) : (strokesC (cOf N X) m.items == 1125899906842624) = !(okL X m.items) := by
  rw [strokes_c hN hX hm]
  have hb := sum_bound hX hN m.items
  have hl := hm.2.2.1
  cases h : okL X m.items with
  | true =>
    rw [if_pos rfl]
    exact beq_eq_false_iff_ne.2 (by omega)
  | false => rw [if_neg (by simp)]; rfl
theorem useM_bit {X : List Int} {V : List Bool} {m : Mkg} {b o : Bool} (hb : V.getD (m.sym - 1).toNat false = b) (ho : okL X m.items = o) (h : b = false ∨ o = false) : useM X V m = V := by
  unfold useM
  rw [hb, ho]
  rcases h with rfl | rfl <;> simp
theorem useM_bits {X : List Int} {V : List Bool} {m : Mkg} (hb : V.getD (m.sym - 1).toNat false = true) (ho : okL X m.items = true) : useM X V m = m.items.foldl mark V := by
  unfold useM
  rw [if_pos ⟨hb, ho⟩]
theorem flags_size (l : List Bool) : (flags l).size = l.length := by simp [flags]
theorem flags_one (l : List Bool) : (flags l).all (·.oneCell') = true := by
  rw [Array.all_eq_true]
  intro i hi
  simp [flags, Value.oneCell']
theorem info106 (c : List Bool) (h : c.length = 13) : (Tryz.prog.info? 106).map (·.size) = some (flags c).size := by
  rw [flags_size, h]
  kernel_rfl
theorem guard106 : Tryz.prog.eqGuardType Tryz.prog.depth 106 = false := by kernel_rfl
theorem ta4 (v : Value) (w : World) : (Instr.typeAssert (.iface 213 v) 200 195 true).run Tryz.prog w = .ok (.tuple #[.int .i64 0, .bool false]) w := by
  have h : (Tryz.prog.info? 195).map (fun i => (i.zero)) = some (some (.int .i64 0)) := by kernel_rfl
  cases hi : Tryz.prog.info? 195 with
  | none => rw [hi] at h; cases h
  | some i =>
    rw [hi] at h
    simp at h
    simp [Instr.typeAssert, run_underlying Tryz.underlying195, zeroValue, typeInfo, hi, h]
end Go.Proofs.YtieclenlldjfjaaGreat
