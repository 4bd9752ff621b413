import Derived.Test.YtieclenlldjfjaaGreatP3
import Derived.Test.YtieclenlldjfjaaGreatP2
set_option linter.unusedSimpArgs false
set_option linter.unusedVariables false
/- Arrays of all symbols; two of them compared. -/
namespace Go.Proofs.YtieclenlldjfjaaGreat
open Go.RowKit

section
variable {P : Program} (w : World)
/-- the equality of two arrays of numbers -/
theorem run_equalIn_nums (d n : Nat) (t e : TypeId) (ht : P.underlying t = some (.array n e)) (hsz : ∀ w, (Go.sizeOf e).run P w = .ok 1 w) (hagg : ∀ w, (isAgg e).run P w = .ok false w)
    (heq : ∀ (w : World) (x y : Int), (Op.equalIn d e (.int .i64 x) (.int .i64 y)).run P w = .ok (x == y) w) (a b : List Int) (ha : a.length = n) (hb : b.length = n) :
    (Op.equalIn (d + 1) t (.agg (nums a)) (.agg (nums b))).run P w = .ok (decide (a = b)) w := by
  have px : ∀ (a : List Int) (i : Nat) (hi : i < a.length) (w : World), (part e (nums a) (i * 1)).run P w = .ok (.int .i64 a[i]) w := fun a i hi w => by
    have : (nums a)[i]? = some (.int .i64 a[i]) := nums_get hi
    have h2 : (nums a)[i]'(by rw [nums_size]; exact hi) = .int .i64 a[i] := by
      have := Array.getElem?_eq_some_iff.1 this
      exact this.2
    simp [part, hagg, hsz, this]
  have key : decide (a = b) = (List.range' 0 n 1).all fun i => a.getD i 0 == b.getD i 0 := by
    have : (a = b) ↔ ((List.range' 0 n 1).all fun i => a.getD i 0 == b.getD i 0) = true := by
      rw [List.all_eq_true]
      constructor
      · rintro rfl i _; simp
      · intro h
        apply List.ext_getElem (by omega)
        intro i h1 h2
        have := h i (by simp; omega)
        simpa [List.getD_eq_getElem?_getD, h1, h2] using this
    by_cases h : a = b
    · rw [decide_eq_true h, this.1 h]
    · rw [decide_eq_false h]
      cases hh : (List.range' 0 n 1).all fun i => a.getD i 0 == b.getD i 0 with
      | true => exact absurd (this.2 hh) h
      | false => rfl
  rw [key]
  rw [Op.equalIn]
  simp only [Sem.run_bind, run_underlying ht, Result.andThen_ok, hsz, Std.Legacy.Range.forIn_eq_forIn_range', Std.Legacy.Range.size, Nat.sub_zero, Nat.add_sub_cancel, Nat.div_one]
  have hl : ∀ i ∈ List.range' 0 n 1, i < n := fun i hi => by simpa using (List.mem_range'_1.1 hi).2
  generalize List.range' 0 n 1 = l at hl ⊢
  clear key
  induction l with
  | nil => simp
  | cons i l ih =>
    have hi : i < n := hl i (by simp)
    have g1 : a.getD i 0 = a[i]'(by omega) := by rw [List.getD_eq_getElem?_getD, List.getElem?_eq_getElem (by omega)]; rfl
    have g2 : b.getD i 0 = b[i]'(by omega) := by rw [List.getD_eq_getElem?_getD, List.getElem?_eq_getElem (by omega)]; rfl
    simp only [List.forIn_cons, Sem.run_bind, px a i (by omega), px b i (by omega), heq, Result.andThen_ok, List.all_cons, g1, g2]
    cases hb : (a[i]'(by omega) == b[i]'(by omega))
    · simp
    · simp only [Bool.not_true, Bool.false_eq_true, if_false, Sem.run_pure, Result.andThen_ok, Bool.true_and]
      exact ih fun j hj => hl j (by simp [hj])
end
theorem eq_counts (d : Nat) (w : World) (a b : List Int) (ha : a.length = 13) (hb : b.length = 13) : (Op.equalIn (d + 2) 111 (.agg (nums a)) (.agg (nums b))).run Tryz.prog w = .ok (decide (a = b)) w := by
  have hs : (Tryz.prog.info? 3).map (·.size) = some 1 := by kernel_rfl
  refine run_equalIn_nums w (d + 1) 13 111 3 Tryz.underlying111 (fun w => ?_) (fun w => by simp [isAgg, run_underlying Tryz.underlying3]) (fun w x y => run_equalIn_int w d 3 .i64 .i64 x y Tryz.underlying3) a b ha hb
  cases hi : Tryz.prog.info? 3 with
  | none => rw [hi] at hs; cases hs
  | some i =>
    rw [hi] at hs
    simp at hs
    simp [Go.sizeOf, typeInfo, hi, hs]
end Go.Proofs.YtieclenlldjfjaaGreat
