import Derived.Test.YtnjmkdgglpcfpaaC2
import Derived.Laws.OwnMore
namespace Go.Proofs.Ytnjmkdgglpcfpaa
set_option linter.unusedSimpArgs false
set_option linter.unusedVariables false
open Go.RowKit

set_option maxRecDepth 100000 in
theorem run_app_none {w : World} {base : Nat} {v : Value} {l : List Int} {c : Nat} (hown : w.ownsRow base 3 1 v l.length (l.map (Value.int .i64))) :
    (Builtin.append_ #[22, 22] 22 #[v, .slice none 0 c]).run Try.prog w = .ok v w := by
  obtain ⟨i0, hi, hz0, hz1, hz2⟩ := info_parts int_info
  rcases hown.2 with ⟨rfl, hn⟩ | ⟨g, cap, cur, rfl, _, _, hnc, _⟩
  · simp [Builtin.append_, run_underlying Try.underlying22, sizeOf, typeInfo, hi, Builtin.lenOf, Builtin.firstCells]
  · simp [Builtin.append_, run_underlying Try.underlying22, sizeOf, typeInfo, hi, Builtin.lenOf, Builtin.firstCells, hnc, storeCells]

set_option maxRecDepth 100000 in
/-- a whole list of numbers appended to a row of one's own -/
theorem run_appL {w : World} {base : Nat} {v : Value} {l m : List Int} {A : Option Addr} {c : Nat} {B : Nat} (hown : w.ownsRow base 3 1 v l.length (l.map (Value.int .i64))) (hm : Ints w B A m) (hl : l.length ≤ 1000000) (hml : m.length ≤ 1000000) (hbase : base ≤ w.heap.size) :
    ∃ A' c' w', (Builtin.append_ #[22, 22] 22 #[v, .slice A m.length c]).run Try.prog w = .ok (.slice A' (l ++ m).length c') w' ∧ w'.ownsRow base 3 1 (.slice A' (l ++ m).length c') (l ++ m).length ((l ++ m).map (Value.int .i64)) ∧ Below base w w' ∧ w.grownBy w' v.ownBlock := by
  obtain ⟨i0, hi, hz0, hz1, hz2⟩ := info_parts int_info
  have key : ∀ (ad : Addr), (∀ j u, (m.map (Value.int .i64))[j]? = some u → w.cell? (ad.add j) = some u) → ∃ A' c' w', (Builtin.append_ #[22, 22] 22 #[v, .slice (some ad) m.length c]).run Try.prog w = .ok (.slice A' (l ++ m).length c') w' ∧ w'.ownsRow base 3 1 (.slice A' (l ++ m).length c') (l ++ m).length ((l ++ m).map (Value.int .i64)) ∧ Below base w w' ∧ w.grownBy w' v.ownBlock := by
    intro ad hsrc
    obtain ⟨v', w', hr, h2, h3, h4⟩ := run_append_own (P := Try.prog) w base 22 22 3 i0 (.int .i64 0) 1 8 Try.underlying22 hi hz0 hz1 hz2 rfl (by decide) v l.length (l.map (Value.int .i64)) hown ad m.length c (m.map (Value.int .i64)) (by simp) hsrc (one_ints m) (by simp only [maxLen]; omega) (by omega) hbase
    have hb : Below base w w' := (Below.refl _ _).grown h3 hbase fun k hk => (hown.lt k hk).1
    rw [← List.map_append, show l.length + m.length = (l ++ m).length by simp] at h2
    obtain ⟨A', c', rfl, _, _⟩ := own_form h2
    exact ⟨A', c', w', hr, h2, hb, h3⟩
  cases A with
  | some ad =>
    by_cases h0 : m.length = 0
    · obtain rfl := List.eq_nil_of_length_eq_zero h0
      exact key ad (by simp)
    · obtain ⟨ad', hA, hsrc⟩ := hm.src (by omega)
      cases hA
      exact key ad hsrc
  | none =>
    have h0 : m = [] := by
      cases m with
      | nil => rfl
      | cons x m =>
        obtain ⟨ad, hA, _⟩ := hm 0 x rfl
        cases hA
    subst h0
    obtain ⟨A', c', rfl, _, _⟩ := own_form hown
    refine ⟨A', c', w, ?_, ?_, Below.refl _ _, ⟨rfl, rfl, rfl, Nat.le_refl _, fun _ _ _ => rfl⟩⟩
    · have := run_app_none (c := c) hown
      simpa using this
    · simpa using hown
theorem wp_appL {o : Oper} {a : Act} {K : Act → World → Prop} {Q : Exit → Act → World → Prop} {w : World} (s x : Operand)
    (ho : o.op = .call { callee := .builtin .append, args := #[s, x], argTypes := #[22, 22] }) (hty : o.type = 22) (base : Nat) (l m : List Int) (v : Value) (A : Option Addr) (c : Nat) (B : Nat)
    (hs : a.eval s = v) (hown : w.ownsRow base 3 1 v l.length (l.map (Value.int .i64))) (hx : a.eval x = .slice A m.length c) (hm : Ints w B A m) (hl : l.length ≤ 1000000) (hml : m.length ≤ 1000000) (hbase : base ≤ w.heap.size)
    (h : ∀ A' c' w', w'.ownsRow base 3 1 (.slice A' (l ++ m).length c') (l ++ m).length ((l ++ m).map (Value.int .i64)) → Below base w w' → w.grownBy w' v.ownBlock → K (a.put o.dst (.slice A' (l ++ m).length c')) w') :
    o.wp Try.prog a w K Q := by
  obtain ⟨A', c', w', hr, h2, h3, h4⟩ := run_appL (c := c) hown hm hl hml hbase
  unfold Oper.wp execOp
  simp only [ho, hty, resolve, invoke, builtin, Sem.run_bind, Sem.run_pure, Result.andThen_ok, List.map_toArray, List.map_cons, List.map_nil, hs, hx, hr]
  exact h A' c' w' h2 h3 h4
theorem own_empty {w : World} {g base : Nat} (h : Blk w g 3 #[]) (hb : base ≤ g) : w.ownsRow base 3 1 (.slice (some ⟨g, 0, none⟩) ([] : List Int).length 0) ([] : List Int).length (([] : List Int).map (Value.int .i64)) :=
  ⟨by simp, .inr ⟨g, 0, #[], rfl, hb, h, Nat.le_refl _, by simp [maxLen], by simp, by simp⟩⟩

end Go.Proofs.Ytnjmkdgglpcfpaa
