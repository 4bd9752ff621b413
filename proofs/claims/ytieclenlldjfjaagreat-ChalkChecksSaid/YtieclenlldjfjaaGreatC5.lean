import Derived.Test.YtieclenlldjfjaaGreatC3
set_option linter.unusedSimpArgs false
set_option linter.unusedVariables false
/- The cells of a row of makings that is read. -/
namespace Go.Proofs.YtieclenlldjfjaaGreat
open Go.RowKit

theorem add_one3 (ad : Addr) (k d : Nat) (hd : 0 < d) : (⟨(ad.add k).block, (ad.add k).off + d, none⟩ : Addr) = ad.add (k + d) := by
  unfold Addr.add
  rw [if_neg (show ¬ k + d = 0 by omega)]
  split
  · rename_i h; subst h; simp
  · simp [Nat.add_assoc]

/-- cells that read as makings; what they name lies below B -/
def GI (w : World) (B : Nat) (xs : List Value) (ms : List Mkg) : Prop :=
  ∀ (j : Nat) (m : Mkg), ms[j]? = some m → xs[j * 3]? = some (.int .i64 m.sym) ∧ (∃ IA icap, xs[j * 3 + 1]? = some (.slice IA m.items.length icap) ∧ m.items.length ≤ icap ∧ icap ≤ maxLen ∧ Ints w B IA m.items) ∧ xs[j * 3 + 2]? = some (.int .i64 m.cost)
theorem GI.below {w w' : World} {B : Nat} {xs : List Value} {ms : List Mkg} (h : GI w B xs ms) (hb : Below B w w') : GI w' B xs ms := fun j m hm => by
  obtain ⟨h1, ⟨IA, icap, h2, h3, h4, h5⟩, h6⟩ := h j m hm
  exact ⟨h1, ⟨IA, icap, h2, h3, h4, h5.below hb⟩, h6⟩
theorem GI.more {w : World} {B B' : Nat} {xs : List Value} {ms : List Mkg} (h : GI w B xs ms) (hB : B ≤ B') : GI w B' xs ms := fun j m hm => by
  obtain ⟨h1, ⟨IA, icap, h2, h3, h4, h5⟩, h6⟩ := h j m hm
  exact ⟨h1, ⟨IA, icap, h2, h3, h4, h5.more hB⟩, h6⟩
theorem GI.app {w : World} {B : Nat} {xs ys : List Value} {ms ns : List Mkg} (h : GI w B xs ms) (hl : xs.length = ms.length * 3) (h' : GI w B ys ns) : GI w B (xs ++ ys) (ms ++ ns) := fun j m hm => by
  rcases Nat.lt_or_ge j ms.length with hj | hj
  · rw [List.getElem?_append_left hj] at hm
    obtain ⟨g1, ⟨IA', icap', g2, g3, g4, g5⟩, g6⟩ := h j m hm
    refine ⟨?_, ⟨IA', icap', ?_, g3, g4, g5⟩, ?_⟩ <;> rw [List.getElem?_append_left (by omega)] <;> assumption
  · rw [List.getElem?_append_right hj] at hm
    obtain ⟨g1, ⟨IA', icap', g2, g3, g4, g5⟩, g6⟩ := h' _ m hm
    refine ⟨?_, ⟨IA', icap', ?_, g3, g4, g5⟩, ?_⟩ <;> rw [List.getElem?_append_right (by omega), hl]
    · rw [show j * 3 - ms.length * 3 = (j - ms.length) * 3 by omega]; exact g1
    · rw [show j * 3 + 1 - ms.length * 3 = (j - ms.length) * 3 + 1 by omega]; exact g2
    · rw [show j * 3 + 2 - ms.length * 3 = (j - ms.length) * 3 + 2 by omega]; exact g6
theorem GI.take {w : World} {B : Nat} {xs : List Value} {ms : List Mkg} (h : GI w B xs ms) (k : Nat) : GI w B (xs.take (k * 3)) (ms.take k) := fun j m hm => by
  rw [List.getElem?_take] at hm
  split at hm
  · rename_i hj
    obtain ⟨g1, ⟨IA', icap', g2, g3, g4, g5⟩, g6⟩ := h j m hm
    refine ⟨?_, ⟨IA', icap', ?_, g3, g4, g5⟩, ?_⟩ <;> rw [List.getElem?_take, if_pos (by omega)] <;> assumption
  · cases hm
theorem GI.drop {w : World} {B : Nat} {xs : List Value} {ms : List Mkg} (h : GI w B xs ms) (k : Nat) : GI w B (xs.drop (k * 3)) (ms.drop k) := fun j m hm => by
  rw [List.getElem?_drop] at hm
  obtain ⟨g1, ⟨IA', icap', g2, g3, g4, g5⟩, g6⟩ := h _ m hm
  refine ⟨?_, ⟨IA', icap', ?_, g3, g4, g5⟩, ?_⟩ <;> rw [List.getElem?_drop]
  · rw [show k * 3 + j * 3 = (k + j) * 3 by omega]; exact g1
  · rw [show k * 3 + (j * 3 + 1) = (k + j) * 3 + 1 by omega]; exact g2
  · rw [show k * 3 + (j * 3 + 2) = (k + j) * 3 + 2 by omega]; exact g6

theorem gr_cells {w : World} {B : Nat} {A : Option Addr} {ms : List Mkg} (h : Gr w B A ms) : ∀ k, k ≤ ms.length →
    ∃ xs : List Value, xs.length = k * 3 ∧ (∀ u ∈ xs, u.oneCell' = true) ∧ (∀ (j : Nat) (u : Value), xs[j]? = some u → ∃ ad, A = some ad ∧ ad.block < B ∧ w.cell? (ad.add j) = some u) ∧ GI w B xs (ms.take k)
  | 0, _ => ⟨[], rfl, (by simp), (by simp), fun j m hm => by simp at hm⟩
  | k + 1, hk => by
    obtain ⟨xs, hl, h1, h2, h3⟩ := gr_cells h k (by omega)
    have hlt : k < ms.length := by omega
    obtain ⟨ad, rfl, hB, m0, ⟨IA, icap, m1, n1, n2, hI⟩, m2⟩ := h.get hlt
    rw [add_one3 _ _ _ (by omega)] at m1 m2
    refine ⟨xs ++ [.int .i64 ms[k].sym, .slice IA ms[k].items.length icap, .int .i64 ms[k].cost], by simp [hl]; omega, fun u hu => ?_, fun j u hj => ?_, ?_⟩
    · rcases List.mem_append.1 hu with hu | hu
      · exact h1 u hu
      · simp only [List.mem_cons, List.not_mem_nil, or_false] at hu
        rcases hu with rfl | rfl | rfl <;> rfl
    · refine ⟨ad, rfl, hB, ?_⟩
      rcases Nat.lt_or_ge j xs.length with hj' | hj'
      · rw [List.getElem?_append_left hj'] at hj
        obtain ⟨ad', e, _, hc⟩ := h2 j u hj
        cases e
        exact hc
      · rw [List.getElem?_append_right hj'] at hj
        have hlt3 := (List.getElem?_eq_some_iff.1 hj).1
        simp at hlt3
        obtain ⟨d, rfl⟩ : ∃ d, j = k * 3 + d := ⟨j - k * 3, by omega⟩
        rw [hl, Nat.add_sub_cancel_left] at hj
        have hd : d < 3 := by omega
        match d, hd with
        | 0, _ => simp at hj; subst hj; exact m0
        | 1, _ => simp at hj; subst hj; exact m1
        | 2, _ => simp at hj; subst hj; exact m2
    · rw [List.take_succ_eq_append_getElem hlt]
      refine h3.app (by rw [hl, List.length_take]; congr 1; omega) fun j m hm => ?_
      cases j with
      | zero => simp at hm; subst hm; exact ⟨rfl, ⟨IA, icap, rfl, n1, n2, hI⟩, rfl⟩
      | succ j => simp at hm
theorem own_grI {w : World} {base : Nat} {A : Option Addr} {n c : Nat} {xs : List Value} {ms : List Mkg} (h : w.ownsRow base 105 3 (.slice A n c) n xs) (hx : GI w w.heap.size xs ms) : Gr w w.heap.size A ms := fun k m hm => by
  obtain ⟨h1, ⟨IA, icap, h2, h3, h4, h5⟩, h6⟩ := hx k m hm
  rcases h.2 with ⟨hv, rfl⟩ | ⟨g, cap, cur, hv, _⟩
  · have := h.1
    simp only [Nat.zero_mul] at this
    have hl : xs = [] := List.eq_nil_of_length_eq_zero this
    subst hl
    simp at h1
  · injection hv with hA
    subst hA
    have ee : ∀ p, (⟨g, 0, none⟩ : Addr).add p = ⟨g, p, none⟩ := fun p => by unfold Addr.add; split <;> simp_all
    have e := ee (k * 3)
    have c1 := h.cells (g := g) rfl _ _ h1
    have c2 := h.cells (g := g) rfl _ _ h2
    have c3 := h.cells (g := g) rfl _ _ h6
    rw [ee] at c1 c2 c3
    have hlt := h.lt g rfl
    refine ⟨_, rfl, hlt.2, ?_, ⟨IA, icap, ?_, h3, h4, h5⟩, ?_⟩
    · rw [e]; exact c1
    · rw [e]; exact c2
    · rw [e]; exact c3
end Go.Proofs.YtieclenlldjfjaaGreat
