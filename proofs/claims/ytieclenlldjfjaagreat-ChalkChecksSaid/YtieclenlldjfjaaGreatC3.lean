import Derived.Test.YtieclenlldjfjaaGreatC2
import Derived.Maps.AppendAt
set_option linter.unusedSimpArgs false
set_option linter.unusedVariables false
/- Makings in a row of one's own. -/
namespace Go.Proofs.YtieclenlldjfjaaGreat
open Go.RowKit

/-- a slice that reads, behind nothing that lies in the block `row` -/
def IntsX (w : World) (B : Nat) (row : Option Nat) (A : Option Addr) (l : List Int) : Prop :=
  ∀ k x, l[k]? = some x → ∃ ad, A = some ad ∧ ad.block < B ∧ row ≠ some ad.block ∧ w.cell? (ad.add k) = some (.int .i64 x)
theorem IntsX.ints {w : World} {B : Nat} {row : Option Nat} {A : Option Addr} {l : List Int} (h : IntsX w B row A l) : Ints w B A l := fun k x hx => by
  obtain ⟨ad, e, h1, _, h2⟩ := h k x hx
  exact ⟨ad, e, h1, h2⟩
theorem IntsX.grown {w w' : World} {row : Option Nat} {A : Option Addr} {l : List Int} (h : IntsX w w.heap.size row A l) (hg : w.grownBy w' row) : IntsX w' w'.heap.size row A l := fun k x hx => by
  obtain ⟨ad, e, h1, h2, h3⟩ := h k x hx
  exact ⟨ad, e, Nat.lt_of_lt_of_le h1 hg.size, h2, (World.cell?_of_block (w := w) (by rw [addr_block]; exact hg.block _ h1 (fun e => h2 e.symm))).trans h3⟩
theorem IntsX.behind {w w' : World} {row : Option Nat} {A : Option Addr} {l : List Int} (h : IntsX w w.heap.size row A l) (hb : Below w.heap.size w w') : IntsX w' w'.heap.size row A l := fun k x hx => by
  obtain ⟨ad, e, h1, h2, h3⟩ := h k x hx
  exact ⟨ad, e, Nat.lt_of_lt_of_le h1 hb.size, h2, (hb.cell (by rw [addr_block]; exact h1)).trans h3⟩
theorem IntsX.row {w : World} {B C : Nat} {row row' : Option Nat} {A : Option Addr} {l : List Int} (h : IntsX w B row A l) (hB : ∀ ad, A = some ad → ad.block < C) (hr : row' = row ∨ row' = some C) : IntsX w B row' A l := fun k x hx => by
  obtain ⟨ad, e, h1, h2, h3⟩ := h k x hx
  refine ⟨ad, e, h1, ?_, h3⟩
  have := hB ad e
  rcases hr with rfl | rfl
  · exact h2
  · intro e; injection e with e; omega

/-- cells that read as makings; what they name lies in no block `row` -/
def GX (lo : Nat) (w : World) (B : Nat) (row : Option Nat) (xs : List Value) (ms : List Mkg) : Prop :=
  ∀ (j : Nat) (m : Mkg), ms[j]? = some m → xs[j * 3]? = some (.int .i64 m.sym) ∧ (∃ IA icap, xs[j * 3 + 1]? = some (.slice IA m.items.length icap) ∧ m.items.length ≤ icap ∧ icap ≤ maxLen ∧ (∀ ad, IA = some ad → lo ≤ ad.block ∧ ad.block < B) ∧ IntsX w B row IA m.items) ∧ xs[j * 3 + 2]? = some (.int .i64 m.cost)
theorem GX.nil (lo : Nat) (w : World) (B : Nat) (row : Option Nat) : GX lo w B row [] [] := fun j m h => by simp at h
theorem GX.behind {lo : Nat} {w w' : World} {row : Option Nat} {xs : List Value} {ms : List Mkg} (h : GX lo w w.heap.size row xs ms) (hb : Below w.heap.size w w') : GX lo w' w'.heap.size row xs ms := fun j m hm => by
  obtain ⟨h1, ⟨IA, icap, h2, h3, h4, h7, h5⟩, h6⟩ := h j m hm
  exact ⟨h1, ⟨IA, icap, h2, h3, h4, (fun ad e => ⟨(h7 ad e).1, Nat.lt_of_lt_of_le (h7 ad e).2 hb.size⟩), h5.behind hb⟩, h6⟩
/-- behind an append: the row's block may have changed, and a new one may have taken its place -/
theorem GX.grown {lo : Nat} {w w' : World} {row row' : Option Nat} {xs : List Value} {ms : List Mkg} (h : GX lo w w.heap.size row xs ms) (hg : w.grownBy w' row) (hr : row' = row ∨ row' = some w.heap.size) : GX lo w' w'.heap.size row' xs ms := fun j m hm => by
  obtain ⟨h1, ⟨IA, icap, h2, h3, h4, h7, h5⟩, h6⟩ := h j m hm
  exact ⟨h1, ⟨IA, icap, h2, h3, h4, (fun ad e => ⟨(h7 ad e).1, Nat.lt_of_lt_of_le (h7 ad e).2 hg.size⟩), (h5.grown hg).row (fun ad e => (h7 ad e).2) hr⟩, h6⟩
theorem GX.app {lo : Nat} {w : World} {B : Nat} {row : Option Nat} {xs : List Value} {ms : List Mkg} {m : Mkg} {IA : Option Addr} {icap : Nat} (h : GX lo w B row xs ms) (hl : xs.length = ms.length * 3) (h3 : m.items.length ≤ icap) (h4 : icap ≤ maxLen) (h7 : ∀ ad, IA = some ad → lo ≤ ad.block ∧ ad.block < B) (hI : IntsX w B row IA m.items) :
    GX lo w B row (xs ++ [.int .i64 m.sym, .slice IA m.items.length icap, .int .i64 m.cost]) (ms ++ [m]) := fun j m' hm => by
  rcases Nat.lt_or_ge j ms.length with hj | hj
  · rw [List.getElem?_append_left hj] at hm
    obtain ⟨g1, ⟨IA', icap', g2, g3, g4, g7, g5⟩, g6⟩ := h j m' hm
    refine ⟨?_, ⟨IA', icap', ?_, g3, g4, g7, g5⟩, ?_⟩ <;> rw [List.getElem?_append_left (by omega)] <;> assumption
  · rw [List.getElem?_append_right hj] at hm
    have e : j = ms.length := by
      have := (List.getElem?_eq_some_iff.1 hm).1
      simp at this
      omega
    subst e
    simp at hm
    subst hm
    refine ⟨?_, ⟨IA, icap, ?_, h3, h4, h7, hI⟩, ?_⟩ <;> rw [List.getElem?_append_right (by omega), hl] <;> simp
theorem own_gr {w : World} {base : Nat} {A : Option Addr} {n c : Nat} {xs : List Value} {ms : List Mkg} (h : w.ownsRow base 105 3 (.slice A n c) n xs) {lo : Nat} {row : Option Nat} (hx : GX lo w w.heap.size row xs ms) : Gr w w.heap.size A ms := fun k m hm => by
  obtain ⟨h1, ⟨IA, icap, h2, h3, h4, _, h5x⟩, h6⟩ := hx k m hm
  have h5 := h5x.ints
  rcases h.2 with ⟨hv, rfl⟩ | ⟨g, cap, cur, hv, _⟩
  · have := h.1
    simp only [Nat.zero_mul] at this
    have hl : xs = [] := List.eq_nil_of_length_eq_zero this
    subst hl
    simp at h1
  · injection hv with hA
    subst hA
    have ee : ∀ p, (⟨g, 0, none⟩ : Addr).add p = ⟨g, p, none⟩ := fun p => by unfold Addr.add; split <;> simp_all
    have e := ee (k * 3)
    have c1 := h.cells (g := g) rfl _ _ h1
    have c2 := h.cells (g := g) rfl _ _ h2
    have c3 := h.cells (g := g) rfl _ _ h6
    rw [ee] at c1 c2 c3
    have hlt := h.lt g rfl
    refine ⟨_, rfl, hlt.2, ?_, ⟨IA, icap, ?_, h3, h4, h5⟩, ?_⟩
    · rw [e]; exact c1
    · rw [e]; exact c2
    · rw [e]; exact c3

theorem GX.low {lo : Nat} {w : World} {row : Option Nat} {xs : List Value} {ms : List Mkg} (h : GX lo w w.heap.size row xs ms) {p : Addr} (hp : p.block < lo) (u : Value) : GX lo (w.setCell p u) (w.setCell p u).heap.size row xs ms := fun j m hm => by
  obtain ⟨h1, ⟨IA, icap, h2, h3, h4, h7, h5⟩, h6⟩ := h j m hm
  have hsz : (w.setCell p u).heap.size = w.heap.size := by simp [World.setCell]
  refine ⟨h1, ⟨IA, icap, h2, h3, h4, (fun ad e => ⟨(h7 ad e).1, by rw [hsz]; exact (h7 ad e).2⟩), fun k x hx => ?_⟩, h6⟩
  obtain ⟨ad, e, g1, g2, g3⟩ := h5 k x hx
  have := (h7 ad e).1
  exact ⟨ad, e, by rw [hsz]; exact g1, g2, (World.cell?_setCell_far _ p _ _ (by rw [addr_block]; omega)).trans g3⟩

/-- the makings but one, up to k -/
def wo (ms : List Mkg) (i k : Nat) : List Mkg := (ms.take k).eraseIdx i
theorem wo_at {ms : List Mkg} {i : Nat} (h : i < ms.length) : wo ms i (i + 1) = wo ms i i := by
  unfold wo
  rw [List.take_succ_eq_append_getElem h]
  have hl : (ms.take i).length = i := by rw [List.length_take]; omega
  rw [List.eraseIdx_append_of_length_le (by omega), hl, Nat.sub_self]
  simp [List.eraseIdx_of_length_le, hl]
theorem wo_ne {ms : List Mkg} {i k : Nat} (hk : k < ms.length) (h : k ≠ i) : wo ms i (k + 1) = wo ms i k ++ [ms[k]] := by
  unfold wo
  rw [List.take_succ_eq_append_getElem hk]
  have hl : (ms.take k).length = k := by rw [List.length_take]; omega
  rcases Nat.lt_or_ge i k with h1 | h1
  · rw [List.eraseIdx_append_of_lt_length (by omega)]
  · rw [List.eraseIdx_append_of_length_le (by omega), hl]
    have : i - k = (i - k - 1) + 1 := by omega
    rw [this]
    simp [List.eraseIdx_of_length_le, hl, h1]
theorem wo_len (ms : List Mkg) (i k : Nat) : (wo ms i k).length ≤ k := by
  unfold wo
  exact Nat.le_trans (List.length_eraseIdx_le _ _) (by rw [List.length_take]; omega)
theorem wo_all (ms : List Mkg) (i : Nat) : wo ms i ms.length = ms.eraseIdx i := by unfold wo; rw [List.take_length]
end Go.Proofs.YtieclenlldjfjaaGreat
