import Derived.Test.YtieclenlldjfjaaGreatG7
import Derived.Test.YtieclenlldjfjaaGreatR2
set_option linter.unusedSimpArgs false
set_option linter.unusedVariables false
/- makingsOf 68. -/
namespace Go.Proofs.YtieclenlldjfjaaGreat
open Go.RowKit

/-- items as values; they lie in blocks behind g, ahead of B -/
def Its (w : World) (g B : Nat) (A : Option Addr) (l : List Int) : Prop :=
  ∀ k x, l[k]? = some x → ∃ ad, A = some ad ∧ g < ad.block ∧ ad.block < B ∧ w.cell? (ad.add k) = some (itv x)
theorem Its.moved {w w' : World} {g B : Nat} {A : Option Addr} {l : List Int} (h : Its w g B A l) (hw : ∀ p : Addr, g < p.block → p.block < B → w'.cell? p = w.cell? p) : Its w' g B A l := fun k x hx => by
  obtain ⟨ad, e, h1, h2, h3⟩ := h k x hx
  exact ⟨ad, e, h1, h2, (hw _ (by rw [addr_block]; exact h1) (by rw [addr_block]; exact h2)).trans h3⟩
theorem Its.more {w : World} {g B B' : Nat} {A : Option Addr} {l : List Int} (h : Its w g B A l) (hB : B ≤ B') : Its w g B' A l := fun k x hx => by
  obtain ⟨ad, e, h1, h2, h3⟩ := h k x hx
  exact ⟨ad, e, h1, Nat.lt_of_lt_of_le h2 hB, h3⟩
theorem Its.of_own {w : World} {base g : Nat} {e : TypeId} {A : Option Addr} {n c : Nat} {l : List Int} (h : w.ownsRow base e 1 (.slice A n c) n (l.map itv)) (hg : g < base) : Its w g w.heap.size A l := fun k x hx => by
  rcases h.2 with ⟨hv, rfl⟩ | ⟨q, cap, cur, hv, _⟩
  · have := h.1
    simp only [List.length_map, Nat.zero_mul] at this
    have hl : l = [] := List.eq_nil_of_length_eq_zero this
    subst hl
    simp at hx
  · injection hv with hA
    subst hA
    have h1 := h.lt q rfl
    refine ⟨_, rfl, by show g < q; omega, h1.2, h.cells (g := q) rfl k _ ?_⟩
    simp [hx]

/-- three cells -/
def El (C : Array Value) (j : Nat) (a b c : Value) : Prop := C[j * 3]? = some a ∧ C[j * 3 + 1]? = some b ∧ C[j * 3 + 2]? = some c
theorem El.set_far {C : Array Value} {j : Nat} {a b c : Value} (h : El C j a b c) {p : Nat} (hp : p / 3 ≠ j) (v : Value) : El (C.setIfInBounds p v) j a b c := by
  obtain ⟨h1, h2, h3⟩ := h
  refine ⟨?_, ?_, ?_⟩ <;> rw [Array.getElem?_setIfInBounds_ne (by omega)] <;> assumption

/-- the makings that are made, in the block g; what they hold lies behind g, ahead of B -/
def Done (w : World) (g B : Nat) (C : Array Value) (ms : List Mkg) (k : Nat) : Prop :=
  ∀ (j : Nat) (m : Mkg), j < k → ms[j]? = some m → ∃ IA cap, El C j (.int .i64 m.sym) (.slice IA m.items.length cap) (.int .i64 m.cost) ∧ m.items.length ≤ cap ∧ cap ≤ maxLen ∧ Its w g B IA m.items
/-- the makings that are not yet made -/
def Zero (C : Array Value) (k n : Nat) : Prop := ∀ j, k ≤ j → j < n → El C j (.int .i64 0) (.slice none 0 0) (.int .i64 0)

/-- makings with items as values, as they are read -/
def GrI (w : World) (B : Nat) (A : Option Addr) (ms : List Mkg) : Prop :=
  ∀ (k : Nat) (m : Mkg), ms[k]? = some m → ∃ ad, A = some ad ∧ ad.block < B ∧ w.cell? (ad.add (k * 3)) = some (.int .i64 m.sym) ∧
    (∃ IA icap, w.cell? ⟨(ad.add (k * 3)).block, (ad.add (k * 3)).off + 1, none⟩ = some (.slice IA m.items.length icap) ∧ m.items.length ≤ icap ∧ icap ≤ maxLen ∧ Its w 0 B IA m.items) ∧
    w.cell? ⟨(ad.add (k * 3)).block, (ad.add (k * 3)).off + 2, none⟩ = some (.int .i64 m.cost)
theorem GrI.get {w : World} {B : Nat} {A : Option Addr} {ms : List Mkg} (h : GrI w B A ms) {k : Nat} (hk : k < ms.length) : ∃ ad, A = some ad ∧ ad.block < B ∧ w.cell? (ad.add (k * 3)) = some (.int .i64 ms[k].sym) ∧
    (∃ IA icap, w.cell? ⟨(ad.add (k * 3)).block, (ad.add (k * 3)).off + 1, none⟩ = some (.slice IA ms[k].items.length icap) ∧ ms[k].items.length ≤ icap ∧ icap ≤ maxLen ∧ Its w 0 B IA ms[k].items) ∧
    w.cell? ⟨(ad.add (k * 3)).block, (ad.add (k * 3)).off + 2, none⟩ = some (.int .i64 ms[k].cost) := h k _ (List.getElem?_eq_getElem hk)
theorem GrI.moved {w w' : World} {B : Nat} {A : Option Addr} {ms : List Mkg} (h : GrI w B A ms) (hw : ∀ p : Addr, p.block < B → w'.cell? p = w.cell? p) : GrI w' B A ms := fun k m hm => by
  obtain ⟨ad, e, hb, h0, ⟨IA, icap, h1, h2, h3, h4⟩, h5⟩ := h k m hm
  exact ⟨ad, e, hb, (hw _ (by rw [addr_block]; exact hb)).trans h0, ⟨IA, icap, (hw _ (by show (ad.add (k * 3)).block < B; rw [addr_block]; exact hb)).trans h1, h2, h3, h4.moved fun p _ hp => hw p hp⟩, (hw _ (by show (ad.add (k * 3)).block < B; rw [addr_block]; exact hb)).trans h5⟩
theorem GrI.more {w : World} {B B' : Nat} {A : Option Addr} {ms : List Mkg} (h : GrI w B A ms) (hB : B ≤ B') : GrI w B' A ms := fun k m hm => by
  obtain ⟨ad, e, hb, h0, ⟨IA, icap, h1, h2, h3, h4⟩, h5⟩ := h k m hm
  exact ⟨ad, e, Nat.lt_of_lt_of_le hb hB, h0, ⟨IA, icap, h1, h2, h3, h4.more hB⟩, h5⟩
theorem GrI.below {w w' : World} {B : Nat} {A : Option Addr} {ms : List Mkg} (h : GrI w B A ms) (hb : Below B w w') : GrI w' B A ms := h.moved fun _ hp => hb.cell hp
theorem GrI.behind {w w' : World} {A : Option Addr} {ms : List Mkg} (h : GrI w w.heap.size A ms) (hb : Below w.heap.size w w') : GrI w' w'.heap.size A ms := (h.below hb).more hb.size

theorem done_gri {w : World} {g : Nat} {C : Array Value} {ms : List Mkg} (hC : Blk w g 198 C) (h : Done w g w.heap.size C ms ms.length) : GrI w w.heap.size (some ⟨g, 0, none⟩) ms := fun k m hm => by
  have hk := (List.getElem?_eq_some_iff.1 hm).1
  obtain ⟨IA, cap, ⟨e0, e1, e2⟩, n1, n2, hI⟩ := h k m hk hm
  have e : (⟨g, 0, none⟩ : Addr).add (k * 3) = ⟨g, k * 3, none⟩ := by unfold Addr.add; split <;> simp_all
  refine ⟨_, rfl, hC.lt, ?_, ⟨IA, cap, ?_, n1, n2, fun j x hx => ?_⟩, ?_⟩
  · rw [e, hC.cell]; exact e0
  · rw [e, hC.cell]; exact e1
  · obtain ⟨ad, q1, q2, q3, q4⟩ := hI j x hx
    exact ⟨ad, q1, by omega, q3, q4⟩
  · rw [e, hC.cell]; exact e2

theorem info198z : ∃ i, Tryz.prog.info? 198 = some i ∧ i.zero = some (.agg #[.int .i64 0, .slice none 0 0, .int .i64 0]) ∧ i.size = 3 ∧ i.bytes = 40 := by
  have h : (Tryz.prog.info? 198).map (fun i => (i.zero, i.size, i.bytes)) = some (some (.agg #[.int .i64 0, .slice none 0 0, .int .i64 0]), 3, 40) := by kernel_rfl
  cases hi : Tryz.prog.info? 198 with
  | none => rw [hi] at h; cases h
  | some i =>
    rw [hi] at h
    simp only [Option.map_some, Option.some.injEq, Prod.mk.injEq] at h
    exact ⟨i, rfl, h.1, h.2.1, h.2.2⟩

theorem made_zero (n : Nat) : Zero (madeCells (Value.agg #[.int .i64 0, .slice none 0 0, .int .i64 0]).cells (n * 3)) 0 n := by
  intro j _ hj
  have h1 : j * 3 < n * 3 := by omega
  have h2 : j * 3 + 1 < n * 3 := by omega
  have h3 : j * 3 + 2 < n * 3 := by omega
  have m0 : (j * 3) % 3 = 0 := by omega
  have m1 : (j * 3 + 1) % 3 = 1 := by omega
  have m2 : (j * 3 + 2) % 3 = 2 := by omega
  refine ⟨?_, ?_, ?_⟩
  · simp [madeCells, Value.cells, h1, m0]
  · simp [madeCells, Value.cells, h2, m1]
  · simp [madeCells, Value.cells, h3, m2]
end Go.Proofs.YtieclenlldjfjaaGreat
