import Derived.WalkKit
import Derived.Deep.Draws
import Derived.Lib.Hide
/- The plain mathematics of rounds: nothing of the program is imported. -/
namespace Go.Proofs.Ytnjmkdgglpcfpaa

/-- a strictly rising list of columns -/
def Rise (C : Int) (l : List Int) : Prop := l.Pairwise (· < ·) ∧ ∀ x ∈ l, 0 ≤ x ∧ x < C
instance (C : Int) (l : List Int) : Decidable (Rise C l) := by unfold Rise; infer_instance

theorem Rise.take {C : Int} {l : List Int} (h : Rise C l) (k : Nat) : Rise C (l.take k) :=
  ⟨h.1.sublist (List.take_sublist _ _), fun x hx => h.2 x (List.mem_of_mem_take hx)⟩
theorem Rise.nil {C : Int} : Rise C [] := ⟨List.Pairwise.nil, by simp⟩

theorem rise_first {C : Int} {l : List Int} (hk : 0 < l.length) (h0 : 0 ≤ l[0]) (h1 : l[0] < C) : Rise C (l.take (0 + 1)) := by
  match l, hk with
  | x :: t, _ => exact ⟨by simp, by simpa using ⟨h0, h1⟩⟩

theorem rise_next {C : Int} {l : List Int} {k : Nat} (hk : k < l.length) (hp : 0 < k) (h : Rise C (l.take k)) (h0 : 0 ≤ l[k]) (h1 : l[k] < C) (h2 : l[k - 1]'(by omega) < l[k]) : Rise C (l.take (k + 1)) := by
  rw [List.take_succ_eq_append_getElem hk]
  refine ⟨List.pairwise_append.2 ⟨h.1, by simp, ?_⟩, ?_⟩
  · intro a ha b hb
    obtain rfl : b = l[k] := by simpa using hb
    obtain ⟨i, hi, rfl⟩ := List.mem_iff_getElem.1 ha
    have hi' : i < k := by simp at hi; omega
    rw [List.getElem_take]
    rcases Nat.lt_or_ge i (k - 1) with hlt | hge
    · have := List.pairwise_iff_getElem.1 h.1 i (k - 1) hi (by simp; omega) hlt
      simp only [List.getElem_take] at this
      omega
    · obtain rfl : i = k - 1 := by omega
      exact h2
  · intro x hx
    rcases List.mem_append.1 hx with hx | hx
    · exact h.2 x hx
    · obtain rfl : x = l[k] := by simpa using hx
      exact ⟨h0, h1⟩

theorem Rise.at {C : Int} {l : List Int} (h : Rise C l) {k : Nat} (hk : k < l.length) : 0 ≤ l[k] ∧ l[k] < C := h.2 _ (List.getElem_mem hk)
theorem Rise.step {C : Int} {l : List Int} (h : Rise C l) {k : Nat} (hk : k < l.length) (hp : 0 < k) : l[k - 1]'(by omega) < l[k] :=
  List.pairwise_iff_getElem.1 h.1 (k - 1) k (by omega) hk (by omega)

/-- the error of a list that must rise -/
def riseI (C : Int) (l : List Int) : Int := if Rise C l then 0 else 1
theorem riseI_yes {C : Int} {l : List Int} (h : Rise C l) : riseI C l = 0 := if_pos h
theorem riseI_no {C : Int} {l : List Int} (h : ¬ Rise C l) : riseI C l = 1 := if_neg h

/-- Check -/
def chk (C R B F : Int) (cl : List Int) : Int :=
  if C < 3 ∨ 120 < C ∨ R < 1 ∨ 16 < R then 1 else if B < 0 ∨ F < 0 ∨ C - B ≤ F then 1 else if 120 < cl.length then 2 else riseI C cl

structure Ok (C R B F : Int) (cl : List Int) : Prop where
  c3 : 3 ≤ C
  c120 : C ≤ 120
  r1 : 1 ≤ R
  r16 : R ≤ 16
  b0 : 0 ≤ B
  f0 : 0 ≤ F
  bf : F < C - B
  len : cl.length ≤ 120
  rise : Rise C cl

theorem chk_ok {C R B F : Int} {cl : List Int} : chk C R B F cl = 0 ↔ Ok C R B F cl := by
  unfold chk
  constructor
  · intro h
    split at h
    · cases h
    · split at h
      · cases h
      · split at h
        · cases h
        · by_cases hr : Rise C cl
          · exact ⟨by omega, by omega, by omega, by omega, by omega, by omega, by omega, by omega, hr⟩
          · rw [riseI_no hr] at h
            cases h
  · intro h
    obtain ⟨h1, h2, h3, h4, h5, h6, h7, h8, h9⟩ := h
    rw [if_neg (by omega), if_neg (by omega), if_neg (by omega), riseI_yes h9]

theorem Ok.holes0 {C R B F : Int} {cl : List Int} (h : Ok C R B F cl) : 0 ≤ C * R := Int.mul_nonneg (by have := h.c3; omega) (by have := h.r1; omega)
theorem Ok.holes {C R B F : Int} {cl : List Int} (h : Ok C R B F cl) : C * R ≤ 1920 := by
  have h1 : C * R ≤ 120 * R := Int.mul_le_mul_of_nonneg_right h.c120 (by have := h.r1; omega)
  have := h.r16
  omega

/-- the columns of holes -/
def colm (C : Int) (holes : List Int) : List Int := holes.map (· % C)

/-- the error of a house and a column -/
def colErr (C R B F : Int) (cl : List Int) (c : Int) : Int := if chk C R B F cl ≠ 0 then chk C R B F cl else if 0 ≤ c ∧ c < C then 0 else 1
/-- the error of a house and holes -/
def holesErr (C R B F : Int) (cl : List Int) (l : List Int) : Int :=
  if chk C R B F cl ≠ 0 then chk C R B F cl else if 200 < l.length then 2 else if ∀ x ∈ l, 0 ≤ x ∧ x < C * R then 0 else 1
/-- the error of stands, in a house that has none -/
def standsErr (C : Int) (cl l : List Int) : Int := if 200 < l.length then 2 else if Rise C l ∧ ∀ x ∈ l, x ∉ cl then 0 else 1

theorem colErr_bad {C R B F : Int} {cl : List Int} (c : Int) (h : ¬ Ok C R B F cl) : colErr C R B F cl c = chk C R B F cl := if_pos fun e => h (chk_ok.1 e)
theorem colErr_ok {C R B F : Int} {cl : List Int} (c : Int) (h : Ok C R B F cl) : colErr C R B F cl c = if 0 ≤ c ∧ c < C then 0 else 1 := if_neg fun e => e (chk_ok.2 h)
theorem holesErr_bad {C R B F : Int} {cl : List Int} (l : List Int) (h : ¬ Ok C R B F cl) : holesErr C R B F cl l = chk C R B F cl := if_pos fun e => h (chk_ok.1 e)
theorem holesErr_ok {C R B F : Int} {cl : List Int} (l : List Int) (h : Ok C R B F cl) : holesErr C R B F cl l = if 200 < l.length then 2 else if ∀ x ∈ l, 0 ≤ x ∧ x < C * R then 0 else 1 := if_neg fun e => e (chk_ok.2 h)
theorem chk_ne {C R B F : Int} {cl : List Int} (h : ¬ Ok C R B F cl) : (chk C R B F cl == 0) = false ∧ (chk C R B F cl != 0) = true := by
  have : chk C R B F cl ≠ 0 := fun e => h (chk_ok.1 e)
  simp [this]
/-- what a right house with holes must be -/
structure HolesOk (C R B F : Int) (cl : List Int) (l : List Int) : Prop where
  ok : Ok C R B F cl
  len : l.length ≤ 200
  all : ∀ x ∈ l, 0 ≤ x ∧ x < C * R
theorem holesErr_zero {C R B F : Int} {cl l : List Int} : holesErr C R B F cl l = 0 ↔ HolesOk C R B F cl l := by
  constructor
  · intro h
    by_cases hk : Ok C R B F cl
    · rw [holesErr_ok _ hk] at h
      split at h
      · cases h
      · split at h
        · exact ⟨hk, by omega, by assumption⟩
        · cases h
    · rw [holesErr_bad _ hk] at h
      exact absurd (chk_ok.1 h) hk
  · rintro ⟨h1, h2, h3⟩
    rw [holesErr_ok _ h1, if_neg (by omega), if_pos h3]
theorem HolesOk.cols {C R B F : Int} {cl l : List Int} (h : HolesOk C R B F cl l) : ∀ x ∈ colm C l, 0 ≤ x ∧ x < C := by
  intro x hx
  obtain ⟨y, _, rfl⟩ := List.mem_map.1 hx
  have := h.ok.c3
  exact ⟨Int.emod_nonneg _ (by omega), Int.emod_lt_of_pos _ (by omega)⟩

/-- is column c reached from stand s? -/
def rch (C B F s c : Int) : Bool := decide ((c + (B - s)) % C ≤ B + F)

/-- the numbers below n that p holds of, in order -/
def colsTo (p : Nat → Bool) (k : Nat) : List Int := ((List.range k).filter p).map fun i : Nat => (i : Int)
theorem colsTo_len (p : Nat → Bool) (k : Nat) : (colsTo p k).length ≤ k := by
  unfold colsTo
  rw [List.length_map]
  exact Nat.le_trans (List.length_filter_le _ _) (by simp)
theorem colsTo_yes {p : Nat → Bool} {k : Nat} (h : p k = true) : colsTo p (k + 1) = colsTo p k ++ [(k : Int)] := by
  simp [colsTo, List.range_succ, h]
theorem colsTo_no {p : Nat → Bool} {k : Nat} (h : p k = false) : colsTo p (k + 1) = colsTo p k := by
  simp [colsTo, List.range_succ, h]
/-- the marked columns, in order -/
def cols (p : Nat → Bool) : List Int := colsTo p 120

/-- the marks of the numbers of a list -/
def isIn (l : List Int) : Nat → Bool := fun i => decide ((i : Int) ∈ l)
theorem colm_snoc (C : Int) (l : List Int) (x : Int) : colm C (l ++ [x]) = colm C l ++ [x % C] := by simp [colm]

/-- the open stands from which a column is reached -/
def opens (C B F : Int) (shut : Nat → Bool) (c : Int) : List Int := colsTo (fun s => !shut s && rch C B F s c) C.toNat

end Go.Proofs.Ytnjmkdgglpcfpaa

/- Words of my own for memory: a slice of ints that reads as a list; a block known whole. Nothing of the program is imported. -/
namespace Go.Proofs.Ytnjmkdgglpcfpaa
open Go.RowKit

theorem ret_bool {a b : Bool} (h : a = b) : Ending.returned (.bool a) = .returned (.bool b) := by rw [h]
theorem ret_int {k : IntKind} {a b : Int} (h : a = b) : Ending.returned (.int k a) = .returned (.int k b) := by rw [h]
theorem below_drewN {B : Nat} {a w : World} (h : Below B a w) (n : Nat) : Below B a (w.drewN n) := ⟨h.os, h.tape, h.output, h.size, h.block⟩
theorem below_new (w : World) (o : Obj) : Below w.heap.size w (w.alloc o) := (Below.refl _ _).alloc (Nat.le_refl _) _
theorem below_new_drewN (w : World) (o : Obj) (n : Nat) : Below w.heap.size w ((w.alloc o).drewN n) := below_drewN (below_new w o) n
/-- one call behind another -/
theorem below_next {B : Nat} {a b c : World} (h : Below B a b) (hB : B ≤ b.heap.size) (k : Below b.heap.size b c) : Below B a c := h.trans (k.mono hB)
theorem bcell {B : Nat} {w w' : World} (h : Below B w w') : (∀ b o, b < B → w'.cell? ⟨b, o, none⟩ = w.cell? ⟨b, o, none⟩) ∧ (∀ b o, b < B → w'.frozen? ⟨b, o, none⟩ = w.frozen? ⟨b, o, none⟩) :=
  ⟨fun b o hb => h.cell (p := ⟨b, o, none⟩) hb, fun b o hb => h.frozen (p := ⟨b, o, none⟩) hb⟩

theorem addr_block (a : Addr) (n : Nat) : (a.add n).block = a.block := by
  unfold Addr.add
  split <;> rfl
theorem addr_add (a : Addr) (i j : Nat) : (a.add i).add j = a.add (i + j) := by
  unfold Addr.add
  rcases Nat.eq_zero_or_pos i with hi | hi
  · subst hi
    simp
  · rcases Nat.eq_zero_or_pos j with hj | hj
    · subst hj
      simp
    · rw [if_neg (by omega), if_neg (by omega), if_neg (by omega)]
      simp [Nat.add_assoc]

/-- the slice at A reads, in w, as the numbers l; what it reads lies below block B -/
def Ints (w : World) (B : Nat) (A : Option Addr) (l : List Int) : Prop :=
  ∀ k x, l[k]? = some x → ∃ ad, A = some ad ∧ ad.block < B ∧ w.cell? (ad.add k) = some (.int .i64 x)

section
variable {w w' : World} {B B' : Nat} {A : Option Addr} {l : List Int}
theorem Ints.nil : Ints w B A [] := fun k x h => by simp at h
theorem Ints.get (h : Ints w B A l) {k : Nat} (hk : k < l.length) : ∃ ad, A = some ad ∧ ad.block < B ∧ w.cell? (ad.add k) = some (.int .i64 l[k]) :=
  h k _ (List.getElem?_eq_getElem hk)
theorem Ints.moved (h : Ints w B A l) (hw : ∀ p : Addr, p.block < B → w'.cell? p = w.cell? p) : Ints w' B A l := fun k x hx => by
  obtain ⟨ad, e, hb, hc⟩ := h k x hx
  exact ⟨ad, e, hb, (hw _ (by rw [addr_block]; exact hb)).trans hc⟩
theorem Ints.more (h : Ints w B A l) (hB : B ≤ B') : Ints w B' A l := fun k x hx => by
  obtain ⟨ad, e, hb, hc⟩ := h k x hx
  exact ⟨ad, e, Nat.lt_of_lt_of_le hb hB, hc⟩
theorem Ints.below (h : Ints w B A l) (hb : Below B w w') : Ints w' B A l := h.moved fun _ hp => hb.cell hp
theorem Ints.behind (h : Ints w w.heap.size A l) (hb : Below w.heap.size w w') : Ints w' w'.heap.size A l := (h.below hb).more hb.size
theorem Ints.alloc (h : Ints w B A l) (hB : B ≤ w.heap.size) (o : Obj) : Ints (w.alloc o) B A l := h.below ((Below.refl _ _).alloc hB o)
theorem Ints.setCell (h : Ints w B A l) {p : Addr} (hp : B ≤ p.block) (u : Value) : Ints (w.setCell p u) B A l := h.below ((Below.refl _ _).setCell hp u)
theorem Ints.drewN (h : Ints w B A l) (n : Nat) : Ints (w.drewN n) B A l := h
theorem Ints.of_own {base : Nat} {e : TypeId} {n c : Nat} (h : w.ownsRow base e 1 (.slice A n c) n (l.map (Value.int .i64))) : Ints w w.heap.size A l := fun k x hx => by
  rcases h.2 with ⟨hv, rfl⟩ | ⟨g, cap, cur, hv, _⟩
  · have := h.1
    simp only [List.length_map, Nat.zero_mul] at this
    have hl : l = [] := List.eq_nil_of_length_eq_zero this
    subst hl
    simp at hx
  · injection hv with hA
    subst hA
    refine ⟨_, rfl, (h.lt g rfl).2, h.cells (g := g) rfl k _ ?_⟩
    simp [hx]
end

/-- block g is just the cells cs -/
def Blk (w : World) (g : Nat) (t : TypeId) (cs : Array Value) : Prop := w.heap[g]? = some (.cells cs t (0, 0))
section
variable {w w' : World} {g : Nat} {t : TypeId} {cs : Array Value}
theorem Blk.lt (h : Blk w g t cs) : g < w.heap.size := by
  by_cases hlt : g < w.heap.size
  · exact hlt
  · have hn : w.heap[g]? = none := by simp; omega
    unfold Blk at h
    rw [hn] at h
    cases h
theorem Blk.cell (h : Blk w g t cs) (i : Nat) : w.cell? ⟨g, i, none⟩ = cs[i]? := cell_of_row w g i cs t (0, 0) h
theorem Blk.frozen (h : Blk w g t cs) (i : Nat) : w.frozen? ⟨g, i, none⟩ = false := frozen_of_row w g i cs t h
theorem Blk.new (w : World) (t : TypeId) (cs : Array Value) : Blk (w.alloc (.cells cs t)) w.heap.size t cs := heap_alloc_new w _
theorem Blk.newAt {w : World} {t : TypeId} {cs : Array Value} {g : Nat} (h : w.heap.size = g) : Blk (w.alloc (.cells cs t)) g t cs := by
  subst h
  exact Blk.new w t cs
theorem Blk.drewN (h : Blk w g t cs) (n : Nat) : Blk (w.drewN n) g t cs := h
theorem Blk.alloc (h : Blk w g t cs) (o : Obj) : Blk (w.alloc o) g t cs := (Below.heap_alloc w o g h.lt).trans h
theorem Blk.store (h : Blk w g t cs) (i : Nat) (u : Value) : Blk (w.setCell ⟨g, i, none⟩ u) g t (cs.setIfInBounds i u) := heap_setCell_same w g i cs t u h
theorem Blk.far (h : Blk w g t cs) {p : Addr} (hp : g ≠ p.block) (u : Value) : Blk (w.setCell p u) g t cs := (heap_setCell_other w p g u hp).trans h
theorem Blk.below {B : Nat} (h : Blk w g t cs) (hb : Below B w w') (hg : g < B) : Blk w' g t cs := (hb.block g hg).trans h
end

theorem below_setRow {B : Nat} {a w : World} (h : Below B a w) {g : Nat} (hg : B ≤ g) (cs : Array Value) : Below B a (w.setRow g cs) :=
  h.trans ⟨rfl, rfl, rfl, by simp, fun k hk => setRow_other w g k cs (by omega)⟩
theorem Blk.setRow {w : World} {g : Nat} {t : TypeId} {cs : Array Value} (h : Blk w g t cs) (ds : Array Value) : Blk (w.setRow g ds) g t ds := setRow_heap w g cs ds t (0, 0) h
theorem Blk.farRow {w : World} {g g' : Nat} {t : TypeId} {cs : Array Value} (h : Blk w g t cs) (hne : g ≠ g') (ds : Array Value) : Blk (w.setRow g' ds) g t cs := (setRow_other w g' g ds hne).trans h

/-- 120 marks: mark i is p i -/
def mk (p : Nat → Bool) : Array Value := ((List.range 120).map fun i : Nat => Value.bool (p i)).toArray
theorem mk_size (p : Nat → Bool) : (mk p).size = 120 := by simp [mk]
theorem mk_get (p : Nat → Bool) (i : Nat) (h : i < 120) : (mk p)[i]? = some (Value.bool (p i)) := by
  simp [mk, List.getElem?_range h]
theorem mk_past (p : Nat → Bool) (i : Nat) (h : 120 ≤ i) : (mk p)[i]? = none := by
  have := mk_size p
  simp; omega
theorem mk_congr {p q : Nat → Bool} (h : ∀ i, i < 120 → p i = q i) : mk p = mk q := by
  apply Array.ext_getElem?
  intro i
  by_cases hi : i < 120
  · rw [mk_get _ _ hi, mk_get _ _ hi, h i hi]
  · rw [mk_past _ _ (by omega), mk_past _ _ (by omega)]
theorem mk_set (p : Nat → Bool) (c : Nat) (b : Bool) (h : c < 120) : (mk p).setIfInBounds c (.bool b) = mk (fun i => if i = c then b else p i) := by
  apply Array.ext_getElem?
  intro i
  rw [Array.getElem?_setIfInBounds, mk_size]
  by_cases hi : i < 120
  · rw [mk_get _ _ hi, mk_get _ _ hi]
    by_cases hc : c = i
    · subst hc
      simp [h]
    · rw [if_neg hc, if_neg (fun e => hc e.symm)]
  · rw [if_neg (by omega), mk_past _ _ (by omega), mk_past _ _ (by omega)]
theorem mk_sizes (p q : Nat → Bool) : (mk p).size = (mk q).size := by rw [mk_size, mk_size]
theorem mk_one (p : Nat → Bool) : (mk p).all (·.oneCell') = true := by
  rw [Array.all_eq_true]
  intro i hi
  simp [mk, Value.oneCell']
theorem mk_in_snoc (l : List Int) (c : Nat) (h : c < 120) : (mk (isIn l)).setIfInBounds c (.bool true) = mk (isIn (l ++ [(c : Int)])) := by
  rw [mk_set _ _ _ h]
  apply mk_congr
  intro i _
  by_cases hc : i = c
  · subst hc
    simp [isIn]
  · rw [if_neg hc]
    have : ¬ ((i : Int) = (c : Int)) := by omega
    simp [isIn, this]

theorem own_form {w : World} {base : Nat} {e : TypeId} {size n : Nat} {v : Value} {xs : List Value} (h : w.ownsRow base e size v n xs) : ∃ A c, v = .slice A n c ∧ n ≤ c ∧ c ≤ maxLen := by
  rcases h.2 with ⟨rfl, rfl⟩ | ⟨g, cap, cur, rfl, _, _, h1, h2, _⟩
  · exact ⟨none, 0, rfl, Nat.le_refl _, by simp [maxLen]⟩
  · exact ⟨_, _, rfl, h1, h2⟩

theorem own_below {w w' : World} {base : Nat} {e : TypeId} {size n : Nat} {v : Value} {xs : List Value} (h : w.ownsRow base e size v n xs) (hb : Below w.heap.size w w') : w'.ownsRow base e size v n xs :=
  h.kept (row := none) ⟨hb.os, hb.tape, hb.output, hb.size, fun k hk _ => hb.block k hk⟩ (by cases v.ownBlock <;> simp)
theorem Blk.five {w : World} {g : Nat} {t : TypeId} {a b c d e : Value} (h : Blk w g t #[a, b, c, d, e]) :
    w.cell? ⟨g, 0, none⟩ = some a ∧ w.cell? ⟨g, 1, none⟩ = some b ∧ w.cell? ⟨g, 2, none⟩ = some c ∧ w.cell? ⟨g, 3, none⟩ = some d ∧ w.cell? ⟨g, 4, none⟩ = some e :=
  ⟨h.cell 0, h.cell 1, h.cell 2, h.cell 3, h.cell 4⟩

/-- what a function that makes a slice of ints hands back -/
def RetInts (w : World) (l : List Int) (e : Ending) (w' : World) : Prop :=
  ∃ A c, e = .returned (.slice A l.length c) ∧ l.length ≤ c ∧ c ≤ maxLen ∧ Ints w' w'.heap.size A l ∧ Below w.heap.size w w'
theorem RetInts.of_own {w w' : World} {base : Nat} {l : List Int} {v : Value} (h : w'.ownsRow base 3 1 v l.length (l.map (Value.int .i64))) (hb : Below w.heap.size w w') : RetInts w l (.returned v) w' := by
  obtain ⟨A, c, rfl, h1, h2⟩ := own_form h
  exact ⟨A, c, rfl, h1, h2, Ints.of_own h, hb⟩

end Go.Proofs.Ytnjmkdgglpcfpaa

