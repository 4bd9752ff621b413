import Derived.Test.YtbhiphjifdnhmaaGreatDoorM4
import Derived.Test.YtbhiphjifdnhmaaGreatDoorK8
import Derived.Test.YtbhiphjifdnhmaaGreatDoorK10
import Derived.Deep.Upon
import Derived.Deep.AppendSrc
import Derived.Deep.LoopGhost
import Derived.Test.YtbhiphjifdnhmaaGreatDoorK12
set_option linter.unusedSimpArgs false
set_option linter.unusedVariables false
/- Names that rest on names: plain maths; a queue of texts; needs. -/
namespace Go.Proofs.YtbhiphjifdnhmaaGreatDoor
open Go.RowKit
/-- what something rests on -/
inductive Rch {α : Type} (p : α → List α) : α → α → Prop
 | one {x y : α} : y ∈ p x → Rch p x y
 | more {x y z : α} : y ∈ p x → Rch p y z → Rch p x z
theorem Rch.trans {α : Type} {p : α → List α} {x y z : α} (h : Rch p x y) (k : Rch p y z) : Rch p x z := by
 induction h with
 | one h => exact .more h k
 | more h _ ih => exact .more h (ih k)
theorem Rch.snoc {α : Type} {p : α → List α} {x y z : α} (h : Rch p x y) (k : z ∈ p y) : Rch p x z := h.trans (.one k)
theorem Rch.closed {α : Type} {p : α → List α} {S : α → Prop} (hc : ∀ x, S x → ∀ y ∈ p x, S y) {x z : α} (h : Rch p x z) (hx : S x) : S z := by
 induction h with
 | one h => exact hc _ hx _ h
 | more h _ ih => exact ih (hc _ hx _ h)
theorem Rch.into {α : Type} {p : α → List α} {S : α → Prop} {x : α} (h0 : ∀ y ∈ p x, S y) (hc : ∀ x, S x → ∀ y ∈ p x, S y) {z : α} (h : Rch p x z) : S z := by
 cases h with
 | one h => exact h0 _ h
 | more h k => exact k.closed hc (h0 _ h)
theorem Rch.last {α : Type} {p : α → List α} {x z : α} (h : Rch p x z) : ∃ y, z ∈ p y := by
 induction h with
 | one h => exact ⟨_, h⟩
 | more _ _ ih => exact ih
/-- a list without doubles within another one is no longer -/
theorem nodup_le {α : Type} [DecidableEq α] : ∀ (l U : List α), l.Nodup → (∀ x ∈ l, x ∈ U) → l.length ≤ U.length
 | [], _, _, _ => Nat.zero_le _
 | x :: l, U, hn, hs => by
  have hx := hs x (by simp)
  have hn' := List.nodup_cons.1 hn
  have h := nodup_le l (U.erase x) hn'.2 fun y hy => (List.mem_erase_of_ne (fun (e : y = x) => hn'.1 (e ▸ hy))).2 (hs y (by simp [hy]))
  rw [List.length_erase_of_mem hx] at h
  have := List.length_pos_of_mem hx
  simp only [List.length_cons]
  omega
theorem nodup_snoc {α : Type} {l : List α} {x : α} (h : l.Nodup) (hx : x ∉ l) : (l ++ [x]).Nodup := by
 rw [List.nodup_append]
 refine ⟨h, by simp, fun a ha b hb => ?_⟩
 rw [List.mem_singleton.1 hb]
 exact fun e => hx (e ▸ ha)
/-- a queue of what is still to be looked at, and what was found -/
structure Bfs {α : Type} (p : α → List α) (n : α) (nx f : List α) : Prop where
 nd : f.Nodup
 re : ∀ x, x ∈ f ∨ x ∈ nx → Rch p n x
 st : ∀ y ∈ p n, y ∈ f ∨ y ∈ nx
 cl : ∀ x ∈ f, ∀ y ∈ p x, y ∈ f ∨ y ∈ nx
theorem Bfs.begin {α : Type} (p : α → List α) (n : α) : Bfs p n (p n) [] := ⟨List.nodup_nil, fun x h => h.elim (fun h => by simp at h) fun h => .one h, fun y h => .inr h, fun x h => by simp at h⟩
theorem Bfs.seen {α : Type} {p : α → List α} {n x : α} {nx f : List α} (h : Bfs p n (x :: nx) f) (hx : x ∈ f) : Bfs p n nx f :=
 have g : ∀ y, (y ∈ f ∨ y ∈ x :: nx) → y ∈ f ∨ y ∈ nx := fun y hy => hy.elim .inl fun hy => (List.mem_cons.1 hy).elim (fun e => .inl (e ▸ hx)) .inr
 ⟨h.nd, fun y hy => h.re y (hy.imp id fun hy => List.mem_cons_of_mem _ hy), fun y hy => g y (h.st y hy), fun z hz y hy => g y (h.cl z hz y hy)⟩
theorem Bfs.next {α : Type} {p : α → List α} {n x : α} {nx f : List α} (h : Bfs p n (x :: nx) f) (hx : x ∉ f) : Bfs p n (nx ++ p x) (f ++ [x]) :=
 have g : ∀ y, (y ∈ f ∨ y ∈ x :: nx) → y ∈ f ++ [x] ∨ y ∈ nx ++ p x := fun y hy => hy.elim (fun hy => .inl (List.mem_append_left _ hy)) fun hy => (List.mem_cons.1 hy).elim (fun e => .inl (by simp [e])) fun hy => .inr (List.mem_append_left _ hy)
 ⟨nodup_snoc h.nd hx, fun y hy => by
  simp only [List.mem_append, List.mem_singleton] at hy
  rcases hy with (hy | rfl) | hy | hy
  ·exact h.re y (.inl hy)
  ·exact h.re y (.inr (by simp))
  ·exact h.re y (.inr (by simp [hy]))
  ·exact (h.re x (.inr (by simp))).snoc hy, fun y hy => g y (h.st y hy), fun z hz y hy => by
  simp only [List.mem_append, List.mem_singleton] at hz
  rcases hz with hz | rfl
  ·exact g y (h.cl z hz y hy)
  ·exact .inr (List.mem_append_right _ hy)⟩
theorem Bfs.end {α : Type} {p : α → List α} {n : α} {f : List α} (h : Bfs p n [] f) (z : α) : z ∈ f ↔ Rch p n z :=
 ⟨fun hz => h.re z (.inl hz), fun hz => hz.into (S := fun x => x ∈ f) (fun y hy => (h.st y hy).elim id fun h => by simp at h) fun x hx y hy => (h.cl x hx y hy).elim id fun h => by simp at h⟩
theorem Bfs.size {α : Type} [DecidableEq α] {p : α → List α} {n : α} {nx f : List α} (h : Bfs p n nx f) {U : List α} (hU : ∀ x y, y ∈ p x → y ∈ U) : f.length ≤ U.length :=
 nodup_le f U h.nd fun x hx => (h.re x (.inl hx)).last.elim fun y hy => hU y x hy
/-- an order in which each comes behind its parts -/
inductive Topo {α : Type} (p : α → List α) : List α → Prop
 | nil : Topo p []
 | snoc {L : List α} {x : α} : Topo p L → x ∉ L → (∀ z ∈ p x, z ∈ L) → Topo p (L ++ [x])
theorem Topo.closed {α : Type} {p : α → List α} {L : List α} (h : Topo p L) : ∀ x ∈ L, ∀ z, Rch p x z → z ∈ L := by
 have g : ∀ x ∈ L, ∀ z ∈ p x, z ∈ L := by
  induction h with
  | nil => exact fun x hx => by simp at hx
  | snoc _ _ hz ih =>
   intro x hx z hxz
   rcases List.mem_append.1 hx with hx | hx
   ·exact List.mem_append_left _ (ih x hx z hxz)
   ·rw [List.mem_singleton.1 hx] at hxz
    exact List.mem_append_left _ (hz z hxz)
 exact fun x hx z k => k.closed g hx
theorem Topo.loop {α : Type} {p : α → List α} {L : List α} (h : Topo p L) : ∀ x ∈ L, ¬ Rch p x x := by
 induction h with
 | nil => exact fun x hx => by simp at hx
 | @snoc L y t hy hz ih =>
  intro x hx k
  rcases List.mem_append.1 hx with hx | hx
  ·exact ih x hx k
  ·rw [List.mem_singleton.1 hx] at k
   cases k with
   | one h => exact hy (hz _ h)
   | more h k => exact hy (t.closed _ (hz _ h) _ k)
/-- what a walk does that puts names in order: what it has begun, what is done, in order -/
inductive Vs {α : Type} (p : α → List α) : List α → List α × List α → List α × List α → Prop
 | nil (s : List α × List α) : Vs p [] s s
 | old {x : α} {xs B O : List α} {t : List α × List α} : x ∈ O → Vs p xs (B, O) t → Vs p (x :: xs) (B, O) t
 | new {x : α} {xs B O B1 O1 : List α} {t : List α × List α} : x ∉ O → x ∉ B → Vs p (p x) (x :: B, O) (B1, O1) → Vs p xs (B1, O1 ++ [x]) t → Vs p (x :: xs) (B, O) t
theorem Vs.append {α : Type} {p : α → List α} {xs ys : List α} {s t u : List α × List α} (h : Vs p xs s t) (k : Vs p ys t u) : Vs p (xs ++ ys) s u := by
 induction h with
 | nil => exact k
 | old h _ ih => exact .old h (ih k)
 | new h1 h2 h3 _ _ ih => exact .new h1 h2 h3 (ih k)
/-- what a walk keeps -/
structure VsKeep {α : Type} (p : α → List α) (xs : List α) (s t : List α × List α) : Prop where
 grow : ∀ y ∈ s.1, y ∈ t.1
 pre : ∃ R, t.2 = s.2 ++ R
 opn : ∀ y ∈ t.1, y ∉ t.2 → y ∈ s.1 ∧ y ∉ s.2
 fresh : ∀ y ∈ t.2, y ∈ s.2 ∨ y ∉ s.1
 sub : (∀ y ∈ s.2, y ∈ s.1) → ∀ y ∈ t.2, y ∈ t.1
 all : ∀ x ∈ xs, x ∈ t.2
 re : ∀ y ∈ t.2, y ∈ s.2 ∨ ∃ x ∈ xs, y = x ∨ Rch p x y
 topo : Topo p s.2 → Topo p t.2
theorem Vs.keep {α : Type} {p : α → List α} {xs : List α} {s t : List α × List α} (h : Vs p xs s t) : VsKeep p xs s t := by
 induction h with
 | nil s => exact ⟨fun _ h => h, ⟨[], by simp⟩, fun _ h k => ⟨h, k⟩, fun _ h => .inl h, fun h => h, fun _ h => by simp at h, fun _ h => .inl h, fun h => h⟩
 | @old x xs B O t h _ ih =>
  obtain ⟨R, hR⟩ := ih.pre
  refine ⟨ih.grow, ih.pre, ih.opn, ih.fresh, ih.sub, fun y hy => ?_, fun y hy => (ih.re y hy).imp id fun ⟨z, hz, k⟩ => ⟨z, List.mem_cons_of_mem _ hz, k⟩, ih.topo⟩
  rcases List.mem_cons.1 hy with rfl | hy
  ·rw [hR]; exact List.mem_append_left _ h
  ·exact ih.all y hy
 | @new x xs B O B1 O1 t h1 h2 _ _ i1 i2 =>
  obtain ⟨R1, hR1⟩ := i1.pre
  obtain ⟨R2, hR2⟩ := i2.pre
  have hx1 : x ∉ O1 := fun h => (i1.fresh x h).elim h1 fun k => k (by simp)
  refine ⟨fun y hy => i2.grow y (i1.grow y (by simp [hy])), ⟨R1 ++ [x] ++ R2, by rw [hR2]; simp only at hR1; simp [hR1]⟩, fun y hy hn => ?_, fun y hy => ?_, fun hs y hy => i2.sub (fun z hz => ?_) y hy, fun y hy => ?_, fun y hy => ?_, fun ht => i2.topo (.snoc (i1.topo ht) hx1 i1.all)⟩
  ·obtain ⟨k1, k2⟩ := i2.opn y hy hn
   simp only [List.mem_append, List.mem_singleton, not_or] at k2
   obtain ⟨k3, k4⟩ := i1.opn y k1 k2.1
   rcases List.mem_cons.1 k3 with k3 | k3
   ·exact absurd k3 k2.2
   ·exact ⟨k3, k4⟩
  ·rcases i2.fresh y hy with k | k
   ·rcases List.mem_append.1 k with k | k
    ·exact (i1.fresh y k).imp id fun k hb => k (List.mem_cons_of_mem _ hb)
    ·rw [List.mem_singleton.1 k]; exact .inr h2
   ·exact .inr fun hb => k (i1.grow y (List.mem_cons_of_mem _ hb))
  ·rcases List.mem_append.1 hz with hz | hz
   ·exact i1.sub (fun y hy => List.mem_cons_of_mem _ (hs y hy)) z hz
   ·rw [List.mem_singleton.1 hz]; exact i1.grow x (by simp)
  ·rcases List.mem_cons.1 hy with rfl | hy
   ·rw [hR2]; simp
   ·exact i2.all y hy
  ·rcases i2.re y hy with k | ⟨z, hz, k⟩
   ·rcases List.mem_append.1 k with k | k
    ·rcases i1.re y k with k | ⟨z, hz, k⟩
     ·exact .inl k
     ·refine .inr ⟨x, by simp, .inr ?_⟩
      rcases k with rfl | k
      ·exact .one hz
      ·exact .more hz k
    ·exact .inr ⟨x, by simp, .inl (List.mem_singleton.1 k)⟩
   ·exact .inr ⟨z, List.mem_cons_of_mem _ hz, k⟩
/-- a walk from one name: its order -/
theorem Vs.order {α : Type} {p : α → List α} {n : α} {B O : List α} (h : Vs p [n] ([], []) (B, O)) : Topo p O ∧ ∀ z, z ∈ O ↔ z = n ∨ Rch p n z := by
 have k := h.keep
 have t := k.topo .nil
 refine ⟨t, fun z => ⟨fun hz => ?_, fun hz => ?_⟩⟩
 ·rcases k.re z hz with h | ⟨x, hx, h⟩
  ·simp at h
  ·rw [List.mem_singleton.1 hx] at h; exact h
 ·rcases hz with rfl | hz
  ·exact k.all _ (by simp)
  ·exact t.closed n (k.all n (by simp)) z hz
/-- a strict order that compares all -/
structure Ord {α : Type} (lt : α → α → Bool) : Prop where
 irr : ∀ x, lt x x = false
 tr : ∀ x y z, lt x y = true → lt y z = true → lt x z = true
 con : ∀ x y, lt x y = false → lt y x = false → x = y
/-- increasing -/
def Inc {α : Type} (lt : α → α → Bool) (l : List α) : Prop := l.Pairwise fun x y => lt x y = true
theorem Inc.nodup {α : Type} {lt : α → α → Bool} (ho : Ord lt) {l : List α} (h : Inc lt l) : l.Nodup := List.Pairwise.imp (fun {a b} hab e => by subst e; rw [ho.irr] at hab; cases hab) h
theorem inc_unique {α : Type} {lt : α → α → Bool} (ho : Ord lt) : ∀ (l m : List α), Inc lt l → Inc lt m → (∀ x, x ∈ l ↔ x ∈ m) → l = m
 | [], [], _, _, _ => rfl
 | [], y :: m, _, _, h => by have := (h y).2 (by simp); simp at this
 | x :: l, [], _, _, h => by have := (h x).1 (by simp); simp at this
 | x :: l, y :: m, hl, hm, h => by
  have hl' := List.pairwise_cons.1 hl
  have hm' := List.pairwise_cons.1 hm
  have e : x = y := by
   rcases List.mem_cons.1 ((h x).1 (by simp)) with e | hx
   ·exact e
   ·rcases List.mem_cons.1 ((h y).2 (by simp)) with e | hy
    ·exact e.symm
    ·have h1 := hl'.1 y hy
     have h2 := hm'.1 x hx
     have := ho.tr _ _ _ h1 h2
     rw [ho.irr] at this
     cases this
  subst e
  refine congrArg _ (inc_unique ho l m hl'.2 hm'.2 fun z => ⟨fun hz => ?_, fun hz => ?_⟩)
  ·rcases List.mem_cons.1 ((h z).1 (by simp [hz])) with e | k
   ·subst e
    have := hl'.1 z hz
    rw [ho.irr] at this
    cases this
   ·exact k
  ·rcases List.mem_cons.1 ((h z).2 (by simp [hz])) with e | k
   ·subst e
    have := hm'.1 z hz
    rw [ho.irr] at this
    cases this
   ·exact k
/-- how many of an increasing list come ahead of something -/
def ahead {α : Type} (lt : α → α → Bool) (l : List α) (s : α) : Nat := (l.takeWhile fun x => lt x s).length
/-- put into an increasing list, where it is not there yet -/
def putL {α : Type} (lt : α → α → Bool) (l : List α) (s : α) : List α :=
 match l with
 | [] => [s]
 | x :: l => if lt x s then x :: putL lt l s else if lt s x then s :: x :: l else x :: l
theorem putL_mem {α : Type} {lt : α → α → Bool} (ho : Ord lt) (l : List α) (s z : α) : z ∈ putL lt l s ↔ z = s ∨ z ∈ l := by
 induction l with
 | nil => simp [putL]
 | cons x l ih =>
  unfold putL
  cases h1 : lt x s
  ·cases h2 : lt s x
   ·have e := ho.con _ _ h1 h2
    subst e
    simp
   ·simp
  ·simp only [if_true, List.mem_cons, ih]
   constructor
   ·rintro (h | h | h) <;> simp [h]
   ·rintro (h | h | h) <;> simp [h]
theorem putL_inc {α : Type} {lt : α → α → Bool} (ho : Ord lt) (l : List α) (s : α) (h : Inc lt l) : Inc lt (putL lt l s) := by
 induction l with
 | nil => simp [putL, Inc]
 | cons x l ih =>
  have h' := List.pairwise_cons.1 h
  unfold putL
  cases h1 : lt x s
  ·cases h2 : lt s x
   ·exact h
   ·refine List.pairwise_cons.2 ⟨fun y hy => ?_, h⟩
    rcases List.mem_cons.1 hy with e | hy
    ·rw [e]; exact h2
    ·exact ho.tr _ _ _ h2 (h'.1 y hy)
  ·refine List.pairwise_cons.2 ⟨fun y hy => ?_, ih h'.2⟩
   rcases (putL_mem ho l s y).1 hy with e | hy
   ·rw [e]; exact h1
   ·exact h'.1 y hy
/-- where the search for the place ends -/
theorem putL_at {α : Type} {lt : α → α → Bool} (l : List α) (s : α) :
  putL lt l s = if h : ahead lt l s < l.length then (if lt s l[ahead lt l s] then l.take (ahead lt l s) ++ s :: l.drop (ahead lt l s) else l) else l ++ [s] := by
 induction l with
 | nil => simp [putL, ahead]
 | cons x l ih =>
  unfold putL
  cases h1 : lt x s
  ·have e : ahead lt (x :: l) s = 0 := by simp [ahead, h1]
   simp only [e]
   cases h2 : lt s x <;> simp [h2]
  ·have e : ahead lt (x :: l) s = ahead lt l s + 1 := by simp [ahead, h1]
   simp only [if_true, ih, e, List.length_cons, Nat.add_lt_add_iff_right, List.getElem_cons_succ, List.take_succ_cons, List.drop_succ_cons]
   split
   ·split <;> simp
   ·simp
theorem putL_len {α : Type} {lt : α → α → Bool} (l : List α) (s : α) : l.length ≤ (putL lt l s).length ∧ (putL lt l s).length ≤ l.length + 1 := by
 induction l with
 | nil => simp [putL]
 | cons x l ih =>
  unfold putL
  cases lt x s
  ·cases lt s x <;> simp
  ·simp; omega
def putsL {α : Type} (lt : α → α → Bool) (l : List α) (xs : List α) : List α := xs.foldl (putL lt) l
theorem putsL_mem {α : Type} {lt : α → α → Bool} (ho : Ord lt) (xs l : List α) (z : α) : z ∈ putsL lt l xs ↔ z ∈ xs ∨ z ∈ l := by
 induction xs generalizing l with
 | nil => simp [putsL]
 | cons x xs ih =>
  show z ∈ putsL lt (putL lt l x) xs ↔ _
  rw [ih, putL_mem ho]
  constructor
  ·rintro (h | h | h) <;> simp [h]
  ·intro h
   rcases h with h | h
   ·rcases List.mem_cons.1 h with h | h <;> simp [h]
   ·simp [h]
theorem putsL_inc {α : Type} {lt : α → α → Bool} (ho : Ord lt) (xs l : List α) (h : Inc lt l) : Inc lt (putsL lt l xs) := by
 induction xs generalizing l with
 | nil => exact h
 | cons x xs ih => exact ih _ (putL_inc ho l x h)
theorem putsL_len {α : Type} {lt : α → α → Bool} (xs l : List α) : l.length ≤ (putsL lt l xs).length := by
 induction xs generalizing l with
 | nil => exact Nat.le_refl _
 | cons x xs ih => exact Nat.le_trans (putL_len l x).1 (ih _)
theorem putsL_snoc {α : Type} (lt : α → α → Bool) (l xs : List α) (x : α) : putsL lt l (xs ++ [x]) = putL lt (putsL lt l xs) x := by simp [putsL]
/-- nothing is new: an increasing list that has all of another one, and is no longer, is the same -/
theorem inc_same {α : Type} [DecidableEq α] {lt : α → α → Bool} (ho : Ord lt) {l m : List α} (hl : Inc lt l) (hm : Inc lt m) (hs : ∀ x ∈ l, x ∈ m) (hn : m.length ≤ l.length) : l = m := by
 refine inc_unique ho l m hl hm fun x => ⟨hs x, fun hx => ?_⟩
 by_cases h : x ∈ l
 ·exact h
 ·exfalso
  have := nodup_le (x :: l) m (List.nodup_cons.2 ⟨h, hl.nodup ho⟩) fun y hy => (List.mem_cons.1 hy).elim (fun e => e ▸ hx) (hs y)
  simp at this
  omega
/-- one round of looking for what something rests on -/
def roundL {α : Type} (lt : α → α → Bool) (p : α → List α) (out more : List α) : List α := putsL lt more (out.flatMap p)
/-- what is found so far of what something rests on -/
structure Rest {α : Type} (lt : α → α → Bool) (p : α → List α) (n : α) (l : List α) : Prop where
 inc : Inc lt l
 re : ∀ x ∈ l, Rch p n x
 st : ∀ y ∈ p n, y ∈ l
theorem Rest.begin {α : Type} {lt : α → α → Bool} (ho : Ord lt) (p : α → List α) (n : α) : Rest lt p n (putsL lt [] (p n)) :=
 ⟨putsL_inc ho _ _ List.Pairwise.nil, fun x hx => .one (((putsL_mem ho _ _ x).1 hx).elim id fun h => by simp at h), fun y hy => (putsL_mem ho _ _ y).2 (.inl hy)⟩
theorem Rest.next {α : Type} {lt : α → α → Bool} (ho : Ord lt) {p : α → List α} {n : α} {l : List α} (h : Rest lt p n l) : Rest lt p n (roundL lt p l l) :=
 ⟨putsL_inc ho _ _ h.inc, fun x hx => by
  rcases (putsL_mem ho _ _ x).1 hx with k | k
  ·obtain ⟨y, hy, k⟩ := List.mem_flatMap.1 k
   exact (h.re y hy).snoc k
  ·exact h.re x k, fun y hy => (putsL_mem ho _ _ y).2 (.inr (h.st y hy))⟩
theorem Rest.end {α : Type} [DecidableEq α] {lt : α → α → Bool} (ho : Ord lt) {p : α → List α} {n : α} {l : List α} (h : Rest lt p n l) (he : (roundL lt p l l).length = l.length) (z : α) : z ∈ l ↔ Rch p n z := by
 refine ⟨h.re z, fun hz => hz.into (S := fun x => x ∈ l) h.st fun x hx y hy => ?_⟩
 have e := inc_same ho h.inc (h.next ho).inc (fun x hx => (putsL_mem ho _ _ x).2 (.inr hx)) (by omega)
 rw [e]
 exact (putsL_mem ho _ _ y).2 (.inl (List.mem_flatMap.2 ⟨x, hx, hy⟩))
theorem Rest.size {α : Type} [DecidableEq α] {lt : α → α → Bool} (ho : Ord lt) {p : α → List α} {n : α} {l : List α} (h : Rest lt p n l) {U : List α} (hU : ∀ x y, y ∈ p x → y ∈ U) : l.length ≤ U.length :=
 nodup_le l U (h.inc.nodup ho) fun x hx => (h.re x hx).last.elim fun y hy => hU y x hy
/-- there is one increasing list of all on which something rests -/
theorem exists_reach {α : Type} [DecidableEq α] {lt : α → α → Bool} (ho : Ord lt) (p : α → List α) (n : α) {U : List α} (hU : ∀ x y, y ∈ p x → y ∈ U) : ∃ L, Inc lt L ∧ ∀ z, z ∈ L ↔ Rch p n z := by
 have key : ∀ k, ∀ l, Rest lt p n l → U.length - l.length = k → ∃ L, Inc lt L ∧ ∀ z, z ∈ L ↔ Rch p n z := by
  intro k
  induction k using Nat.strongRecOn with
  | _ k ih =>
   intro l hl hk
   by_cases he : (roundL lt p l l).length = l.length
   ·exact ⟨l, hl.inc, hl.end ho he⟩
   ·have h1 : l.length ≤ (roundL lt p l l).length := putsL_len _ _
    have h2 := (hl.next ho).size ho hU
    exact ih (U.length - (roundL lt p l l).length) (by omega) _ (hl.next ho) rfl
 exact key _ _ (Rest.begin ho p n) rfl
end Go.Proofs.YtbhiphjifdnhmaaGreatDoor
namespace Go.Proofs.YtbhiphjifdnhmaaGreatDoor
open Go.RowKit Go.Maps
/-- a slice of texts in a row of one's own, from any place on -/
def OwnQ (w : World) (base : Nat) (A : Option Addr) (c : Nat) (l : List ByteArray) : Prop :=
 l.length ≤ c ∧ c ≤ maxLen ∧ ((A = none ∧ l = [] ∧ c = 0) ∨ ∃ g o, A = some ⟨g, o, none⟩ ∧ base ≤ g ∧ g < w.heap.size ∧ (∀ j x, l[j]? = some x → w.cell? ⟨g, o + j, none⟩ = some (.string x)) ∧ ∀ j, j < c → (w.cell? ⟨g, o + j, none⟩).isSome = true ∧ w.frozen? ⟨g, o + j, none⟩ = false)
theorem OwnQ.below {w w' : World} {base : Nat} {A : Option Addr} {c : Nat} {l : List ByteArray} (h : OwnQ w base A c l) (hb : Below w.heap.size w w') : OwnQ w' base A c l := by
 obtain ⟨h1, h2, h3⟩ := h
 refine ⟨h1, h2, h3.imp id fun ⟨g, o, e, hg, hlt, hc, hf⟩ => ⟨g, o, e, hg, Nat.lt_of_lt_of_le hlt hb.size, fun j x hx => ?_, fun j hj => ?_⟩⟩
 ·exact ((bcell hb).1 g (o + j) hlt).trans (hc j x hx)
 ·rw [(bcell hb).1 g (o + j) hlt, (bcell hb).2 g (o + j) hlt]; exact hf j hj
theorem OwnQ.grown {w w' : World} {base k : Nat} {A : Option Addr} {c : Nat} {l : List ByteArray} (h : OwnQ w base A c l) (hg : w.grownBy w' (some k)) (hk : k < base) : OwnQ w' base A c l := by
 obtain ⟨h1, h2, h3⟩ := h
 refine ⟨h1, h2, h3.imp id fun ⟨g, o, e, hbg, hlt, hc, hf⟩ => ?_⟩
 have hh : w'.heap[g]? = w.heap[g]? := hg.block g hlt (fun e => by injection e with e; omega)
 refine ⟨g, o, e, hbg, Nat.lt_of_lt_of_le hlt hg.size, fun j x hx => ?_, fun j hj => ?_⟩
 ·exact (World.cell?_of_block (a := ⟨g, o + j, none⟩) hh).trans (hc j x hx)
 ·rw [World.cell?_of_block (a := ⟨g, o + j, none⟩) hh, World.frozen?_of_block (a := ⟨g, o + j, none⟩) hh]; exact hf j hj
theorem OwnQ.strs {w : World} {base : Nat} {A : Option Addr} {c : Nat} {l : List ByteArray} (h : OwnQ w base A c l) : Strs w w.heap.size A l := fun k x hx => by
 obtain ⟨h1, h2, ⟨_, rfl, _⟩ | ⟨g, o, e, hg, hlt, hc, hf⟩⟩ := h
 ·simp at hx
 ·exact ⟨⟨g, o, none⟩, e, hlt, by rw [Addr.add_mid]; exact hc k x hx⟩
theorem OwnQ.of_own {w : World} {base : Nat} {A : Option Addr} {c : Nat} {l : List ByteArray} (h : w.ownsRow base 9 1 (.slice A l.length c) l.length (l.map Value.string)) : OwnQ w base A c l := by
 obtain ⟨_, _, e1, hc1, hc2⟩ := own_form h
 injection e1 with e1 e2 e3
 subst e1 e3
 refine ⟨hc1, hc2, ?_⟩
 obtain ⟨_, ⟨e, hn⟩ | ⟨g, cap, cur, e, hbg, hg, hnc, hcm, hcs, ht⟩⟩ := h
 ·injection e with e1 e2 e3
  exact .inl ⟨e1, List.eq_nil_of_length_eq_zero hn, e3⟩
 ·injection e with e1 e2 e3
  subst e1 e3
  have hlt : g < w.heap.size := by
   rcases Nat.lt_or_ge g w.heap.size with k | k
   ·exact k
   ·rw [Array.getElem?_eq_none k] at hg; cases hg
  refine .inr ⟨g, 0, rfl, hbg, hlt, fun j x hx => ?_, fun j hj => ?_⟩
  ·rw [cell_of_row w g _ cur 9 (0, 0) hg]
   have hj : j < l.length := (List.getElem?_eq_some_iff.1 hx).1
   have h1 : (cur.toList.take (l.length * 1))[j]? = some (.string x) := by rw [ht, List.getElem?_map, hx]; rfl
   rw [List.getElem?_take_of_lt (by omega), Array.getElem?_toList] at h1
   rw [Nat.zero_add]; exact h1
  ·rw [cell_of_row w g _ cur 9 (0, 0) hg, frozen_of_row w g _ cur 9 hg]
   refine ⟨?_, rfl⟩
   rw [Array.getElem?_eq_getElem (by omega)]; rfl
/-- without its first one -/
theorem OwnQ.tail {w : World} {base : Nat} {g o : Nat} {c : Nat} {x : ByteArray} {l : List ByteArray} (h : OwnQ w base (some ⟨g, o, none⟩) (c + 1) (x :: l)) : OwnQ w base (some ⟨g, o + 1, none⟩) c l := by
 obtain ⟨h1, h2, ⟨e, _⟩ | ⟨g', o', e, hg, hlt, hc, hf⟩⟩ := h
 ·cases e
 ·cases e
  simp only [List.length_cons] at h1
  refine ⟨by omega, by omega, .inr ⟨g, o + 1, rfl, hg, hlt, fun j y hy => ?_, fun j hj => ?_⟩⟩
  ·rw [show o + 1 + j = o + (j + 1) by omega]; exact hc (j + 1) y (by simpa using hy)
  ·rw [show o + 1 + j = o + (j + 1) by omega]; exact hf (j + 1) (by omega)
theorem OwnQ.tail0 {w : World} {base : Nat} {A : Option Addr} {x : ByteArray} {l : List ByteArray} (h : OwnQ w base A 1 (x :: l)) : l = [] ∧ OwnQ w base A 0 [] := by
 obtain ⟨h1, h2, h3⟩ := h
 simp only [List.length_cons] at h1
 refine ⟨List.eq_nil_of_length_eq_zero (by omega), Nat.le_refl _, by simp [maxLen], ?_⟩
 rcases h3 with ⟨_, e, _⟩ | ⟨g, o, e, hg, hlt, _, _⟩
 ·cases e
 ·exact .inr ⟨g, o, e, hg, hlt, fun j y hy => by simp at hy, fun j hj => by omega⟩
theorem OwnQ.cons {w : World} {base : Nat} {A : Option Addr} {c : Nat} {x : ByteArray} {l : List ByteArray} (h : OwnQ w base A c (x :: l)) : ∃ g o c', A = some ⟨g, o, none⟩ ∧ c = c' + 1 ∧ base ≤ g ∧ g < w.heap.size ∧ w.cell? ⟨g, o, none⟩ = some (.string x) := by
 obtain ⟨h1, h2, ⟨_, e, _⟩ | ⟨g, o, e, hg, hlt, hc, hf⟩⟩ := h
 ·cases e
 ·simp only [List.length_cons] at h1
  exact ⟨g, o, c - 1, e, by omega, hg, hlt, by simpa using hc 0 x rfl⟩
theorem below_setCells {B : Nat} {a : World} {g : Nat} (hg : B ≤ g) : ∀ (vs : List Value) (o : Nat) (w : World), Below B a w → Below B a (w.setCells g o vs)
 | [], _, _, h => h
 | v :: vs, o, w, h => below_setCells hg vs (o + 1) _ (h.setCell (p := ⟨g, o, none⟩) hg v)
/-- the source of an append -/
theorem src_strs {w : World} {A : Option Addr} {c : Nat} {m : List ByteArray} (hS : Strs w w.heap.size A m) : Src Tryz.prog 1 64 (.slice A m.length c) m.length (m.map Value.string) w := by
 cases A with
 | none =>
  have : m = [] := by
   cases m with
   | nil => rfl
   | cons x m => obtain ⟨ad, e, _⟩ := hS 0 x rfl; cases e
  subst this
  exact Src.ofNil w Tryz.underlying64 c
 | some a =>
  refine Src.ofSlice w Tryz.underlying64 a m.length c _ (by simp) (fun j u hj => ?_) (fun u hu => ?_)
  ·rw [List.getElem?_map] at hj
   cases hx : m[j]? with
   | none => rw [hx] at hj; cases hj
   | some x =>
    rw [hx] at hj
    obtain ⟨ad, e, _, hc⟩ := hS j x hx
    cases e
    cases hj
    exact hc
  ·obtain ⟨x, _, rfl⟩ := List.mem_map.1 hu
   rfl
/-- 'l = append(l, m...)' -/
theorem OwnQ.append {w : World} {base : Nat} {A : Option Addr} {c : Nat} {l : List ByteArray} (h : OwnQ w base A c l) {A2 : Option Addr} {c2 : Nat} {m : List ByteArray} (hS : Strs w w.heap.size A2 m) (hlen : l.length + m.length ≤ 1000000) (hbase : base ≤ w.heap.size) (ty : TypeId) :
  ∃ A' c' w', (Builtin.append_ #[64, 64] ty #[.slice A l.length c, .slice A2 m.length c2]).run Tryz.prog w = .ok (.slice A' (l ++ m).length c') w' ∧ OwnQ w' base A' c' (l ++ m) ∧ Below base w w' := by
 obtain ⟨i, z, hi, hz, hzs, h1, h2⟩ := st_parts
 have hsrc := src_strs (c := c2) hS
 obtain ⟨k1, k2, k3⟩ := h
 by_cases hm : m = []
 ·subst hm
  have hr := run_append_nothing (P := Tryz.prog) w 64 64 ty 9 i Tryz.underlying64 hi A l.length c k1 _ (by rw [h1]; exact hsrc)
  refine ⟨A, c, w, ?_, ?_, Below.refl _ _⟩
  ·rw [List.append_nil]; exact hr
  ·rw [List.append_nil]; exact ⟨k1, k2, k3⟩
 ·have hmp : 0 < m.length := List.length_pos_iff.2 hm
  by_cases hroom : l.length + m.length ≤ c
  ·rcases k3 with ⟨_, rfl, rfl⟩ | ⟨g, o, rfl, hg, hlt, hc, hf⟩
   ·simp at hroom; exact absurd hroom hm
   ·have hr := run_append_room_src (P := Tryz.prog) w 64 64 ty 9 i Tryz.underlying64 hi g o l.length c _ m.length (m.map Value.string) (by rw [h1]; exact hsrc) hroom (fun j hj => by
     rw [h1, Nat.mul_one, Nat.add_assoc]; exact (hf (l.length + j) (by simp at hj; omega)).1) (fun j hj => by
     rw [h1, Nat.mul_one, Nat.add_assoc]; exact (hf (l.length + j) (by simp at hj; omega)).2)
    rw [h1, Nat.mul_one] at hr
    refine ⟨some ⟨g, o, none⟩, c, w.setCells g (o + l.length) (m.map Value.string), ?_, ⟨by rw [List.length_append]; exact hroom, k2, .inr ⟨g, o, rfl, hg, ?_, fun j x hx => ?_, fun j hj => ?_⟩⟩, below_setCells hg _ _ _ (Below.refl _ _)⟩
    ·rw [List.length_append]; exact hr
    ·exact Nat.lt_of_lt_of_le hlt (below_setCells (Nat.zero_le g) _ _ _ (Below.refl 0 w)).size
    ·by_cases hjl : j < l.length
     ·rw [World.cell?_setCells_out g _ _ _ _ (fun _ _ => .inl (by show o + j < o + l.length; omega))]
      exact hc j x (by rwa [List.getElem?_append_left hjl] at hx)
     ·have hx' : m[j - l.length]? = some x := by rwa [List.getElem?_append_right (by omega)] at hx
      have hjm : j - l.length < m.length := (List.getElem?_eq_some_iff.1 hx').1
      have hin := World.cell?_setCells_in g (m.map Value.string) (o + l.length) w (fun j hj => by rw [Nat.add_assoc]; exact (hf (l.length + j) (by simp at hj; omega)).1) (j - l.length) (by simpa using hjm)
      rw [show o + l.length + (j - l.length) = o + j by omega] at hin
      rw [hin]
      simp [(List.getElem?_eq_some_iff.1 hx').2]
    ·refine ⟨World.isSome_setCells g _ _ w _ (hf j hj).1, ?_⟩
     rw [World.frozen?_setCells]; exact (hf j hj).2
  ·have hold : (Builtin.firstCells i.size l.length (.slice A l.length c)).run Tryz.prog w.drew = .ok (l.map Value.string).toArray w.drew := by
    rw [h1]
    rcases k3 with ⟨rfl, rfl, rfl⟩ | ⟨g, o, rfl, hg, hlt, hc, hf⟩
    ·exact run_firstCells_none w.drew 1 0 0 0
    ·refine run_firstCells_some w.drew 1 l.length ⟨g, o, none⟩ l.length c (l.map Value.string) (by simp) (fun j u hj => ?_)
     rw [List.getElem?_map] at hj
     cases hx : l[j]? with
     | none => rw [hx] at hj; cases hj
     | some x =>
      rw [hx] at hj
      cases hj
      rw [Addr.add_mid]
      exact hc j x hx
   have hr := run_append_grow_src (P := Tryz.prog) w 64 64 ty 9 i z Tryz.underlying64 hi hz A l.length c (l.map Value.string) hold _ m.length (m.map Value.string) (by rw [h1]; exact hsrc) (by omega) (by omega) (by rw [h2]; exact growslice_fits (by omega) (by omega))
   have hge := grownCap_ge w (l.length + m.length) c 9
   have hcm : grownCap w (l.length + m.length) c 9 ≤ maxLen := grownCap_le_maxLen w (l.length + m.length) c 9 (by simp only [maxLen]; omega)
   generalize grownCap w (l.length + m.length) c 9 = C at hr hge hcm
   obtain ⟨cur, hcur⟩ : ∃ cur, cur = (l.map Value.string ++ m.map Value.string).toArray ++ Builtin.zeroCells z.cells (C - (l.length + m.length)) := ⟨_, rfl⟩
   rw [← hcur] at hr
   have hsz : cur.size = C := by
    rw [hcur]
    simp only [Array.size_append, List.size_toArray, size_zeroCells, hzs, List.length_append, List.length_map]
    omega
   have hB : (w.drew.alloc (.cells cur 9)).heap[w.heap.size]? = some (.cells cur 9 (0, 0)) := heap_alloc_new w.drew _
   refine ⟨some ⟨w.heap.size, 0, none⟩, C, w.drew.alloc (.cells cur 9), by rw [List.length_append]; exact hr, ⟨by rw [List.length_append]; exact hge, hcm, .inr ⟨w.heap.size, 0, rfl, hbase, by simp, fun j x hx => ?_, fun j hj => ?_⟩⟩, (Below.refl base w).drew.alloc hbase _⟩
   ·rw [cell_of_row _ _ _ cur 9 (0, 0) hB, hcur, Nat.zero_add]
    have hj : j < (l ++ m).length := (List.getElem?_eq_some_iff.1 hx).1
    rw [List.length_append] at hj
    rw [Array.getElem?_append_left (by simp; omega), List.getElem?_toArray, ← List.map_append, List.getElem?_map, hx]
    rfl
   ·rw [cell_of_row _ _ _ cur 9 (0, 0) hB, frozen_of_row _ _ _ cur 9 hB, Array.getElem?_eq_getElem (by omega)]
    exact ⟨rfl, rfl⟩
/-- the same, as a step -/
theorem wpl_appQ {ops : Array Oper} {rest : List Oper} {o : Oper} {a : Act} {Q : Exit → Act → World → Prop} {w : World} (hgd : o.guard = none) (s x : Operand)
  (ho : o.op = .call { callee := .builtin .append, args := #[s, x], argTypes := #[64, 64] }) {base : Nat} {A : Option Addr} {c : Nat} {l : List ByteArray} (hown : OwnQ w base A c l) {A2 : Option Addr} {c2 : Nat} {m : List ByteArray} (hS : Strs w w.heap.size A2 m)
  (hs : a.eval s = .slice A l.length c) (hx : a.eval x = .slice A2 m.length c2) (hl : l.length + m.length ≤ 1000000) (hbase : base ≤ w.heap.size)
  (h : ∀ A' c' w', OwnQ w' base A' c' (l ++ m) → Below base w w' → wpList Tryz.prog ops Q rest (a.put o.dst (.slice A' (l ++ m).length c')) w') :
  wpList Tryz.prog ops Q (o :: rest) a w :=
 wpList_plain hgd fun K hK => by
  obtain ⟨A', c', w', hr, q1, q2⟩ := hown.append hS (c2 := c2) hl hbase o.type
  unfold Oper.wp execOp
  simp only [ho, resolve, invoke, builtin, Sem.run_bind, Sem.run_pure, Result.andThen_ok, List.map_toArray, List.map_cons, List.map_nil, hs, hx, hr]
  exact hK _ _ (h A' c' w' q1 q2)
end Go.Proofs.YtbhiphjifdnhmaaGreatDoor
namespace Go.Proofs.YtbhiphjifdnhmaaGreatDoor
open Go.RowKit Go.Maps
/-- the order of names -/
def ltS (x y : ByteArray) : Bool := decide (x.data.toList < y.data.toList)
theorem ltS_ord : Ord ltS where
 irr x := decide_eq_false (List.lt_irrefl _)
 tr x y z h k := decide_eq_true (List.lt_trans (of_decide_eq_true h) (of_decide_eq_true k))
 con x y h k := by
  have h1 := of_decide_eq_false h
  have k1 := of_decide_eq_false k
  apply bytes_eq
  rcases List.le_iff_lt_or_eq.1 (List.not_lt.1 h1) with e | e
  ·exact absurd e k1
  ·exact e.symm
/-- the parts of a name -/
def prt (b : List UInt8 → Option Df) (n : ByteArray) : List ByteArray := partsL b n.data.toList
/-- what was found, as a set -/
def setF (F : List ByteArray) : List UInt8 → Option Value := fun s => if F.any (fun x => x.data.toList == s) then some (.bool true) else none
theorem setF_isSome (F : List ByteArray) (s : List UInt8) : (setF F s).isSome = true ↔ ∃ x ∈ F, x.data.toList = s := by
 unfold setF
 by_cases h : F.any (fun x => x.data.toList == s) = true
 ·rw [if_pos h]
  simp only [Option.isSome_some, true_iff]
  simpa using h
 ·rw [if_neg h]
  simp only [Option.isSome_none, Bool.false_eq_true, false_iff]
  simpa using h
theorem setF_mem (F : List ByteArray) (x : ByteArray) : (setF F x.data.toList).isSome = true ↔ x ∈ F :=
 (setF_isSome F _).trans ⟨fun ⟨y, hy, e⟩ => bytes_eq e ▸ hy, fun h => ⟨x, h, rfl⟩⟩
theorem setF_val (F : List ByteArray) (x : ByteArray) (h : x ∈ F) : setF F x.data.toList = some (.bool true) := by
 unfold setF
 rw [if_pos (by simp; exact ⟨x, h, rfl⟩)]
theorem setF_no (F : List ByteArray) (x : ByteArray) (h : x ∉ F) : setF F x.data.toList = none := by
 have : ¬ (setF F x.data.toList).isSome = true := fun k => h ((setF_mem F x).1 k)
 cases hs : setF F x.data.toList with
 | none => rfl
 | some v => rw [hs] at this; simp at this
theorem setF_snoc (F : List ByteArray) (x : ByteArray) (s : List UInt8) : (if s = x.data.toList then some (Value.bool true) else setF F s) = setF (F ++ [x]) s := by
 unfold setF
 by_cases h : s = x.data.toList
 ·subst h
  simp
 ·have : ¬ x.data.toList = s := fun e => h e.symm
  simp [h, this]
theorem keysL_set {F L : List ByteArray} (hL : Inc ltS L) (h : ∀ z, z ∈ L ↔ z ∈ F) : KeysL (setF F) L :=
 ⟨List.Pairwise.imp (fun {a b} hab => of_decide_eq_true hab) hL, fun s => (setF_isSome F s).trans ⟨fun ⟨x, hx, e⟩ => ⟨x, (h x).2 hx, e⟩, fun ⟨x, hx, e⟩ => ⟨x, (h x).1 hx, e⟩⟩⟩
/-- what is known of a book: its names are short, and few -/
structure BookOk (b : List UInt8 → Option Df) (U : List ByteArray) : Prop where
 sz : ∀ s, ∀ x ∈ partsL b s, x.size ≤ maxLen
 mem : ∀ s, ∀ x ∈ partsL b s, x ∈ U
 few : U.length ≤ 1000
theorem parts_two (b : List UInt8 → Option Df) (s : List UInt8) : (partsL b s).length ≤ 2 := by
 unfold partsL dfParts
 split
 ·simp
 ·split <;> simp
set_option maxRecDepth 100000 in
set_option maxHeartbeats 2000000 in
theorem needs_any (b : List UInt8 → Option Df) (U : List ByteArray) (hb : BookOk b U) (m n0 : Nat) (n : ByteArray) (w : World) (hm : MapIs w Tryz.prog 9 m n0 (bookV b)) (hn : n.size ≤ maxLen) (R : List ByteArray) (hR : Inc ltS R) (hRr : ∀ z, z ∈ R ↔ Rch (prt b) n z) :
  Calls Tryz.prog 88 #[.map (some m), .string n] w (RetStrs w R) := by
 have hmm := @run_makeMap Tryz.prog
 have HB := Lib.hid hb
 have HR := Lib.hid (show Inc ltS R ∧ ∀ z, z ∈ R ↔ Rch (prt b) n z from ⟨hR, hRr⟩)
 clear hb hR hRr
 have hml := hm.lt
 have hm0 : MapIs (w.alloc (.map #[] 0)) Tryz.prog 9 m n0 (bookV b) := hm.alloc _
 have hf0 : MapIs (w.alloc (.map #[] 0)) Tryz.prog 9 w.heap.size 0 (setF []) := MapIs.made w Tryz.prog 9
 have hb0 := below_new w (.map #[] 0)
 go_enter Tryz.func88, Tryz.ntmps88
 go_wp2_with (go_at_call 129; refine (parts_any b m n0 n _ hm0 hn).mono ?_; rintro e w1 ⟨A, c, rfl, ho, hb1⟩)
 have hz0 : (w.alloc (.map #[] 0)).heap.size = w.heap.size + 1 := by simp
 rw [hz0] at ho
 have hq1 : OwnQ w1 (w.heap.size + 1) A c (prt b n) := OwnQ.of_own ho
 have hf1 := hf0.below hb1 (by omega)
 have hbw1 := hb0.trans (hb1.mono (by omega))
 have hz1 : w.heap.size + 1 ≤ w1.heap.size := by have := hb1.size; omega
 have HBf : Hid (Bfs (prt b) n (prt b n) []) := Lib.hid (Bfs.begin (prt b) n)
 have hl1 : (prt b n).length ≤ 2 := parts_two b _
 have e1 : partsL b n.data.toList = prt b n := rfl
 rw [e1]
 generalize hP0 : prt b n = P0 at hq1 HBf hl1 ⊢
 have HP0 := Lib.hid hP0
 clear hP0 e1
 clear ho hb1 hf0 hb0 hz0 hm0
 go_loopg [6] (P0.length + 3 * U.length) (fun k t6 wq => ∃ (A : Option Addr) (c : Nat) (L F : List ByteArray), t6 = .slice A L.length c ∧ OwnQ wq (w.heap.size + 1) A c L ∧ MapIs wq Tryz.prog 9 w.heap.size F.length (setF F) ∧ Hid (Bfs (prt b) n L F) ∧ Hid (L.length ≤ 2 + 2 * F.length ∧ L.length + 3 * (U.length - F.length) ≤ k) ∧ w.heap.size + 1 ≤ wq.heap.size ∧ Below w.heap.size w wq)
 case atStart => exact ⟨A, c, P0, [], rfl, hq1, hf1, HBf, Lib.hid ⟨by simpa using hl1, by simp⟩, hz1, hbw1⟩
 case round =>
  obtain ⟨A2, c2, L, F, rfl, hq2, hf2, HF, HK, hz2, hb2⟩ := hrel
  clear hq1 hf1 HBf hl1 hz1 hbw1
  cases L with
  | nil =>
   have hkl : KeysL (setF F) R := keysL_set HR.out.1 fun z => (HR.out.2 z).trans (HF.out.end z).symm
   have hFl : F.length ≤ U.length := HF.out.size fun x y hy => HB.out.mem _ y hy
   have hFU := HB.out.few
   go_wp2_with (first
    | (go_at_call 130; refine (callsIn_wide.1 (Tryz.maps_Keys_130 (some w.heap.size) _)).mono ?_; rintro e w2 ⟨rfl, rfl⟩)
    | (go_at_call 99; refine (callsIn_wide.1 (sorted130 hf2 (by omega) R hkl)).mono ?_; rintro e w3 ⟨A3, c3, rfl, ho3, hb3⟩))
   go_ret
   exact ⟨A3, c3, rfl, ownsRow_base_a ho3 (by omega), below_next hb2 (by omega) hb3⟩
  | cons x L =>
   obtain ⟨g, o, c3, rfl, rfl, hbg, hglt, hcell⟩ := hq2.cons
   have hxr := HF.out.re x (.inr (by simp))
   obtain ⟨y, hy⟩ := hxr.last
   have hxs : x.size ≤ maxLen := HB.out.sz _ x hy
   have hxU : x ∈ U := HB.out.mem _ x hy
   clear hy hxr
   have HXU := Lib.hid hxU
   clear hxU
   have hlk := hf2.look keyT Tryz.underlying162 (zero4b wr) (key_any x hxs)
   have hmr : MapIs wr Tryz.prog 9 m n0 (bookV b) := hm.below hb2 hml
   have hf2l := hf2.lt
   obtain ⟨hk1, hk2⟩ := HK.out
   simp only [List.length_cons] at hk1 hk2
   have HK1 := Lib.hid hk1
   have HK2 := Lib.hid hk2
   clear hk1 hk2 HK
   rcases Nat.eq_zero_or_pos c3 with hc0 | hc0
   ·subst hc0
    obtain ⟨rfl, hq3⟩ := hq2.tail0
    by_cases hxF : x ∈ F
    ·have HF2 := Lib.hid (HF.out.seen hxF)
     rw [setF_val F x hxF] at hlk
     clear hxF hq2
     go_wp2_with fail
     go_roundg (3 * (U.length - F.length))
     case measure => have := HK2.out; simp at this; omega
     case rel => exact ⟨_, _, [], F, rfl, hq3, hf2, HF2, Lib.hid ⟨by simp, by simp⟩, hz2, hb2⟩
    ·have HF2 := Lib.hid (HF.out.next hxF)
     have hFl : (F ++ [x]).length ≤ U.length := HF2.out.size fun x y hy => HB.out.mem _ y hy
     have HFl := Lib.hid hFl
     have hFm : F.length < maxLen := by have := HB.out.few; simp at hFl; simp [maxLen]; omega
     rw [setF_no F x hxF] at hlk
     clear hxF hq2 hFl
     have hq4 : ∀ w2 w3 : World, wr.grownBy w2 (some w.heap.size) → Below w2.heap.size w2 w3 → OwnQ w3 (w.heap.size + 1) (some ⟨g, o, none⟩) 0 ([] : List ByteArray) := fun w2 w3 hg hb => by
      refine OwnQ.below (w := w2) ?_ hb
      exact hq3.grown hg (Nat.lt_succ_self _)
     go_wp2_with (first
      | (refine wpl_put rfl (.tmp 24) (.tmp 25) (.const (.bool true)) 162 4 rfl Tryz.underlying162 hf2 hFm x hxs (.bool true) rfl rfl rfl ?_; intro w2 hf3 hg2 hz3)
      | (go_at_call 129; refine (parts_any b m n0 x _ (hmr.kept hg2 (fun e => by injection e with e; omega)) hxs).mono ?_; rintro e w3 ⟨A3, c4, rfl, ho3, hb3⟩; have hS5 : Strs w3 w3.heap.size A3 (partsL b x.data.toList) := Strs.of_own ho3; have hq5 := hq4 w2 w3 hg2 hb3; have hz5 : w.heap.size + 1 ≤ w3.heap.size := Nat.le_trans hz2 (Nat.le_trans hg2.size hb3.size); have hp5 := parts_two b x.data.toList; have hl5 : ([] : List ByteArray).length + (partsL b x.data.toList).length ≤ 1000000 := (by have := HK1.out; have := HFl.out; have := HB.out.few; simp at *; omega))
      | (refine wpl_appQ rfl (.tmp 26) (.tmp 29) rfl hq5 hS5 rfl rfl hl5 hz5 ?_; intro A6 c6 w6 hq6 hb6))
     have hf6 : MapIs w6 Tryz.prog 9 w.heap.size (F ++ [x]).length (setF (F ++ [x])) := by
      rw [List.length_append]
      exact (((hf3.congr (setF_snoc F x)).below hb3 (by omega)).below hb6 (by omega))
     have hb7 : Below w.heap.size w w6 := (below_next (hb2.grown hg2 hb2.size (fun i e => by injection e with e; omega)) (by omega) hb3).trans (hb6.mono (by omega))
     have hz6 : w.heap.size + 1 ≤ w6.heap.size := Nat.le_trans hz5 hb6.size
     go_roundg ((([] : List ByteArray) ++ partsL b x.data.toList).length + 3 * (U.length - (F ++ [x]).length))
     case measure => have := HK2.out; have := HFl.out; simp at *; omega
     case rel => exact ⟨_, _, ([] : List ByteArray) ++ partsL b x.data.toList, F ++ [x], rfl, hq6, hf6, HF2, Lib.hid ⟨by have := HK1.out; simp at *; omega, Nat.le_refl _⟩, hz6, hb7⟩
   ·have hq3 := hq2.tail
    have hc1 : ¬ (1 : Nat) = c3 + 1 := by omega
    have hc2 : 1 ≤ c3 + 1 := by omega
    by_cases hxF : x ∈ F
    ·have HF2 := Lib.hid (HF.out.seen hxF)
     rw [setF_val F x hxF] at hlk
     clear hxF hq2
     go_wp2_with fail
     go_roundg (L.length + 3 * (U.length - F.length))
     case measure => have := HK2.out; omega
     case rel => exact ⟨_, _, L, F, rfl, hq3, hf2, HF2, Lib.hid ⟨by have := HK1.out; omega, Nat.le_refl _⟩, hz2, hb2⟩
    ·have HF2 := Lib.hid (HF.out.next hxF)
     have hFl : (F ++ [x]).length ≤ U.length := HF2.out.size fun x y hy => HB.out.mem _ y hy
     have HFl := Lib.hid hFl
     have hFm : F.length < maxLen := by have := HB.out.few; simp at hFl; simp [maxLen]; omega
     rw [setF_no F x hxF] at hlk
     clear hxF hq2 hFl
     have hq4 : ∀ w2 w3 : World, wr.grownBy w2 (some w.heap.size) → Below w2.heap.size w2 w3 → OwnQ w3 (w.heap.size + 1) (some ⟨g, o + 1, none⟩) c3 L := fun w2 w3 hg hb => by
      refine OwnQ.below (w := w2) ?_ hb
      exact hq3.grown hg (Nat.lt_succ_self _)
     go_wp2_with (first
      | (refine wpl_put rfl (.tmp 24) (.tmp 25) (.const (.bool true)) 162 4 rfl Tryz.underlying162 hf2 hFm x hxs (.bool true) rfl rfl rfl ?_; intro w2 hf3 hg2 hz3)
      | (go_at_call 129; refine (parts_any b m n0 x _ (hmr.kept hg2 (fun e => by injection e with e; omega)) hxs).mono ?_; rintro e w3 ⟨A3, c4, rfl, ho3, hb3⟩; have hS5 : Strs w3 w3.heap.size A3 (partsL b x.data.toList) := Strs.of_own ho3; have hq5 := hq4 w2 w3 hg2 hb3; have hz5 : w.heap.size + 1 ≤ w3.heap.size := Nat.le_trans hz2 (Nat.le_trans hg2.size hb3.size); have hp5 := parts_two b x.data.toList; have hl5 : L.length + (partsL b x.data.toList).length ≤ 1000000 := (by have := HK1.out; have := HFl.out; have := HB.out.few; simp at *; omega))
      | (refine wpl_appQ rfl (.tmp 26) (.tmp 29) rfl hq5 hS5 rfl rfl hl5 hz5 ?_; intro A6 c6 w6 hq6 hb6))
     have hf6 : MapIs w6 Tryz.prog 9 w.heap.size (F ++ [x]).length (setF (F ++ [x])) := by
      rw [List.length_append]
      exact (((hf3.congr (setF_snoc F x)).below hb3 (by omega)).below hb6 (by omega))
     have hb7 : Below w.heap.size w w6 := (below_next (hb2.grown hg2 hb2.size (fun i e => by injection e with e; omega)) (by omega) hb3).trans (hb6.mono (by omega))
     have hz6 : w.heap.size + 1 ≤ w6.heap.size := Nat.le_trans hz5 hb6.size
     go_roundg ((L ++ partsL b x.data.toList).length + 3 * (U.length - (F ++ [x]).length))
     case measure => have := HK2.out; have := HFl.out; simp at *; omega
     case rel => exact ⟨_, _, L ++ partsL b x.data.toList, F ++ [x], by rw [List.length_append], hq6, hf6, HF2, Lib.hid ⟨by have := HK1.out; simp at *; omega, Nat.le_refl _⟩, hz6, hb7⟩
end Go.Proofs.YtbhiphjifdnhmaaGreatDoor
namespace Go.Proofs.YtbhiphjifdnhmaaGreatDoor
open Go.RowKit
theorem bytes_key {s t : ByteArray} (h : s.data.toList = t.data.toList) : s = t := by
 cases s; cases t
 simp only [ByteArray.mk.injEq]
 exact Array.toList_inj.1 h
/-- the meaning of a definition, out of those of its parts, with the first error -/
def madeM (d : Df) (g : ByteArray → (Nat → Int) × Int) : (Nat → Int) × Int :=
 if d.kind = 2 then (if (g d.of).2 = 0 then (joinR plusM (g d.of).1 d.days, joinE plusM (g d.of).1 d.days) else (zeroV, (g d.of).2))
 else if d.kind = 3 ∨ d.kind = 4 then
  (if (g d.of).2 = 0 then
   (if (g d.wth).2 = 0 then
    (if d.kind = 3 then (bothR (g d.of).1 (g d.wth).1, bothE (g d.of).1 (g d.wth).1) else (joinR hullM (g d.of).1 (g d.wth).1, joinE hullM (g d.of).1 (g d.wth).1))
   else (zeroV, (g d.wth).2))
  else (zeroV, (g d.of).2))
 else (d.days, 0)
def mval (b : List UInt8 → Option Df) : Nat → ByteArray → (Nat → Int) × Int
 | 0, _ => (zeroV, 0)
 | k + 1, n => madeM ((b n.data.toList).getD df0) (mval b k)
theorem madeM_congr {d : Df} {g h : ByteArray → (Nat → Int) × Int} (e : ∀ x ∈ dfParts d, g x = h x) : madeM d g = madeM d h := by
 unfold madeM
 by_cases k2 : d.kind = 2
 ·simp only [k2, if_true]
  rw [e d.of (by simp [dfParts, k2])]
 ·by_cases k3 : d.kind = 3 ∨ d.kind = 4
  ·simp only [k2, k3, if_true, if_false]
   rw [e d.of (by simp [dfParts, k2, k3]), e d.wth (by simp [dfParts, k2, k3])]
  ·simp only [k2, k3, if_false]
theorem mval_stable {b : List UInt8 → Option Df} {L : List ByteArray} (h : Topo (prt b) L) : ∀ x ∈ L, ∀ k j, L.length ≤ k → L.length ≤ j → mval b k x = mval b j x := by
 induction h with
 | nil => exact fun x hx => by simp at hx
 | @snoc L y t hy hz ih =>
  intro x hx k j hk hj
  simp only [List.length_append, List.length_singleton] at hk hj
  rcases List.mem_append.1 hx with hx | hx
  ·exact ih x hx k j (by omega) (by omega)
  ·rw [List.mem_singleton.1 hx]
   obtain ⟨k, rfl⟩ : ∃ m, k = m + 1 := ⟨k - 1, by omega⟩
   obtain ⟨j, rfl⟩ : ∃ m, j = m + 1 := ⟨j - 1, by omega⟩
   exact madeM_congr fun z h => ih z (hz z h) k j (by omega) (by omega)
theorem mval_made {b : List UInt8 → Option Df} {L : List ByteArray} {x : ByteArray} (h : Topo (prt b) L) (hp : ∀ z ∈ prt b x, z ∈ L) {N : Nat} (hN : L.length < N) : mval b N x = madeM ((b x.data.toList).getD df0) (mval b N) := by
 obtain ⟨k, rfl⟩ : ∃ m, N = m + 1 := ⟨N - 1, by omega⟩
 exact madeM_congr fun z hz => mval_stable h z (hp z hz) k (k + 1) (by omega) (by omega)
theorem runM_append (b : List UInt8 → Option Df) : ∀ (L M : List ByteArray) (mv : List UInt8 → Option (Nat → Int)), runM b (L ++ M) mv = if (runM b L mv).1 = 0 then runM b M (runM b L mv).2 else runM b L mv
 | [], M, mv => by simp [runM]
 | x :: L, M, mv => by
  simp only [List.cons_append, runM]
  by_cases h : madeE ((b x.data.toList).getD df0) mv = 0
  ·simp only [h, ne_eq, not_true_eq_false, if_false]
   exact runM_append b L M _
  ·simp only [h, ne_eq, not_false_eq_true, if_true, if_false]
/-- names that mean something so far -/
structure Means (b : List UInt8 → Option Df) (N : Nat) (O : List ByteArray) : Prop where
 ok : (runM b O fun _ => none).1 = 0
 val : ∀ x ∈ O, mval b N x = (getV (runM b O fun _ => none).2 x, 0)
theorem made_eq {d : Df} {g : ByteArray → (Nat → Int) × Int} {mv : List UInt8 → Option (Nat → Int)} (h : ∀ x ∈ dfParts d, g x = (getV mv x, 0)) : madeM d g = (madeR d mv, madeE d mv) := by
 unfold madeM madeR madeE
 by_cases k2 : d.kind = 2
 ·simp only [k2, if_true, h d.of (by simp [dfParts, k2])]
 ·by_cases k3 : d.kind = 3
  ·simp only [k3, h d.of (by simp [dfParts, k3]), h d.wth (by simp [dfParts, k3]), true_or, if_true, show ¬ ((3 : Int) = 2) by decide, if_false]
  ·by_cases k4 : d.kind = 4
   ·simp only [k4, h d.of (by simp [dfParts, k4]), h d.wth (by simp [dfParts, k4]), or_true, if_true, show ¬ ((4 : Int) = 2) by decide, show ¬ ((4 : Int) = 3) by decide, if_false]
   ·simp only [k2, k3, k4, or_self, if_false]
theorem made_bad {d : Df} {g : ByteArray → (Nat → Int) × Int} {e : Int} (he : e ≠ 0) {l r : List ByteArray} {x : ByteArray} (hp : dfParts d = l ++ x :: r) (hl : ∀ y ∈ l, (g y).2 = 0) (hx : (g x).2 = e) : (madeM d g).2 = e := by
 unfold madeM
 by_cases k2 : d.kind = 2
 ·simp only [dfParts, k2, if_true] at hp ⊢
  cases l with
  | nil => simp at hp; obtain ⟨rfl, -⟩ := hp; simp [hx, he]
  | cons y l => simp at hp
 ·by_cases k3 : d.kind = 3 ∨ d.kind = 4
  ·simp only [dfParts, k2, k3, if_true, if_false] at hp ⊢
   cases l with
   | nil => simp at hp; obtain ⟨rfl, -⟩ := hp; simp [hx, he]
   | cons y l =>
    simp at hp
    obtain ⟨rfl, hp⟩ := hp
    cases l with
    | nil => simp at hp; obtain ⟨rfl, -⟩ := hp; simp [hx, he, hl d.of (by simp)]
    | cons z l => simp at hp
  ·simp [dfParts, k2, k3] at hp
theorem vs_means {b : List UInt8 → Option Df} {N : Nat} {xs : List ByteArray} {s t : List ByteArray × List ByteArray} (h : Vs (prt b) xs s t) : t.2.length < N → Topo (prt b) s.2 → Means b N s.2 →
  Means b N t.2 ∨ ∃ e l x r, e ≠ 0 ∧ (runM b t.2 fun _ => none).1 = e ∧ xs = l ++ x :: r ∧ (∀ y ∈ l, (mval b N y).2 = 0) ∧ (mval b N x).2 = e := by
 induction h with
 | nil s => exact fun _ _ h => .inl h
 | @old x xs B O t hx _ ih =>
  intro hN ht hm
  rcases ih hN ht hm with h | ⟨e, l, y, r, h1, h2, h3, h4, h5⟩
  ·exact .inl h
  ·refine .inr ⟨e, x :: l, y, r, h1, h2, by rw [h3]; rfl, fun z hz => ?_, h5⟩
   rcases List.mem_cons.1 hz with e | hz
   ·rw [e, hm.val x hx]
   ·exact h4 z hz
 | @new x xs B O B1 O1 t h1 h2 hv hw i1 i2 =>
  intro hN ht hm
  have k1 := hv.keep
  have k2 := hw.keep
  obtain ⟨R2, hR2⟩ := k2.pre
  simp only at hR2
  have hx1 : x ∉ O1 := fun h => (k1.fresh x h).elim h1 fun k => k (by simp)
  have hlen : O1.length + 1 ≤ t.2.length := by rw [hR2]; simp
  have t1 : Topo (prt b) O1 := k1.topo ht
  have hN1 : O1.length < N := by omega
  have hmade := mval_made (x := x) t1 k1.all (N := N) hN1
  have hN1 : O1.length < N := by omega
  rcases i1 hN1 ht hm with hm1 | ⟨e, l, y, r, g1, g2, g3, g4, g5⟩
  ·have hme := made_eq (d := (b x.data.toList).getD df0) (g := mval b N) (mv := (runM b O1 fun _ => none).2) fun z hz => hm1.val z (k1.all z hz)
   rw [hme] at hmade
   have hr : runM b (O1 ++ [x]) (fun _ => none) = runM b [x] (runM b O1 fun _ => none).2 := by rw [runM_append, if_pos hm1.ok]
   by_cases he : madeE ((b x.data.toList).getD df0) (runM b O1 fun _ => none).2 = 0
   ·have hr1 : runM b (O1 ++ [x]) (fun _ => none) = (0, fun s => if s = x.data.toList then some (madeR ((b x.data.toList).getD df0) (runM b O1 fun _ => none).2) else (runM b O1 fun _ => none).2 s) := by
     rw [hr]; simp only [runM, he, ne_eq, not_true_eq_false, if_false]
    have hm2 : Means b N (O1 ++ [x]) := by
     refine ⟨by rw [hr1], fun z hz => ?_⟩
     rw [hr1]
     by_cases hzx : z = x
     ·subst hzx
      rw [hmade, he]
      simp [getV]
     ·have hz1 : z ∈ O1 := by
       rcases List.mem_append.1 hz with hz | hz
       ·exact hz
       ·exact absurd (List.mem_singleton.1 hz) hzx
      rw [hm1.val z hz1]
      have : ¬ z.data.toList = x.data.toList := fun g => hzx (bytes_key g)
      simp [getV, this]
    rcases i2 hN (.snoc t1 hx1 k1.all) hm2 with h | ⟨e, l, y, r, g1, g2, g3, g4, g5⟩
    ·exact .inl h
    ·refine .inr ⟨e, x :: l, y, r, g1, g2, by rw [g3]; rfl, fun z hz => ?_, g5⟩
     rcases List.mem_cons.1 hz with e | hz
     ·rw [e, hmade]; exact he
     ·exact g4 z hz
   ·refine .inr ⟨madeE ((b x.data.toList).getD df0) (runM b O1 fun _ => none).2, [], x, xs, he, ?_, rfl, by simp, by rw [hmade]⟩
    have hr1 : (runM b (O1 ++ [x]) (fun _ => none)).1 = madeE ((b x.data.toList).getD df0) (runM b O1 fun _ => none).2 := by
     rw [hr]; simp only [runM, he, ne_eq, not_false_eq_true, if_true]
    rw [hR2, runM_append, if_neg (by rw [hr1]; exact he)]
    exact hr1
  ·refine .inr ⟨e, [], x, xs, g1, ?_, rfl, by simp, ?_⟩
   ·rw [hR2, List.append_assoc, runM_append, if_neg (by simp only at g2; rw [g2]; exact g1)]
    exact g2
   ·rw [hmade]
    exact made_bad g1 g3 g4 g5
/-- what a name means, found in the order of a walk, is what it means -/
theorem order_means {b : List UInt8 → Option Df} {n : ByteArray} {B O : List ByteArray} (h : Vs (prt b) [n] ([], []) (B, O)) {N : Nat} (hN : O.length < N) : meanE b true O = (mval b N n).2 ∧ (meanE b true O = 0 → meanR b true O n = (mval b N n).1) := by
 rcases vs_means h hN .nil ⟨rfl, fun x hx => by simp at hx⟩ with k | ⟨e, l, x, r, h1, h2, h3, h4, h5⟩
 ·have hv := k.val n (h.keep.all n (by simp))
  refine ⟨?_, fun he => ?_⟩
  ·rw [hv]; show (if true = true then _ else _) = _; rw [if_pos rfl]; exact k.ok
  ·rw [hv, meanR, if_pos he]
 ·have hl : l = [] ∧ x = n := by
   cases l with
   | nil => simp at h3; exact ⟨rfl, h3.1.symm⟩
   | cons y l => simp at h3
  obtain ⟨rfl, rfl⟩ := hl
  have he : meanE b true O = e := by
   show (if true = true then _ else _) = _
   rw [if_pos rfl]
   exact h2
  refine ⟨by rw [he, h5], fun h => absurd (he ▸ h) h1⟩
end Go.Proofs.YtbhiphjifdnhmaaGreatDoor
