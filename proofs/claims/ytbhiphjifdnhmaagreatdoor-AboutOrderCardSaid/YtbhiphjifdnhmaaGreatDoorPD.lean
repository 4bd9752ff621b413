import Derived.Test.YtbhiphjifdnhmaaGreatDoorPB
import Derived.Test.YtbhiphjifdnhmaaGreatDoorPC
import Derived.Test.YtbhiphjifdnhmaaGreatDoorK19
import Derived.Test.YtbhiphjifdnhmaaGreatDoorPA
set_option linter.unusedSimpArgs false
set_option linter.unusedVariables false
/- Plain maths of books, meanings and days. -/
namespace Go.Proofs.YtbhiphjifdnhmaaGreatDoor
open Go.RowKit Go.Maps
theorem bookF_snoc (l : List Df) (known : Int) (x : Df) (s : List UInt8) : bookF (l ++ [x]) known s = if x.known ≤ known ∧ x.name.data.toList = s then (match bookF l known s with | none => some x | some y => if y.known < x.known then some x else some y) else bookF l known s := by
 by_cases hk : x.known ≤ known
 ·by_cases hs : s = x.name.data.toList
  ·subst hs
   rw [if_pos ⟨hk, rfl⟩]
   unfold bookF
   rw [grpL_yes l known x hk]
   simp only [if_true]
   cases hg : grpL l known x.name.data.toList with
   | nil => simp [maxD]
   | cons d t =>
    simp only [List.cons_append]
    rw [maxD_snoc]
    split <;> rfl
  ·rw [if_neg (fun h => hs h.2.symm)]
   unfold bookF
   rw [grpL_yes l known x hk]
   simp only [if_neg hs]
 ·rw [if_neg (fun h => hk h.1)]
  unfold bookF
  rw [grpL_no l known x hk]
end Go.Proofs.YtbhiphjifdnhmaaGreatDoor
namespace Go.Proofs.YtbhiphjifdnhmaaGreatDoor
open Go.RowKit Go.Maps
theorem joinR_no (m : Int → Int → Int → Int → Int × Int) (a b : Nat → Int) (h : joinE m a b ≠ 0) : joinR m a b = zeroV := orZero_no _ h
theorem bothR_no (a b : Nat → Int) (h : bothE a b ≠ 0) : bothR a b = zeroV := orZero_no _ h
theorem madeM_no (d : Df) (g : ByteArray → (Nat → Int) × Int) (h : (madeM d g).2 ≠ 0) : (madeM d g).1 = zeroV := by
 unfold madeM at h ⊢
 split
 ·rename_i k
  rw [if_pos k] at h
  split
  ·rename_i j
   rw [if_pos j] at h
   exact joinR_no _ _ _ h
  ·rfl
 ·rename_i k
  rw [if_neg k] at h
  split
  ·rename_i k3
   rw [if_pos k3] at h
   split
   ·rename_i j
    rw [if_pos j] at h
    split
    ·rename_i j2
     rw [if_pos j2] at h
     split
     ·rename_i k4
      rw [if_pos k4] at h
      exact bothR_no _ _ h
     ·rename_i k4
      rw [if_neg k4] at h
      exact joinR_no _ _ _ h
    ·rfl
   ·rfl
  ·rename_i k3
   rw [if_neg k3] at h
   exact absurd rfl h
end Go.Proofs.YtbhiphjifdnhmaaGreatDoor
namespace Go.Proofs.YtbhiphjifdnhmaaGreatDoor
open Go.RowKit Go.Maps
def KindOk (d : Df) : Prop := d.kind = 1 ∨ d.kind = 2 ∨ d.kind = 3 ∨ d.kind = 4
theorem mval_no (b : List UInt8 → Option Df) : ∀ (k : Nat) (x : ByteArray), (mval b k x).2 ≠ 0 → (mval b k x).1 = zeroV
 | 0, _, h => absurd rfl h
 | k + 1, n, h => madeM_no _ _ h
end Go.Proofs.YtbhiphjifdnhmaaGreatDoor
namespace Go.Proofs.YtbhiphjifdnhmaaGreatDoor
open Go.RowKit Go.Maps
theorem mem_cmpt {zs : List Int} {x : Int} (h : x ∈ cmpt zs) : x ∈ zs := by
 unfold cmpt Lib.compact Lib.compactUpTo at h
 obtain ⟨i, hi, rfl⟩ := List.mem_map.1 h
 have h1 := List.mem_range.1 (List.mem_filter.1 hi).1
 simp [h1]
theorem cmpt_iff {zs : List Int} {x : Int} : x ∈ cmpt zs ↔ x ∈ zs := by
 refine ⟨mem_cmpt, fun hx => ?_⟩
 unfold cmpt Lib.compact Lib.compactUpTo
 obtain ⟨i, hi, rfl⟩ := List.mem_iff_getElem.1 hx
 clear hx
 induction i with
 | zero =>
  refine List.mem_map.2 ⟨0, List.mem_filter.2 ⟨List.mem_range.2 hi, by simp [Lib.keeps]⟩, ?_⟩
  simp [hi]
 | succ i ih =>
  by_cases hk : Lib.keeps zs.toArray (i + 1) = true
  ·refine List.mem_map.2 ⟨i + 1, List.mem_filter.2 ⟨List.mem_range.2 hi, hk⟩, ?_⟩
   simp [hi]
  ·have he : zs[i + 1] = zs[i] := by
    have h2 : i < zs.length := by omega
    simpa [Lib.keeps, hi, h2] using hk
   rw [he]
   exact ih (by omega)
theorem cmpt_rise {zs : List Int} (h : zs.Pairwise (· ≤ ·)) : (cmpt zs).Pairwise (· < ·) := by
 unfold cmpt Lib.compact Lib.compactUpTo
 rw [List.pairwise_map]
 refine List.Pairwise.imp_of_mem ?_ (List.pairwise_lt_range.filter _)
 intro i j hi hj hij
 obtain ⟨hi1, hi2⟩ := List.mem_filter.1 hi
 obtain ⟨hj1, hj2⟩ := List.mem_filter.1 hj
 have h1 := List.mem_range.1 hi1
 have h2 := List.mem_range.1 hj1
 have h3 : j - 1 < zs.length := by omega
 have hp := List.pairwise_iff_getElem.1 h
 have e1 : zs[i] ≤ zs[j - 1] := by
  by_cases e : i = j - 1
  ·subst e; exact Int.le_refl _
  ·exact hp i (j - 1) h1 h3 (by omega)
 have e2 : zs[j - 1] ≤ zs[j] := hp (j - 1) j h3 h2 (by omega)
 have e3 : zs[j] ≠ zs[j - 1] := by
  have : j ≠ 0 := by omega
  simpa [Lib.keeps, this, h2, h3] using hj2
 simp only [List.size_toArray, h1, h2, getElem!_pos, List.getElem_toArray]
 omega
theorem srt_sorted (zs : List Int) : (srt zs).Pairwise (· ≤ ·) := by
 have h := List.pairwise_mergeSort (le := fun x y : Int => decide (x ≤ y)) (fun a b c h1 h2 => by simp at *; omega) (fun a b => by simp; omega) zs
 exact h.imp fun h => by simpa using h
theorem srt_perm (zs : List Int) : (srt zs).Perm zs := List.mergeSort_perm _ _
/-- the days up to one on which something comes to be known -/
def daysTo (ks : List Int) (k : Nat) : List Int := ((List.range k).filter fun d : Nat => ks.any fun x => decide (x = (d : Int))).map fun d : Nat => (d : Int)
theorem daysTo_succ (ks : List Int) (k : Nat) : daysTo ks (k + 1) = if (ks.any fun x => decide (x = (k : Int))) = true then daysTo ks k ++ [(k : Int)] else daysTo ks k := by
 unfold daysTo
 rw [List.range_succ, List.filter_append, List.map_append]
 split
 ·rename_i h
  rw [List.filter_cons_of_pos (by simpa using h)]
  rfl
 ·rename_i h
  rw [List.filter_cons_of_neg (by simpa using h)]
  simp
theorem daysTo_mem (ks : List Int) (k : Nat) (x : Int) : x ∈ daysTo ks k ↔ x ∈ ks ∧ 0 ≤ x ∧ x < k := by
 unfold daysTo
 rw [List.mem_map]
 constructor
 ·rintro ⟨d, hd, rfl⟩
  obtain ⟨h1, h2⟩ := List.mem_filter.1 hd
  have h3 := List.mem_range.1 h1
  obtain ⟨y, hy, e⟩ := List.any_eq_true.1 h2
  have := of_decide_eq_true e
  subst this
  exact ⟨hy, by omega, by omega⟩
 ·rintro ⟨h1, h2, h3⟩
  refine ⟨x.toNat, List.mem_filter.2 ⟨List.mem_range.2 (by omega), List.any_eq_true.2 ⟨x, h1, ?_⟩⟩, by omega⟩
  exact decide_eq_true (by omega)
theorem daysTo_rise (ks : List Int) (k : Nat) : (daysTo ks k).Pairwise (· < ·) := by
 unfold daysTo
 rw [List.pairwise_map]
 exact (List.pairwise_lt_range.filter _).imp fun h => by omega
theorem rise_one : ∀ (l m : List Int), l.Pairwise (· < ·) → m.Pairwise (· < ·) → (∀ x, x ∈ l ↔ x ∈ m) → l = m
 | [], [], _, _, _ => rfl
 | [], y :: m, _, _, h => by simpa using (h y).2 (by simp)
 | x :: l, [], _, _, h => by simpa using (h x).1 (by simp)
 | x :: l, y :: m, hl, hm, h => by
  obtain ⟨h1, h2⟩ := List.pairwise_cons.1 hl
  obtain ⟨h3, h4⟩ := List.pairwise_cons.1 hm
  have hxy : x = y := by
   rcases List.mem_cons.1 ((h x).1 (by simp)) with e | e
   ·exact e
   ·rcases List.mem_cons.1 ((h y).2 (by simp)) with f | f
    ·exact f.symm
    ·have := h3 x e; have := h1 y f; omega
  subst hxy
  rw [rise_one l m h2 h4 fun z => ?_]
  constructor
  ·intro hz
   rcases List.mem_cons.1 ((h z).1 (List.mem_cons_of_mem _ hz)) with e | e
   ·have := h1 z hz; omega
   ·exact e
  ·intro hz
   rcases List.mem_cons.1 ((h z).2 (List.mem_cons_of_mem _ hz)) with e | e
   ·have := h3 z hz; omega
   ·exact e
/-- the days on which something comes to be known are the days up to the last one on which something does -/
theorem days_same {ks : List Int} {k : Nat} (h : ∀ x ∈ ks, 0 ≤ x ∧ x < k) : cmpt (srt ks) = daysTo ks k :=
 rise_one _ _ (cmpt_rise (srt_sorted _)) (daysTo_rise _ _) fun x => by
  rw [cmpt_iff, (srt_perm _).mem_iff, daysTo_mem]
  exact ⟨fun hx => ⟨hx, h x hx⟩, fun hx => hx.1⟩
/-- what was there last -/
def lastM (M : Int → (Nat → Int) × Int) : List Int → (Nat → Int) × Int → (Nat → Int) × Int
 | [], p => p
 | d :: t, _ => lastM M t (M d)
theorem lastM_snoc (M : Int → (Nat → Int) × Int) : ∀ (xs : List Int) (d : Int) (p : (Nat → Int) × Int), lastM M (xs ++ [d]) p = M d
 | [], _, _ => rfl
 | x :: xs, d, p => lastM_snoc M xs d (M x)
theorem chgL_snoc (M : Int → (Nat → Int) × Int) : ∀ (xs : List Int) (d : Int) (p : (Nat → Int) × Int), chgL M (xs ++ [d]) p = if (sameV (M d).1 (lastM M xs p).1 && (M d).2 == (lastM M xs p).2) = true then chgL M xs p else chgL M xs p ++ [d]
 | [], d, p => by
  simp only [List.nil_append, chgL, lastM]
  rfl
 | x :: xs, d, p => by
  simp only [List.cons_append, chgL, lastM, chgL_snoc M xs d (M x)]
  split <;> split <;> rfl
theorem chgL_sub (M : Int → (Nat → Int) × Int) : ∀ (xs : List Int) (p : (Nat → Int) × Int), (chgL M xs p).Sublist xs
 | [], _ => List.Sublist.slnil
 | x :: xs, p => by
  simp only [chgL]
  split
  ·exact (chgL_sub M xs _).cons _
  ·exact (chgL_sub M xs _).cons_cons _
theorem chgL_congr {M N : Int → (Nat → Int) × Int} : ∀ (xs : List Int) (p : (Nat → Int) × Int), (∀ x ∈ xs, M x = N x) → chgL M xs p = chgL N xs p
 | [], _, _ => rfl
 | x :: xs, p, h => by
  simp only [chgL, h x (by simp), chgL_congr xs (N x) fun y hy => h y (List.mem_cons_of_mem _ hy)]
theorem bookF_nil (known : Int) (s : List UInt8) : bookF [] known s = none := rfl
theorem bookF_some {known : Int} {s : List UInt8} (l : List Df) : ∀ d, bookF l known s = some d → d ∈ l ∧ d.name.data.toList = s ∧ d.known ≤ known ∧ ∀ x ∈ l, x.name.data.toList = s → x.known ≤ known → x.known ≤ d.known := by
 refine rev_ind (P := fun l => ∀ d, bookF l known s = some d → d ∈ l ∧ d.name.data.toList = s ∧ d.known ≤ known ∧ ∀ x ∈ l, x.name.data.toList = s → x.known ≤ known → x.known ≤ d.known) ?_ ?_ l
 ·intro d h
  rw [bookF_nil] at h
  cases h
 ·intro l x ih d h
  rw [bookF_snoc] at h
  have none_no : bookF l known s = none → ∀ y ∈ l, y.name.data.toList = s → y.known ≤ known → False := by
   refine rev_ind (P := fun l => bookF l known s = none → ∀ y ∈ l, y.name.data.toList = s → y.known ≤ known → False) ?_ ?_ l
   ·intro _ y hy
    cases hy
   ·intro l x ih h y hy h1 h2
    rw [bookF_snoc] at h
    by_cases hx : x.known ≤ known ∧ x.name.data.toList = s
    ·rw [if_pos hx] at h
     cases hb : bookF l known s with
     | none => rw [hb] at h; cases h
     | some z => rw [hb] at h; simp only at h; split at h <;> cases h
    ·rw [if_neg hx] at h
     rcases List.mem_append.1 hy with hy | hy
     ·exact ih h y hy h1 h2
     ·rw [List.mem_singleton] at hy
      subst hy
      exact hx ⟨h2, h1⟩
  by_cases hx : x.known ≤ known ∧ x.name.data.toList = s
  ·rw [if_pos hx] at h
   cases hb : bookF l known s with
   | none =>
    rw [hb] at h
    cases h
    refine ⟨by simp, hx.2, hx.1, fun y hy h1 h2 => ?_⟩
    rcases List.mem_append.1 hy with hy | hy
    ·exact (none_no hb y hy h1 h2).elim
    ·rw [List.mem_singleton] at hy
     subst hy
     exact Int.le_refl _
   | some z =>
    rw [hb] at h
    obtain ⟨z1, z2, z3, z4⟩ := ih z hb
    simp only at h
    split at h
    ·rename_i hlt
     cases h
     refine ⟨by simp, hx.2, hx.1, fun y hy h1 h2 => ?_⟩
     rcases List.mem_append.1 hy with hy | hy
     ·have := z4 y hy h1 h2
      omega
     ·rw [List.mem_singleton] at hy
      subst hy
      exact Int.le_refl _
    ·rename_i hlt
     cases h
     refine ⟨List.mem_append_left _ z1, z2, z3, fun y hy h1 h2 => ?_⟩
     rcases List.mem_append.1 hy with hy | hy
     ·exact z4 y hy h1 h2
     ·rw [List.mem_singleton] at hy
      subst hy
      omega
  ·rw [if_neg hx] at h
   obtain ⟨z1, z2, z3, z4⟩ := ih d h
   refine ⟨List.mem_append_left _ z1, z2, z3, fun y hy h1 h2 => ?_⟩
   rcases List.mem_append.1 hy with hy | hy
   ·exact z4 y hy h1 h2
   ·rw [List.mem_singleton] at hy
    subst hy
    exact (hx ⟨h2, h1⟩).elim
theorem bookF_none {known : Int} {s : List UInt8} (l : List Df) : bookF l known s = none ↔ ∀ y ∈ l, y.name.data.toList = s → y.known ≤ known → False := by
 constructor
 ·refine rev_ind (P := fun l => bookF l known s = none → ∀ y ∈ l, y.name.data.toList = s → y.known ≤ known → False) ?_ ?_ l
  ·intro _ y hy
   cases hy
  ·intro l x ih h y hy h1 h2
   rw [bookF_snoc] at h
   by_cases hx : x.known ≤ known ∧ x.name.data.toList = s
   ·rw [if_pos hx] at h
    cases hb : bookF l known s with
    | none => rw [hb] at h; cases h
    | some z => rw [hb] at h; simp only at h; split at h <;> cases h
   ·rw [if_neg hx] at h
    rcases List.mem_append.1 hy with hy | hy
    ·exact ih h y hy h1 h2
    ·rw [List.mem_singleton] at hy
     subst hy
     exact hx ⟨h2, h1⟩
 ·intro h
  cases hb : bookF l known s with
  | none => rfl
  | some d =>
   obtain ⟨h1, h2, h3, _⟩ := bookF_some l d hb
   exact (h d h1 h2 h3).elim
/-- no two definitions of one name come to be known on one day -/
def OneOf (l : List Df) : Prop := ∀ x ∈ l, ∀ y ∈ l, x.name = y.name → x.known = y.known → x = y
theorem bookF_same {l m : List Df} {known : Int} {s : List UInt8} (hm : OneOf m) (h : ∀ x : Df, x.name.data.toList = s → x.known ≤ known → (x ∈ l ↔ x ∈ m)) : bookF l known s = bookF m known s := by
 cases hb : bookF l known s with
 | none =>
  refine ((bookF_none m).2 fun y hy h1 h2 => ?_).symm
  exact (bookF_none l).1 hb y ((h y h1 h2).2 hy) h1 h2
 | some d =>
  obtain ⟨d1, d2, d3, d4⟩ := bookF_some l d hb
  cases hc : bookF m known s with
  | none => exact ((bookF_none m).1 hc d ((h d d2 d3).1 d1) d2 d3).elim
  | some e =>
   obtain ⟨e1, e2, e3, e4⟩ := bookF_some m e hc
   have hd := (h d d2 d3).1 d1
   have h1 := e4 d hd d2 d3
   have h2 := d4 e ((h e e2 e3).2 e1) e2 e3
   rw [hm d hd e e1 (bytes_key (d2.trans e2.symm)) (by omega)]
theorem prt_agree {b b' : List UInt8 → Option Df} {x : ByteArray} (h : b' x.data.toList = b x.data.toList) : prt b' x = prt b x := by
 unfold prt partsL
 rw [h]
theorem Upon.step {b : List UInt8 → Option Df} {n x y : ByteArray} (h : Upon b n x) (k : y ∈ prt b x) : Upon b n y := by
 rcases h with rfl | h
 ·exact .inr (.one k)
 ·exact .inr (h.snoc k)
theorem Upon.trans {b : List UInt8 → Option Df} {n x y : ByteArray} (h : Upon b n x) (k : Rch (prt b) x y) : Upon b n y := by
 rcases h with rfl | h
 ·exact .inr k
 ·exact .inr (h.trans k)
theorem rch_agree {b b' : List UInt8 → Option Df} {n : ByteArray} (h : ∀ x, Upon b n x → b' x.data.toList = b x.data.toList) {x y : ByteArray} (k : Rch (prt b) x y) : Upon b n x → Rch (prt b') x y := by
 induction k with
 | one hy => exact fun hx => .one (by rw [prt_agree (h _ hx)]; exact hy)
 | more hy _ ih => exact fun hx => .more (by rw [prt_agree (h _ hx)]; exact hy) (ih (hx.step hy))
theorem rch_agree' {b b' : List UInt8 → Option Df} {n : ByteArray} (h : ∀ x, Upon b n x → b' x.data.toList = b x.data.toList) {x y : ByteArray} (k : Rch (prt b') x y) : Upon b n x → Rch (prt b) x y := by
 induction k with
 | one hy => exact fun hx => .one (by rw [← prt_agree (h _ hx)]; exact hy)
 | more hy _ ih =>
  intro hx
  have hy' := hy
  rw [prt_agree (h _ hx)] at hy'
  exact .more hy' (ih (hx.step hy'))
theorem upon_agree {b b' : List UInt8 → Option Df} {n : ByteArray} (h : ∀ x, Upon b n x → b' x.data.toList = b x.data.toList) (x : ByteArray) : Upon b' n x ↔ Upon b n x := by
 constructor
 ·rintro (rfl | k)
  ·exact .inl rfl
  ·exact .inr (rch_agree' h k (.inl rfl))
 ·rintro (rfl | k)
  ·exact .inl rfl
  ·exact .inr (rch_agree h k (.inl rfl))
theorem mval_agree {b b' : List UInt8 → Option Df} {n : ByteArray} (h : ∀ x, Upon b n x → b' x.data.toList = b x.data.toList) : ∀ (N : Nat) (x : ByteArray), Upon b n x → mval b' N x = mval b N x
 | 0, _, _ => rfl
 | N + 1, x, hx => by
  show madeM ((b' x.data.toList).getD df0) (mval b' N) = madeM ((b x.data.toList).getD df0) (mval b N)
  rw [h x hx]
  exact madeM_congr fun z hz => mval_agree h N z (hx.step hz)
theorem MSpec.agree {b b' : List UInt8 → Option Df} {n : ByteArray} {v : Nat → Int} {e : Int} (h : ∀ x, Upon b n x → b' x.data.toList = b x.data.toList) (k : MSpec b n v e) : MSpec b' n v e := by
 have hu := upon_agree h
 rcases k with ⟨⟨x, hx, hn⟩, h2⟩ | ⟨h1, ⟨y, hy, hl⟩, h2⟩ | ⟨h1, h2, K, hK⟩
 ·exact .inl ⟨⟨x, (hu x).2 hx, (h x hx).trans hn⟩, h2⟩
 ·refine .inr (.inl ⟨fun x hx => ?_, ⟨y, (hu y).2 hy, rch_agree h hl hy⟩, h2⟩)
  rw [h x ((hu x).1 hx)]
  exact h1 x ((hu x).1 hx)
 ·refine .inr (.inr ⟨fun x hx => ?_, fun y hy k => h2 y ((hu y).1 hy) (rch_agree' h k ((hu y).1 hy)), K, fun N hN => ?_⟩)
  ·rw [h x ((hu x).1 hx)]
   exact h1 x ((hu x).1 hx)
  ·rw [mval_agree h N n (.inl rfl)]
   exact hK N hN
theorem calScan_ok : ∀ (t pre : List Df), calScan pre t = 0 → (∀ x ∈ t, formedB x = true) ∧ ∀ (i : Nat) (x : Df), t[i]? = some x → (pre ++ t.take i).any (sameD x) = false
 | [], _, _ => ⟨fun x hx => (by cases hx), fun i x h => (by simp at h)⟩
 | y :: t, pre, h => by
  unfold calScan at h
  by_cases h1 : formedB y = false
  ·rw [if_pos h1] at h
   cases h
  ·rw [if_neg h1] at h
   by_cases h2 : pre.any (sameD y) = true
   ·rw [if_pos h2] at h
    cases h
   ·rw [if_neg h2] at h
    obtain ⟨h3, h4⟩ := calScan_ok t (pre ++ [y]) h
    refine ⟨fun x hx => ?_, fun i x hi => ?_⟩
    ·rcases List.mem_cons.1 hx with rfl | hx
     ·simpa using h1
     ·exact h3 x hx
    ·cases i with
     | zero =>
      simp only [List.getElem?_cons_zero, Option.some.injEq] at hi
      subst hi
      simpa using h2
     | succ i =>
      rw [List.getElem?_cons_succ] at hi
      have := h4 i x hi
      rw [List.take_succ_cons]
      simpa using this
theorem calScan_of : ∀ (t pre : List Df), (∀ x ∈ t, formedB x = true) → (∀ (i : Nat) (x : Df), t[i]? = some x → (pre ++ t.take i).any (sameD x) = false) → calScan pre t = 0
 | [], _, _, _ => rfl
 | y :: t, pre, h1, h2 => by
  unfold calScan
  rw [if_neg (by rw [h1 y (by simp)]; decide)]
  have h3 := h2 0 y rfl
  rw [List.take_zero, List.append_nil] at h3
  rw [if_neg (by rw [h3]; decide)]
  refine calScan_of t (pre ++ [y]) (fun x hx => h1 x (List.mem_cons_of_mem _ hx)) fun i x hi => ?_
  have := h2 (i + 1) x (by rw [List.getElem?_cons_succ]; exact hi)
  rw [List.take_succ_cons] at this
  simpa using this
theorem sameD_iff (x y : Df) : sameD x y = true ↔ y.name = x.name ∧ y.known = x.known := by
 unfold sameD
 rw [Bool.and_eq_true, decide_eq_true_eq, decide_eq_true_eq]
theorem any_false {α : Type} {l : List α} {p : α → Bool} : l.any p = false ↔ ∀ x ∈ l, ¬ p x = true := by
 rw [List.any_eq_false]
/-- definitions that have no error -/
structure CalGood (l : List Df) : Prop where
 len : l.length ≤ 30
 form : ∀ d ∈ l, formedB d = true
 twice : NoTwice l
theorem calE_iff (l : List Df) : calE l = 0 ↔ CalGood l := by
 unfold calE
 constructor
 ·intro h
  by_cases h1 : 30 < l.length
  ·rw [if_pos h1] at h
   cases h
  ·rw [if_neg h1] at h
   obtain ⟨h2, h3⟩ := calScan_ok l [] h
   refine ⟨by omega, h2, fun i j x y hji hi hj hxy => ?_⟩
   have h4 := any_false.1 (h3 i x hi)
   have hjl := (List.getElem?_eq_some_iff.1 hj).1
   refine h4 y ?_ ((sameD_iff x y).2 hxy)
   rw [List.nil_append]
   have : (l.take i)[j]? = some y := by rw [List.getElem?_take_of_lt hji]; exact hj
   exact List.mem_of_getElem? this
 ·intro h
  rw [if_neg (by have := h.len; omega)]
  refine calScan_of l [] h.form fun i x hi => any_false.2 fun y hy hs => ?_
  rw [List.nil_append] at hy
  obtain ⟨j, hj⟩ := List.getElem?_of_mem hy
  have hjl := (List.getElem?_eq_some_iff.1 hj).1
  have hji : j < i := by
   rw [List.length_take] at hjl
   omega
  rw [List.getElem?_take_of_lt hji] at hj
  exact h.twice i j x y hji hi hj ((sameD_iff x y).1 hs)
theorem CalGood.one {l : List Df} (h : CalGood l) : OneOf l := by
 intro x hx y hy h1 h2
 obtain ⟨i, hi⟩ := List.getElem?_of_mem hx
 obtain ⟨j, hj⟩ := List.getElem?_of_mem hy
 rcases Nat.lt_trichotomy i j with hij | rfl | hij
 ·exact (h.twice j i y x hij hj hi ⟨h1, h2⟩).elim
 ·rw [hi] at hj
  cases hj
  rfl
 ·exact (h.twice i j x y hij hi hj ⟨h1.symm, h2.symm⟩).elim
/-- what is known of a definition that is formed -/
theorem formedB_day {d : Df} (h : formedB d = true) : 0 ≤ d.known ∧ d.known ≤ 730 := by
 unfold formedB at h
 simp only [Bool.and_eq_true, dayB, decide_eq_true_eq] at h
 exact h.1.2
theorem formedB_kind {d : Df} (h : formedB d = true) : KindOk d := by
 unfold formedB at h
 unfold KindOk
 by_cases h1 : d.kind = 1
 ·exact .inl h1
 ·by_cases h2 : d.kind = 2
  ·exact .inr (.inl h2)
  ·by_cases h3 : d.kind = 3 ∨ d.kind = 4
   ·exact .inr (.inr h3)
   ·rw [if_neg h1, if_neg h2, if_neg h3] at h
    simp at h
end Go.Proofs.YtbhiphjifdnhmaaGreatDoor
namespace Go.Proofs.YtbhiphjifdnhmaaGreatDoor
open Go.RowKit Go.Maps
/-- the texts that definitions name -/
def useL (l : List Df) : List ByteArray := l.flatMap fun d => [d.of, d.wth]
theorem useL_len (l : List Df) : (useL l).length = 2 * l.length := by
 unfold useL
 induction l with
 | nil => rfl
 | cons d l ih =>
  rw [List.flatMap_cons, List.length_append, ih]
  simp
  omega
theorem dfParts_use {d : Df} {x : ByteArray} (h : x ∈ dfParts d) : x = d.of ∨ x = d.wth := by
 unfold dfParts at h
 split at h
 ·exact .inl (List.mem_singleton.1 h)
 ·split at h
  ·simpa using h
  ·cases h
theorem df0_parts : dfParts df0 = [] := rfl
theorem bookOk_of {l : List Df} (hl : l.length ≤ 400) (hs : DfsSz l) (known : Int) : BookOk (bookF l known) (useL l) := by
 have key : ∀ s, ∀ x ∈ partsL (bookF l known) s, ∃ d ∈ l, x = d.of ∨ x = d.wth := by
  intro s x hx
  unfold partsL at hx
  cases hb : bookF l known s with
  | none =>
   rw [hb, Option.getD_none, df0_parts] at hx
   cases hx
  | some d =>
   rw [hb, Option.getD_some] at hx
   exact ⟨d, (bookF_some l d hb).1, dfParts_use hx⟩
 refine ⟨fun s x hx => ?_, fun s x hx => ?_, ?_⟩
 ·obtain ⟨d, hd, rfl | rfl⟩ := key s x hx
  ·exact (hs d hd).2.1
  ·exact (hs d hd).2.2
 ·obtain ⟨d, hd, h⟩ := key s x hx
  exact List.mem_flatMap.2 ⟨d, hd, by simpa using h⟩
 ·rw [useL_len]
  omega
theorem knownE_cal {l : List Df} {k : Int} (h : knownE l k = 0) : CalGood l ∧ 0 ≤ k ∧ k ≤ 730 := by
 unfold knownE at h
 by_cases h0 : calE l = 0
 ·rw [if_pos h0] at h
  refine ⟨(calE_iff l).1 h0, ?_⟩
  cases hk : dayB k
  ·rw [hk] at h
   cases h
  ·simpa [dayB] using hk
 ·rw [if_neg h0] at h
  exact (h0 h).elim
theorem nameE_ok {l : List Df} {n : ByteArray} {k : Int} (h : nameE l n k = 0) : knownE l k = 0 ∧ nameB n = true := by
 unfold nameE at h
 by_cases h0 : knownE l k = 0
 ·rw [if_pos h0] at h
  refine ⟨h0, ?_⟩
  cases hk : nameB n
  ·rw [hk] at h
   cases h
  ·rfl
 ·rw [if_neg h0] at h
  exact (h0 h).elim
/-- the error of what a name rests on -/
def needE (l : List Df) (n : ByteArray) (k : Int) : Int := if nameE l n k = 0 then (if (bookF l k n.data.toList).isSome then 0 else 5) else nameE l n k
end Go.Proofs.YtbhiphjifdnhmaaGreatDoor
namespace Go.Proofs.YtbhiphjifdnhmaaGreatDoor
open Go.RowKit Go.Maps
theorem MSpec.none {b : List UInt8 → Option Df} {n x : ByteArray} {v : Nat → Int} {e : Int} (h : MSpec b n v e) (hx : Upon b n x) (hb : b x.data.toList = .none) : v = zeroV ∧ e = 5 :=
 h.one (.inl ⟨⟨x, hx, hb⟩, rfl, rfl⟩)
theorem MSpec.ring {b : List UInt8 → Option Df} {n y : ByteArray} {v : Nat → Int} {e : Int} (h : MSpec b n v e) (hd : ∀ x, Upon b n x → b x.data.toList ≠ .none) (hy : Upon b n y) (hr : Rch (prt b) y y) : v = zeroV ∧ e = 4 :=
 h.one (.inr (.inl ⟨hd, ⟨y, hy, hr⟩, rfl, rfl⟩))
theorem MSpec.val {b : List UInt8 → Option Df} {n : ByteArray} {v : Nat → Int} {e : Int} (h : MSpec b n v e) (hd : ∀ x, Upon b n x → b x.data.toList ≠ .none) (hr : ∀ y, Upon b n y → ¬ Rch (prt b) y y) :
  ∃ K, ∀ N, K ≤ N → mval b N n = (v, e) := by
 rcases h with ⟨⟨x, hx, hb⟩, _⟩ | ⟨_, ⟨y, hy, hl⟩, _⟩ | ⟨_, _, K, hK⟩
 ·exact absurd hb (hd x hx)
 ·exact absurd hl (hr y hy)
 ·refine ⟨K, fun N hN => ?_⟩
  obtain ⟨h1, h2, h3⟩ := hK N hN
  by_cases h0 : e = 0
  ·exact Prod.ext (h2 h0) h1
  ·exact Prod.ext ((mval_no b N n (by rw [h1]; exact h0)).trans (h3 h0).symm) h1
/-- names that rest on nothing undefined, and not on themselves, can be put in order -/
theorem topo_of {b : List UInt8 → Option Df} {U : List ByteArray} (hb : BookOk b U) (hU : U.length < 1000) (n : ByteArray) (hr : ∀ y, Upon b n y → ¬ Rch (prt b) y y) : ∃ O, Topo (prt b) O ∧ ∀ z, z ∈ O ↔ Upon b n z := by
 have hb2 : BookOk b (n :: U) := ⟨hb.sz, fun s x hx => List.mem_cons_of_mem _ (hb.mem s x hx), by simp; omega⟩
 rcases vs_total hb2 ((n :: U).length + 1) [] [] n (by simp) ⟨List.nodup_nil, fun y h => by simp at h, fun y h => by simp at h, List.nodup_nil⟩ (fun y h => by simp at h) (by simp) with ⟨⟨Bg, O⟩, hV, hBO⟩ | ⟨y, hy, hl⟩
 ·exact ⟨O, hV.order⟩
 ·exact absurd hl (hr y hy)
end Go.Proofs.YtbhiphjifdnhmaaGreatDoor
namespace Go.Proofs.YtbhiphjifdnhmaaGreatDoor
open Go.RowKit Go.Maps
theorem own_setCell {w : World} {base : Nat} {e : TypeId} {size n : Nat} {v : Value} {xs : List Value} (h : w.ownsRow base e size v n xs) {g : Nat} (hg : g < base) (i : Nat) (u : Value) : (w.setCell ⟨g, i, none⟩ u).ownsRow base e size v n xs := by
 refine h.kept (row := some g) ?_ ?_
 ·exact ⟨rfl, rfl, rfl, by simp, fun j _ hne => heap_setCell_other w ⟨g, i, none⟩ j u (fun e => hne (by rw [e]))⟩
 ·cases hv : v.ownBlock with
  | none => exact .inl rfl
  | some i => have := (h.lt i hv).1; right; simp; omega
/-- does something come to be known on a day -/
def someTo (l : List Df) (d : Int) (j : Nat) : Bool := (l.take j).any fun x => decide (x.known = d)
theorem someTo_succ {l : List Df} {d : Int} {j : Nat} {x : Df} (h : l[j]? = some x) : someTo l d (j + 1) = (someTo l d j || decide (x.known = d)) := by
 obtain ⟨h1, h2⟩ := List.getElem?_eq_some_iff.1 h
 unfold someTo
 rw [List.take_succ_eq_append_getElem h1, h2, List.any_append]
 simp
theorem someTo_all (l : List Df) (d : Int) : someTo l d l.length = (l.map (·.known)).any fun x => decide (x = d) := by
 unfold someTo
 rw [List.take_length, List.any_map]
 rfl
end Go.Proofs.YtbhiphjifdnhmaaGreatDoor
