import Derived.WalkKit
import Derived.Deep.Draws
import Derived.Lib.Hide
import Derived.Laws.StructEq
import Derived.OwnWalk
import Derived.Maps.RangeWalk
import Derived.Maps.Views
import Derived.Maps.Ext
import Derived.Maps.OwnSet
/- Vague days as 24 numbers (number 2 i the low end of the degree i + 1, number 2 i + 1 the high end), and the equality of two; nothing of the program is imported. -/
namespace Go.Proofs.YtbhiphjifdnhmaaGreatDoor
open Go.RowKit

/-- the 24 numbers of a vague day -/
def va (a : Nat → Int) : Array Value := ((List.range 24).map fun i : Nat => Value.int .i64 (a i)).toArray
theorem va_size (a : Nat → Int) : (va a).size = 24 := by simp [va]
theorem va_get (a : Nat → Int) (i : Nat) (h : i < 24) : (va a)[i]? = some (Value.int .i64 (a i)) := by
  simp [va, List.getElem?_range h]
theorem va_past (a : Nat → Int) (i : Nat) (h : 24 ≤ i) : (va a)[i]? = none := by
  have := va_size a
  simp; omega
theorem va_congr {a b : Nat → Int} (h : ∀ i, i < 24 → a i = b i) : va a = va b := by
  apply Array.ext_getElem?
  intro i
  by_cases hi : i < 24
  · rw [va_get _ _ hi, va_get _ _ hi, h i hi]
  · rw [va_past _ _ (by omega), va_past _ _ (by omega)]
theorem va_inj {a b : Nat → Int} (h : va a = va b) : ∀ i, i < 24 → a i = b i := fun i hi => by
  have := congrArg (fun x : Array Value => x[i]?) h
  simp only [va_get _ _ hi] at this
  injection this with h1
  injection h1
def upd (a : Nat → Int) (c : Nat) (x : Int) : Nat → Int := fun i => if i = c then x else a i
theorem va_set (a : Nat → Int) (c : Nat) (x : Int) (h : c < 24) : (va a).setIfInBounds c (.int .i64 x) = va (upd a c x) := by
  apply Array.ext_getElem?
  intro i
  rw [Array.getElem?_setIfInBounds, va_size]
  by_cases hi : i < 24
  · rw [va_get _ _ hi, va_get _ _ hi]
    by_cases hc : c = i
    · subst hc
      simp [h, upd]
    · rw [if_neg hc, upd, if_neg (fun e => hc e.symm)]
  · rw [if_neg (by omega), va_past _ _ (by omega), va_past _ _ (by omega)]
/-- two vague days are the same -/
def sameV (a b : Nat → Int) : Bool := (List.range 12).all fun i => a (2 * i) == b (2 * i) && a (2 * i + 1) == b (2 * i + 1)
theorem sameV_iff {a b : Nat → Int} : sameV a b = true ↔ ∀ i, i < 24 → a i = b i := by
  simp only [sameV, List.all_eq_true, List.mem_range, Bool.and_eq_true, beq_iff_eq]
  constructor
  · intro h i hi
    rcases Nat.mod_two_eq_zero_or_one i with e | e
    · have := (h (i / 2) (by omega)).1
      rwa [show 2 * (i / 2) = i by omega] at this
    · have := (h (i / 2) (by omega)).2
      rwa [show 2 * (i / 2) + 1 = i by omega] at this
  · exact fun h i hi => ⟨h _ (by omega), h _ (by omega)⟩
theorem sameV_va {a b : Nat → Int} : sameV a b = true ↔ va a = va b := sameV_iff.trans ⟨va_congr, va_inj⟩

section
variable {P : Program} (w : World)
/-- the equality of two vague days' spans -/
theorem run_equalIn_spans (d : Nat) (t e : TypeId) (ht : P.underlying t = some (.array 12 e)) (hsz : ∀ w, (sizeOf e).run P w = .ok 2 w) (hagg : ∀ w, (isAgg e).run P w = .ok true w)
    (heq : ∀ (w : World) (x0 x1 y0 y1 : Int), (Op.equalIn d e (.agg #[.int .i64 x0, .int .i64 x1]) (.agg #[.int .i64 y0, .int .i64 y1])).run P w = .ok (x0 == y0 && x1 == y1) w) (a b : Nat → Int) :
    (Op.equalIn (d + 1) t (.agg (va a)) (.agg (va b))).run P w = .ok (sameV a b) w := by
  have px : ∀ (a : Nat → Int) (i : Nat) (w : World), i < 12 → (part e (va a) (i * 2)).run P w = .ok (.agg #[.int .i64 (a (2 * i)), .int .i64 (a (2 * i + 1))]) w := fun a i w hi => by
    have : (va a).extract (i * 2) (i * 2 + 2) = #[.int .i64 (a (2 * i)), .int .i64 (a (2 * i + 1))] := by
      apply Array.ext_getElem?
      intro k
      rw [Array.getElem?_extract]
      match k with
      | 0 => simp [va_get a (i * 2) (by omega), va_size]; exact ⟨by omega, by rw [Nat.mul_comm]⟩
      | 1 => simp [va_get a (i * 2 + 1) (by omega), va_size]; exact ⟨by omega, by rw [Nat.mul_comm]⟩
      | k + 2 => simp [va_size]; omega
    simp [part, hagg, hsz, this]
  unfold sameV
  rw [List.range_eq_range', Op.equalIn]
  simp only [Sem.run_bind, run_underlying ht, Result.andThen_ok, hsz, Std.Legacy.Range.forIn_eq_forIn_range', Std.Legacy.Range.size, Nat.sub_zero, Nat.add_sub_cancel, Nat.div_one]
  have hl : ∀ i ∈ List.range' 0 12 1, i < 12 := fun i hi => by simpa using (List.mem_range'_1.1 hi).2
  generalize List.range' 0 12 1 = l at hl ⊢
  induction l with
  | nil => simp
  | cons i l ih =>
    have hi : i < 12 := hl i (by simp)
    simp only [List.forIn_cons, Sem.run_bind, px _ _ _ hi, heq, Result.andThen_ok, List.all_cons]
    cases hb : (a (2 * i) == b (2 * i) && a (2 * i + 1) == b (2 * i + 1))
    · simp
    · simp only [Bool.not_true, Bool.false_eq_true, if_false, Sem.run_pure, Result.andThen_ok, Bool.true_and]
      exact ih fun j hj => hl j (by simp [hj])
end
end Go.Proofs.YtbhiphjifdnhmaaGreatDoor

/- The plain mathematics of vague days: what Check, Around, the sums, Both, Hull, Holds, Degree come to. -/
namespace Go.Proofs.YtbhiphjifdnhmaaGreatDoor

def numB (n : Int) : Bool := decide (-3000 ≤ n) && decide (n ≤ 3000)
theorem numB_iff {n : Int} : numB n = true ↔ -3000 ≤ n ∧ n ≤ 3000 := by simp [numB]
/-- what must hold of the span of one degree -/
def okAt (a : Nat → Int) (i : Nat) : Bool :=
  (decide (a (2 * i) ≤ a (2 * i + 1)) && (numB (a (2 * i)) && numB (a (2 * i + 1)))) && (i == 0 || (decide (a (2 * (i - 1)) ≤ a (2 * i)) && decide (a (2 * i + 1) ≤ a (2 * (i - 1) + 1))))
def vokTo (a : Nat → Int) (k : Nat) : Bool := (List.range k).all (okAt a)
theorem vokTo_succ (a : Nat → Int) (k : Nat) : vokTo a (k + 1) = (vokTo a k && okAt a k) := by
  simp [vokTo, List.range_succ, List.all_append]
def vok (a : Nat → Int) : Bool := vokTo a 12
theorem vokTo_mono {a : Nat → Int} {k n : Nat} (h : vokTo a n = true) (hk : k ≤ n) : vokTo a k = true := by
  simp only [vokTo, List.all_eq_true, List.mem_range] at h ⊢
  exact fun i hi => h i (by omega)
/-- what a right vague day is -/
structure VOk (a : Nat → Int) : Prop where
  sp : ∀ i, i < 12 → a (2 * i) ≤ a (2 * i + 1)
  lo : ∀ i, i < 12 → -3000 ≤ a (2 * i) ∧ a (2 * i) ≤ 3000
  hi : ∀ i, i < 12 → -3000 ≤ a (2 * i + 1) ∧ a (2 * i + 1) ≤ 3000
  nl : ∀ i, i < 11 → a (2 * i) ≤ a (2 * (i + 1))
  nh : ∀ i, i < 11 → a (2 * (i + 1) + 1) ≤ a (2 * i + 1)
theorem okAt_iff {a : Nat → Int} {i : Nat} : okAt a i = true ↔ (a (2 * i) ≤ a (2 * i + 1) ∧ (-3000 ≤ a (2 * i) ∧ a (2 * i) ≤ 3000) ∧ (-3000 ≤ a (2 * i + 1) ∧ a (2 * i + 1) ≤ 3000)) ∧ (i = 0 ∨ (a (2 * (i - 1)) ≤ a (2 * i) ∧ a (2 * i + 1) ≤ a (2 * (i - 1) + 1))) := by
  simp [okAt, numB_iff, and_assoc]
theorem vok_iff {a : Nat → Int} : vok a = true ↔ VOk a := by
  simp only [vok, vokTo, List.all_eq_true, List.mem_range, okAt_iff]
  constructor
  · intro h
    refine ⟨fun i hi => (h i hi).1.1, fun i hi => (h i hi).1.2.1, fun i hi => (h i hi).1.2.2, fun i hi => ?_, fun i hi => ?_⟩
    · rcases (h (i + 1) (by omega)).2 with e | ⟨e, _⟩
      · omega
      · simpa using e
    · rcases (h (i + 1) (by omega)).2 with e | ⟨_, e⟩
      · omega
      · simpa using e
  · rintro ⟨h1, h2, h3, h4, h5⟩ i hi
    refine ⟨⟨h1 i hi, h2 i hi, h3 i hi⟩, ?_⟩
    rcases Nat.eq_zero_or_pos i with e | e
    · exact .inl e
    · have a1 := h4 (i - 1) (by omega)
      have a2 := h5 (i - 1) (by omega)
      rw [show i - 1 + 1 = i by omega] at a1 a2
      exact .inr ⟨a1, a2⟩
theorem VOk.all {a : Nat → Int} (h : VOk a) (i : Nat) (hi : i < 24) : -3000 ≤ a i ∧ a i ≤ 3000 := by
  rcases Nat.mod_two_eq_zero_or_one i with e | e
  · have := h.lo (i / 2) (by omega)
    rwa [show 2 * (i / 2) = i by omega] at this
  · have := h.hi (i / 2) (by omega)
    rwa [show 2 * (i / 2) + 1 = i by omega] at this
/-- the ends of the greater degrees lie between those of the lesser ones -/
theorem VOk.nest {a : Nat → Int} (h : VOk a) {i k : Nat} (hik : i ≤ k) (hk : k < 12) : a (2 * i) ≤ a (2 * k) ∧ a (2 * k + 1) ≤ a (2 * i + 1) := by
  induction k with
  | zero => obtain rfl : i = 0 := by omega
            exact ⟨Int.le_refl _, Int.le_refl _⟩
  | succ k ih =>
    rcases Nat.lt_or_ge i (k + 1) with e | e
    · obtain ⟨a1, a2⟩ := ih (by omega) (by omega)
      have := h.nl k (by omega)
      have := h.nh k (by omega)
      exact ⟨by omega, by omega⟩
    · obtain rfl : i = k + 1 := by omega
      exact ⟨Int.le_refl _, Int.le_refl _⟩
/-- Check -/
def chkV (a : Nat → Int) : Int := if vok a then 0 else 1
theorem chkV_ok {a : Nat → Int} (h : vok a = true) : chkV a = 0 := by simp [chkV, h]
theorem chkV_no {a : Nat → Int} (h : vok a = false) : chkV a = 1 := by simp [chkV, h]
/-- the error of two vague days -/
def chk2 (a b : Nat → Int) : Int := if vok a && vok b then 0 else 1
theorem vok_congr {a b : Nat → Int} (h : ∀ i, i < 24 → a i = b i) : vok a = vok b := by
  unfold vok vokTo
  rw [Bool.eq_iff_iff, List.all_eq_true, List.all_eq_true]
  have : ∀ i, i < 12 → okAt a i = okAt b i := fun i hi => by
    unfold okAt
    rw [h _ (by omega), h _ (by omega), h (2 * (i - 1)) (by omega), h (2 * (i - 1) + 1) (by omega)]
  constructor
  · exact fun g i hi => (this i (by simpa using hi)) ▸ g i hi
  · exact fun g i hi => (this i (by simpa using hi)).symm ▸ g i hi

/-- nothing -/
def zeroV : Nat → Int := fun _ => 0
/-- a vague day that is made span by span -/
def joinV (m : Int → Int → Int → Int → Int × Int) (a b : Nat → Int) : Nat → Int := fun i =>
  if i % 2 = 0 then (m (a i) (a (i + 1)) (b i) (b (i + 1))).1 else (m (a (i - 1)) (a i) (b (i - 1)) (b i)).2
theorem joinV_lo (m : Int → Int → Int → Int → Int × Int) (a b : Nat → Int) (i : Nat) : joinV m a b (2 * i) = (m (a (2 * i)) (a (2 * i + 1)) (b (2 * i)) (b (2 * i + 1))).1 := by
  simp [joinV]
theorem joinV_hi (m : Int → Int → Int → Int → Int × Int) (a b : Nat → Int) (i : Nat) : joinV m a b (2 * i + 1) = (m (a (2 * i)) (a (2 * i + 1)) (b (2 * i)) (b (2 * i + 1))).2 := by
  have : (2 * i + 1) % 2 = 1 := by omega
  simp [joinV, this]
def plusM (s0 s1 t0 t1 : Int) : Int × Int := (s0 + t0, s1 + t1)
def lessM (s0 s1 t0 t1 : Int) : Int × Int := (s0 - t1, s1 - t0)
def hullM (s0 s1 t0 t1 : Int) : Int × Int := (min s0 t0, max s1 t1)
/-- the error of what was made of right spans -/
def rngE (c : Nat → Int) : Int := if numB (c 0) && numB (c 1) then 0 else 3
/-- what was made, if there is no error -/
def orZero (c : Nat → Int) (e : Int) : Nat → Int := if e = 0 then c else zeroV
theorem orZero_ok (c : Nat → Int) : orZero c 0 = c := if_pos rfl
theorem orZero_no (c : Nat → Int) {e : Int} (h : e ≠ 0) : orZero c e = zeroV := if_neg h
/-- the first k degrees of something, and nothing behind -/
def firstV (c : Nat → Int) (k : Nat) : Nat → Int := fun i => if i < 2 * k then c i else 0
theorem firstV_zero (c : Nat → Int) : va (firstV c 0) = va zeroV := va_congr fun i _ => by simp [firstV, zeroV]
theorem firstV_all (c : Nat → Int) : va (firstV c 12) = va c := va_congr fun i hi => by simp [firstV, hi]
theorem firstV_upd (c : Nat → Int) (k : Nat) : va (upd (upd (firstV c k) (2 * k) (c (2 * k))) (2 * k + 1) (c (2 * k + 1))) = va (firstV c (k + 1)) := va_congr fun i _ => by
  unfold upd firstV
  by_cases h1 : i = 2 * k + 1
  · subst h1
    rw [if_pos rfl, if_pos (by omega)]
  · rw [if_neg h1]
    by_cases h2 : i = 2 * k
    · subst h2
      rw [if_pos rfl, if_pos (by omega)]
    · rw [if_neg h2]
      by_cases h3 : i < 2 * k
      · rw [if_pos h3, if_pos (by omega)]
      · rw [if_neg h3, if_neg (by omega)]
/-- join's error, and what it returns -/
def joinE (m : Int → Int → Int → Int → Int × Int) (a b : Nat → Int) : Int := if vok a && vok b then rngE (joinV m a b) else 1
def joinR (m : Int → Int → Int → Int → Int × Int) (a b : Nat → Int) : Nat → Int := orZero (joinV m a b) (joinE m a b)
theorem joinE_no (m : Int → Int → Int → Int → Int × Int) {a b : Nat → Int} (h : (vok a && vok b) = false) : joinE m a b = 1 := by simp [joinE, h]
theorem joinE_ok (m : Int → Int → Int → Int → Int × Int) {a b : Nat → Int} (h : (vok a && vok b) = true) : joinE m a b = rngE (joinV m a b) := by simp [joinE, h]

/-- Around -/
def aroundV (lo hi wider : Int) : Nat → Int := fun i => if i % 2 = 0 then lo - wider * (11 - (i / 2 : Nat)) else hi + wider * (11 - (i / 2 : Nat))
theorem aroundV_lo (lo hi wider : Int) (i : Nat) : aroundV lo hi wider (2 * i) = lo - wider * (11 - (i : Int)) := by
  simp [aroundV]
theorem aroundV_hi (lo hi wider : Int) (i : Nat) : aroundV lo hi wider (2 * i + 1) = hi + wider * (11 - (i : Int)) := by
  have h : (2 * i + 1) % 2 = 1 := by omega
  have h2 : (2 * i + 1) / 2 = i := by omega
  simp [aroundV, h, h2]
def aroundB (lo hi wider : Int) : Bool := (decide (lo ≤ hi) && (numB lo && numB hi)) && (decide (0 ≤ wider) && decide (wider ≤ 3000))
def aroundE (lo hi wider : Int) : Int := if aroundB lo hi wider then rngE (aroundV lo hi wider) else 1
def aroundR (lo hi wider : Int) : Nat → Int := orZero (aroundV lo hi wider) (aroundE lo hi wider)

/-- Degree -/
def hasAt (a : Nat → Int) (n : Int) (i : Nat) : Bool := decide (a (2 * i) ≤ n) && decide (n ≤ a (2 * i + 1))
def degTo (a : Nat → Int) (n : Int) : Nat → Int
  | 0 => 0
  | k + 1 => if hasAt a n k then (k : Int) + 1 else degTo a n k
theorem degTo_le (a : Nat → Int) (n : Int) : ∀ k : Nat, 0 ≤ degTo a n k ∧ degTo a n k ≤ k
  | 0 => ⟨Int.le_refl _, Int.le_refl _⟩
  | k + 1 => by
    have := degTo_le a n k
    unfold degTo
    split <;> omega

/-- Both: what both say to a degree, and the last that they have in common up to it -/
def meetM (s0 s1 t0 t1 : Int) : Int × Int := (max s0 t0, min s1 t1)
def meetV (a b : Nat → Int) : Nat → Int := joinV meetM a b
def meets (a b : Nat → Int) (k : Nat) : Bool := decide (meetV a b (2 * k) ≤ meetV a b (2 * k + 1))
def lastTo (a b : Nat → Int) : Nat → Int × Int
  | 0 => (0, 0)
  | k + 1 => if meets a b k then (meetV a b (2 * k), meetV a b (2 * k + 1)) else lastTo a b k
def bothN (a b : Nat → Int) : Nat → Int
  | 0 => 0
  | k + 1 => if meets a b k then (k : Int) + 1 else bothN a b k
theorem bothN_le (a b : Nat → Int) : ∀ k : Nat, 0 ≤ bothN a b k ∧ bothN a b k ≤ k
  | 0 => ⟨Int.le_refl _, Int.le_refl _⟩
  | k + 1 => by
    have := bothN_le a b k
    unfold bothN
    split <;> omega
def bothV (a b : Nat → Int) : Nat → Int := fun i => if i % 2 = 0 then (lastTo a b (i / 2 + 1)).1 else (lastTo a b (i / 2 + 1)).2
theorem bothV_lo (a b : Nat → Int) (i : Nat) : bothV a b (2 * i) = (lastTo a b (i + 1)).1 := by simp [bothV]
theorem bothV_hi (a b : Nat → Int) (i : Nat) : bothV a b (2 * i + 1) = (lastTo a b (i + 1)).2 := by
  have h : (2 * i + 1) % 2 = 1 := by omega
  have h2 : (2 * i + 1) / 2 = i := by omega
  simp [bothV, h, h2]
def bothE (a b : Nat → Int) : Int := if vok a && vok b then (if bothN a b 12 = 0 then 9 else 0) else 1
def bothR (a b : Nat → Int) : Nat → Int := orZero (bothV a b) (bothE a b)
def bothK (a b : Nat → Int) : Int := if bothE a b = 0 then bothN a b 12 else 0

/-- Holds -/
def holdsAt (a b : Nat → Int) (i : Nat) : Bool := decide (b (2 * i) ≤ a (2 * i)) && decide (a (2 * i + 1) ≤ b (2 * i + 1))
def holdsTo (a b : Nat → Int) (k : Nat) : Bool := (List.range k).all (holdsAt a b)
theorem holdsTo_succ (a b : Nat → Int) (k : Nat) : holdsTo a b (k + 1) = (holdsTo a b k && holdsAt a b k) := by
  simp [holdsTo, List.range_succ, List.all_append]
theorem holdsTo_mono {a b : Nat → Int} {k n : Nat} (h : holdsTo a b n = true) (hk : k ≤ n) : holdsTo a b k = true := by
  simp only [holdsTo, List.all_eq_true, List.mem_range] at h ⊢
  exact fun i hi => h i (by omega)
def holdsV (a b : Nat → Int) : Bool := (vok a && vok b) && holdsTo a b 12

end Go.Proofs.YtbhiphjifdnhmaaGreatDoor

/- What is made of right vague days is right; Both up to its own degree; Degree by the spans. -/
namespace Go.Proofs.YtbhiphjifdnhmaaGreatDoor

/-- spans that lie in each other -/
structure Nested (c : Nat → Int) : Prop where
  sp : ∀ i, i < 12 → c (2 * i) ≤ c (2 * i + 1)
  nl : ∀ i, i < 11 → c (2 * i) ≤ c (2 * (i + 1))
  nh : ∀ i, i < 11 → c (2 * (i + 1) + 1) ≤ c (2 * i + 1)
theorem VOk.nested {a : Nat → Int} (h : VOk a) : Nested a := ⟨h.sp, h.nl, h.nh⟩
theorem Nested.out {c : Nat → Int} (h : Nested c) : ∀ k, k < 12 → c 0 ≤ c (2 * k) ∧ c (2 * k + 1) ≤ c 1
  | 0, _ => ⟨Int.le_refl _, Int.le_refl _⟩
  | k + 1, hk => by
    obtain ⟨a1, a2⟩ := h.out k (by omega)
    have := h.nl k (by omega)
    have := h.nh k (by omega)
    exact ⟨by omega, by omega⟩
theorem Nested.vok {c : Nat → Int} (h : Nested c) : vok c = (numB (c 0) && numB (c 1)) := by
  rw [Bool.eq_iff_iff, vok_iff, Bool.and_eq_true, numB_iff, numB_iff]
  constructor
  · intro g
    exact ⟨g.lo 0 (by omega), g.hi 0 (by omega)⟩
  · rintro ⟨g0, g1⟩
    refine ⟨h.sp, fun i hi => ?_, fun i hi => ?_, h.nl, h.nh⟩
    · have := h.out i hi
      have := h.sp i hi
      omega
    · have := h.out i hi
      have := h.sp i hi
      omega
theorem Nested.rng {c : Nat → Int} (h : Nested c) : rngE c = if Go.Proofs.YtbhiphjifdnhmaaGreatDoor.vok c then 0 else 3 := by
  rw [h.vok]; rfl
theorem plus_nested {a b : Nat → Int} (ha : VOk a) (hb : VOk b) : Nested (joinV plusM a b) := by
  refine ⟨fun i hi => ?_, fun i hi => ?_, fun i hi => ?_⟩ <;> simp only [joinV_lo, joinV_hi, plusM]
  · have := ha.sp i hi; have := hb.sp i hi; omega
  · have := ha.nl i hi; have := hb.nl i hi; omega
  · have := ha.nh i hi; have := hb.nh i hi; omega
theorem less_nested {a b : Nat → Int} (ha : VOk a) (hb : VOk b) : Nested (joinV lessM a b) := by
  refine ⟨fun i hi => ?_, fun i hi => ?_, fun i hi => ?_⟩ <;> simp only [joinV_lo, joinV_hi, lessM]
  · have := ha.sp i hi; have := hb.sp i hi; omega
  · have := ha.nl i hi; have := hb.nh i hi; omega
  · have := ha.nh i hi; have := hb.nl i hi; omega
theorem hull_nested {a b : Nat → Int} (ha : VOk a) (hb : VOk b) : Nested (joinV hullM a b) := by
  refine ⟨fun i hi => ?_, fun i hi => ?_, fun i hi => ?_⟩ <;> simp only [joinV_lo, joinV_hi, hullM]
  · have := ha.sp i hi; have := hb.sp i hi; omega
  · have := ha.nl i hi; have := hb.nl i hi; omega
  · have := ha.nh i hi; have := hb.nh i hi; omega
theorem hull_vok {a b : Nat → Int} (ha : VOk a) (hb : VOk b) : vok (joinV hullM a b) = true := by
  rw [(hull_nested ha hb).vok, Bool.and_eq_true, numB_iff, numB_iff]
  have h1 := joinV_lo hullM a b 0
  have h2 := joinV_hi hullM a b 0
  simp only [Nat.mul_zero, Nat.zero_add, hullM] at h1 h2
  rw [h1, h2]
  have := ha.lo 0 (by omega); have := ha.hi 0 (by omega); have := hb.lo 0 (by omega); have := hb.hi 0 (by omega)
  simp only [Nat.mul_zero, Nat.zero_add] at *
  omega
theorem around_nested {lo hi wider : Int} (h : lo ≤ hi) (hw : 0 ≤ wider) : Nested (aroundV lo hi wider) := by
  have key : ∀ i : Nat, i < 11 → wider * (11 - ((i + 1 : Nat) : Int)) ≤ wider * (11 - (i : Int)) := fun i _ => Int.mul_le_mul_of_nonneg_left (by omega) hw
  refine ⟨fun i hi => ?_, fun i hi => ?_, fun i hi => ?_⟩ <;> simp only [aroundV_lo, aroundV_hi]
  · have : 0 ≤ wider * (11 - (i : Int)) := Int.mul_nonneg hw (by omega)
    omega
  · have := key i hi; omega
  · have := key i hi; omega

theorem meet_nested {a b : Nat → Int} (ha : VOk a) (hb : VOk b) {i k : Nat} (hik : i ≤ k) (hk : k < 12) : meetV a b (2 * i) ≤ meetV a b (2 * k) ∧ meetV a b (2 * k + 1) ≤ meetV a b (2 * i + 1) := by
  simp only [meetV, joinV_lo, joinV_hi, meetM]
  have := ha.nest hik hk
  have := hb.nest hik hk
  omega
theorem meets_less {a b : Nat → Int} (ha : VOk a) (hb : VOk b) {i k : Nat} (hik : i ≤ k) (hk : k < 12) (h : meets a b k = true) : meets a b i = true := by
  simp only [meets, decide_eq_true_eq] at h ⊢
  have := meet_nested ha hb hik hk
  omega
/-- the degrees up to which both agree -/
theorem bothN_iff {a b : Nat → Int} (ha : VOk a) (hb : VOk b) : ∀ n, n ≤ 12 → ∀ k, k < n → (meets a b k = true ↔ (k : Int) < bothN a b n)
  | 0, _, k, hk => by omega
  | n + 1, hn, k, hk => by
    unfold bothN
    by_cases hm : meets a b n = true
    · rw [if_pos hm]
      exact ⟨fun _ => by omega, fun _ => meets_less ha hb (by omega) (by omega) hm⟩
    · rw [if_neg hm]
      rcases Nat.lt_or_ge k n with h | h
      · exact bothN_iff ha hb n (by omega) k h
      · obtain rfl : k = n := by omega
        have := bothN_le a b k
        exact ⟨fun h => absurd h hm, fun h => by omega⟩
theorem lastTo_in {a b : Nat → Int} : ∀ k, k < 12 → meets a b k = true → lastTo a b (k + 1) = (meetV a b (2 * k), meetV a b (2 * k + 1)) := fun k _ h => by
  rw [lastTo, if_pos h]
theorem lastTo_past {a b : Nat → Int} {n : Nat} : ∀ k, n ≤ k → (∀ i, n ≤ i → i < k → meets a b i = false) → lastTo a b k = lastTo a b n
  | 0, h, _ => by obtain rfl : n = 0 := by omega
                  rfl
  | k + 1, h, g => by
    rcases Nat.lt_or_ge k n with e | e
    · obtain rfl : n = k + 1 := by omega
      rfl
    · rw [lastTo, if_neg (by rw [g k e (by omega)]; simp), lastTo_past k e fun i h1 h2 => g i h1 (by omega)]
/-- Both, degree by degree -/
theorem both_at {a b : Nat → Int} (ha : VOk a) (hb : VOk b) {N : Nat} (hN : bothN a b 12 = N) (h0 : 0 < N) (k : Nat) (hk : k < 12) :
    bothV a b (2 * k) = meetV a b (2 * min k (N - 1)) ∧ bothV a b (2 * k + 1) = meetV a b (2 * min k (N - 1) + 1) := by
  have hi := bothN_iff ha hb 12 (Nat.le_refl _)
  have hle := (bothN_le a b 12).2
  rw [bothV_lo, bothV_hi]
  rcases Nat.lt_or_ge k N with h | h
  · have hm : meets a b k = true := (hi k hk).2 (by rw [hN]; omega)
    rw [lastTo_in k hk hm, show min k (N - 1) = k by omega]
    exact ⟨rfl, rfl⟩
  · have hm : meets a b (N - 1) = true := (hi (N - 1) (by omega)).2 (by rw [hN]; omega)
    have := lastTo_past (a := a) (b := b) (n := N) (k + 1) (by omega) fun i h1 h2 => by
      have g := hi i (by omega)
      rw [hN] at g
      cases hc : meets a b i
      · rfl
      · have := g.1 hc
        omega
    rw [this, show N = N - 1 + 1 by omega, lastTo_in (N - 1) (by omega) hm, show min k (N - 1 + 1 - 1) = N - 1 by omega]
    exact ⟨rfl, rfl⟩
theorem both_vok {a b : Nat → Int} (ha : VOk a) (hb : VOk b) (h0 : bothN a b 12 ≠ 0) : VOk (bothV a b) := by
  obtain ⟨N, hN⟩ : ∃ N : Nat, bothN a b 12 = N := ⟨_, (Int.toNat_of_nonneg (bothN_le a b 12).1).symm⟩
  have hp : 0 < N := by rw [hN] at h0; omega
  have hle := (bothN_le a b 12).2
  have hat := both_at ha hb hN hp
  have hi := bothN_iff ha hb 12 (Nat.le_refl _)
  have hm : ∀ k, k < 12 → meets a b (min k (N - 1)) = true := fun k hk => (hi _ (by omega)).2 (by rw [hN]; omega)
  have hs : ∀ k, k < 12 → meetV a b (2 * min k (N - 1)) ≤ meetV a b (2 * min k (N - 1) + 1) := fun k hk => by simpa [meets] using hm k hk
  refine ⟨fun i hi => ?_, fun i hi => ?_, fun i hi => ?_, fun i hi => ?_, fun i hi => ?_⟩
  · rw [(hat i hi).1, (hat i hi).2]; exact hs i hi
  · rw [(hat i hi).1]
    simp only [meetV, joinV_lo, meetM]
    have := ha.lo (min i (N - 1)) (by omega); have := hb.lo (min i (N - 1)) (by omega)
    omega
  · rw [(hat i hi).2]
    simp only [meetV, joinV_hi, meetM]
    have := ha.hi (min i (N - 1)) (by omega); have := hb.hi (min i (N - 1)) (by omega)
    omega
  · rw [(hat i (by omega)).1, (hat (i + 1) (by omega)).1]
    exact (meet_nested ha hb (by omega) (by omega)).1
  · rw [(hat i (by omega)).2, (hat (i + 1) (by omega)).2]
    exact (meet_nested ha hb (by omega) (by omega)).2

/-- a number is allowed to just the degrees up to Degree -/
theorem hasAt_less {a : Nat → Int} (ha : VOk a) {n : Int} {i k : Nat} (hik : i ≤ k) (hk : k < 12) (h : hasAt a n k = true) : hasAt a n i = true := by
  simp only [hasAt, Bool.and_eq_true, decide_eq_true_eq] at h ⊢
  have := ha.nest hik hk
  omega
theorem deg_iff {a : Nat → Int} (ha : VOk a) (n : Int) : ∀ m, m ≤ 12 → ∀ k, k < m → (hasAt a n k = true ↔ (k : Int) < degTo a n m)
  | 0, _, k, hk => by omega
  | m + 1, hm, k, hk => by
    unfold degTo
    by_cases h : hasAt a n m = true
    · rw [if_pos h]
      exact ⟨fun _ => by omega, fun _ => hasAt_less ha (by omega) (by omega) h⟩
    · rw [if_neg h]
      rcases Nat.lt_or_ge k m with h' | h'
      · exact deg_iff ha n m (by omega) k h'
      · obtain rfl : k = m := by omega
        have := degTo_le a n k
        exact ⟨fun g => absurd g h, fun g => by omega⟩
end Go.Proofs.YtbhiphjifdnhmaaGreatDoor

/- What is asked of two vague days (before, near, in), verdicts, and what shows them. -/
namespace Go.Proofs.YtbhiphjifdnhmaaGreatDoor

/-- what is asked of two numbers, with a number of each of two spans for which it is so, or is not so, if it is for any -/
structure Qn where
  so : Int → Int → Bool
  best : Int → Int → Int → Int → Int × Int
  worst : Int → Int → Int → Int → Int × Int
def near1 (lo hi n : Int) : Int := min (max n lo) hi
def apartI (x y : Int) : Int := max (x - y) (y - x)
def qBefore : Qn := ⟨fun x y => decide (x < y), fun s0 _ _ t1 => (s0, t1), fun _ s1 t0 _ => (s1, t0)⟩
def qNear (most : Int) : Qn := ⟨fun x y => decide (apartI x y ≤ most), fun s0 s1 t0 t1 => (near1 s0 s1 (near1 t0 t1 s0), near1 t0 t1 s0),
  fun s0 s1 t0 t1 => if apartI s1 t0 < apartI s0 t1 then (s0, t1) else (s1, t0)⟩
def qIn (lo hi : Int) : Qn := ⟨fun x _ => decide (lo ≤ x) && decide (x ≤ hi), fun s0 s1 t0 _ => (near1 s0 s1 lo, t0), fun s0 s1 t0 _ => if decide (lo ≤ s0) && decide (s0 ≤ hi) then (s1, t0) else (s0, t0)⟩

def bestAt (q : Qn) (a b : Nat → Int) (i : Nat) : Int × Int := q.best (a (2 * i)) (a (2 * i + 1)) (b (2 * i)) (b (2 * i + 1))
def worstAt (q : Qn) (a b : Nat → Int) (i : Nat) : Int × Int := q.worst (a (2 * i)) (a (2 * i + 1)) (b (2 * i)) (b (2 * i + 1))
/-- it can be so at a degree (the index i) -/
def canB (q : Qn) (a b : Nat → Int) (i : Nat) : Bool := q.so (bestAt q a b i).1 (bestAt q a b i).2
/-- it is so for all at a degree -/
def mustB (q : Qn) (a b : Nat → Int) (i : Nat) : Bool := q.so (worstAt q a b i).1 (worstAt q a b i).2

/-- a verdict -/
structure Vd where
  can : Int
  must : Int
  y0 : Int
  y1 : Int
  n0 : Int
  n1 : Int
  deriving DecidableEq
def vd0 : Vd := ⟨0, 0, 0, 0, 0, 0⟩
def vcs (v : Vd) : Array Value := #[.int .i64 v.can, .int .i64 v.must, .int .i64 v.y0, .int .i64 v.y1, .int .i64 v.n0, .int .i64 v.n1]
def canTo (q : Qn) (a b : Nat → Int) : Nat → Int
  | 0 => 0
  | k + 1 => if canB q a b k then (k : Int) + 1 else canTo q a b k
def mustTo (q : Qn) (a b : Nat → Int) : Nat → Int
  | 0 => 1
  | k + 1 => if mustB q a b k then mustTo q a b k else (k : Int) + 2
def yesTo (q : Qn) (a b : Nat → Int) : Nat → Int × Int
  | 0 => (0, 0)
  | k + 1 => if canB q a b k then bestAt q a b k else yesTo q a b k
def noTo (q : Qn) (a b : Nat → Int) : Nat → Int × Int
  | 0 => (0, 0)
  | k + 1 => if mustB q a b k then noTo q a b k else worstAt q a b k
def vdTo (q : Qn) (a b : Nat → Int) (k : Nat) : Vd := ⟨canTo q a b k, mustTo q a b k, (yesTo q a b k).1, (yesTo q a b k).2, (noTo q a b k).1, (noTo q a b k).2⟩
def vdict (q : Qn) (a b : Nat → Int) : Vd := vdTo q a b 12
theorem canTo_le (q : Qn) (a b : Nat → Int) : ∀ k : Nat, 0 ≤ canTo q a b k ∧ canTo q a b k ≤ k
  | 0 => ⟨Int.le_refl _, Int.le_refl _⟩
  | k + 1 => by
    have := canTo_le q a b k
    unfold canTo
    split <;> omega
theorem mustTo_le (q : Qn) (a b : Nat → Int) : ∀ k : Nat, 1 ≤ mustTo q a b k ∧ mustTo q a b k ≤ k + 1
  | 0 => ⟨by simp [mustTo], by simp [mustTo]⟩
  | k + 1 => by
    have := mustTo_le q a b k
    unfold mustTo
    split <;> omega

/-- do numbers show what they should, at a degree from 0 to 12 -/
def showsB (q : Qn) (a b : Nat → Int) (d : Int) (x y : Int) (so : Bool) : Bool :=
  if d = 0 then decide (x = 0) && decide (y = 0) else (hasAt a x (d.toNat - 1) && hasAt b y (d.toNat - 1)) && (q.so x y == so)
def checkQ (q : Qn) (a b : Nat → Int) (v : Vd) : Int :=
  if v.can ≠ (vdict q a b).can ∨ v.must ≠ (vdict q a b).must then 8
  else if (showsB q a b v.can v.y0 v.y1 true && showsB q a b (v.must - 1) v.n0 v.n1 false) then 0 else 8

end Go.Proofs.YtbhiphjifdnhmaaGreatDoor

/- Words of my own for memory: a slice of ints that reads as a list; a block known whole. Nothing of the program is imported. -/
namespace Go.Proofs.YtbhiphjifdnhmaaGreatDoor
open Go.RowKit

theorem ret_bool {a b : Bool} (h : a = b) : Ending.returned (.bool a) = .returned (.bool b) := by rw [h]
theorem ret_int {k : IntKind} {a b : Int} (h : a = b) : Ending.returned (.int k a) = .returned (.int k b) := by rw [h]
theorem below_drewN {B : Nat} {a w : World} (h : Below B a w) (n : Nat) : Below B a (w.drewN n) := ⟨h.os, h.tape, h.output, h.size, h.block⟩
theorem below_new (w : World) (o : Obj) : Below w.heap.size w (w.alloc o) := (Below.refl _ _).alloc (Nat.le_refl _) _
theorem below_new_drewN (w : World) (o : Obj) (n : Nat) : Below w.heap.size w ((w.alloc o).drewN n) := below_drewN (below_new w o) n
/-- one call behind another -/
theorem below_next {B : Nat} {a b c : World} (h : Below B a b) (hB : B ≤ b.heap.size) (k : Below b.heap.size b c) : Below B a c := h.trans (k.mono hB)
theorem bcell {B : Nat} {w w' : World} (h : Below B w w') : (∀ b o, b < B → w'.cell? ⟨b, o, none⟩ = w.cell? ⟨b, o, none⟩) ∧ (∀ b o, b < B → w'.frozen? ⟨b, o, none⟩ = w.frozen? ⟨b, o, none⟩) :=
  ⟨fun b o hb => h.cell (p := ⟨b, o, none⟩) hb, fun b o hb => h.frozen (p := ⟨b, o, none⟩) hb⟩

theorem addr_block (a : Addr) (n : Nat) : (a.add n).block = a.block := by
  unfold Addr.add
  split <;> rfl
theorem addr_add (a : Addr) (i j : Nat) : (a.add i).add j = a.add (i + j) := by
  unfold Addr.add
  rcases Nat.eq_zero_or_pos i with hi | hi
  · subst hi
    simp
  · rcases Nat.eq_zero_or_pos j with hj | hj
    · subst hj
      simp
    · rw [if_neg (by omega), if_neg (by omega), if_neg (by omega)]
      simp [Nat.add_assoc]

/-- the slice at A reads, in w, as the numbers l; what it reads lies below block B -/
def Ints (w : World) (B : Nat) (A : Option Addr) (l : List Int) : Prop :=
  ∀ k x, l[k]? = some x → ∃ ad, A = some ad ∧ ad.block < B ∧ w.cell? (ad.add k) = some (.int .i64 x)

section
variable {w w' : World} {B B' : Nat} {A : Option Addr} {l : List Int}
theorem Ints.nil : Ints w B A [] := fun k x h => by simp at h
theorem Ints.get (h : Ints w B A l) {k : Nat} (hk : k < l.length) : ∃ ad, A = some ad ∧ ad.block < B ∧ w.cell? (ad.add k) = some (.int .i64 l[k]) :=
  h k _ (List.getElem?_eq_getElem hk)
theorem Ints.moved (h : Ints w B A l) (hw : ∀ p : Addr, p.block < B → w'.cell? p = w.cell? p) : Ints w' B A l := fun k x hx => by
  obtain ⟨ad, e, hb, hc⟩ := h k x hx
  exact ⟨ad, e, hb, (hw _ (by rw [addr_block]; exact hb)).trans hc⟩
theorem Ints.more (h : Ints w B A l) (hB : B ≤ B') : Ints w B' A l := fun k x hx => by
  obtain ⟨ad, e, hb, hc⟩ := h k x hx
  exact ⟨ad, e, Nat.lt_of_lt_of_le hb hB, hc⟩
theorem Ints.below (h : Ints w B A l) (hb : Below B w w') : Ints w' B A l := h.moved fun _ hp => hb.cell hp
theorem Ints.behind (h : Ints w w.heap.size A l) (hb : Below w.heap.size w w') : Ints w' w'.heap.size A l := (h.below hb).more hb.size
theorem Ints.alloc (h : Ints w B A l) (hB : B ≤ w.heap.size) (o : Obj) : Ints (w.alloc o) B A l := h.below ((Below.refl _ _).alloc hB o)
theorem Ints.setCell (h : Ints w B A l) {p : Addr} (hp : B ≤ p.block) (u : Value) : Ints (w.setCell p u) B A l := h.below ((Below.refl _ _).setCell hp u)
theorem Ints.drewN (h : Ints w B A l) (n : Nat) : Ints (w.drewN n) B A l := h
theorem Ints.of_own {base : Nat} {e : TypeId} {n c : Nat} (h : w.ownsRow base e 1 (.slice A n c) n (l.map (Value.int .i64))) : Ints w w.heap.size A l := fun k x hx => by
  rcases h.2 with ⟨hv, rfl⟩ | ⟨g, cap, cur, hv, _⟩
  · have := h.1
    simp only [List.length_map, Nat.zero_mul] at this
    have hl : l = [] := List.eq_nil_of_length_eq_zero this
    subst hl
    simp at hx
  · injection hv with hA
    subst hA
    refine ⟨_, rfl, (h.lt g rfl).2, h.cells (g := g) rfl k _ ?_⟩
    simp [hx]
end

/-- block g is just the cells cs -/
def Blk (w : World) (g : Nat) (t : TypeId) (cs : Array Value) : Prop := w.heap[g]? = some (.cells cs t (0, 0))
section
variable {w w' : World} {g : Nat} {t : TypeId} {cs : Array Value}
theorem Blk.lt (h : Blk w g t cs) : g < w.heap.size := by
  by_cases hlt : g < w.heap.size
  · exact hlt
  · have hn : w.heap[g]? = none := by simp; omega
    unfold Blk at h
    rw [hn] at h
    cases h
theorem Blk.cell (h : Blk w g t cs) (i : Nat) : w.cell? ⟨g, i, none⟩ = cs[i]? := cell_of_row w g i cs t (0, 0) h
theorem Blk.frozen (h : Blk w g t cs) (i : Nat) : w.frozen? ⟨g, i, none⟩ = false := frozen_of_row w g i cs t h
theorem Blk.new (w : World) (t : TypeId) (cs : Array Value) : Blk (w.alloc (.cells cs t)) w.heap.size t cs := heap_alloc_new w _
theorem Blk.newAt {w : World} {t : TypeId} {cs : Array Value} {g : Nat} (h : w.heap.size = g) : Blk (w.alloc (.cells cs t)) g t cs := by
  subst h
  exact Blk.new w t cs
theorem Blk.drewN (h : Blk w g t cs) (n : Nat) : Blk (w.drewN n) g t cs := h
theorem Blk.alloc (h : Blk w g t cs) (o : Obj) : Blk (w.alloc o) g t cs := (Below.heap_alloc w o g h.lt).trans h
theorem Blk.store (h : Blk w g t cs) (i : Nat) (u : Value) : Blk (w.setCell ⟨g, i, none⟩ u) g t (cs.setIfInBounds i u) := heap_setCell_same w g i cs t u h
theorem Blk.far (h : Blk w g t cs) {p : Addr} (hp : g ≠ p.block) (u : Value) : Blk (w.setCell p u) g t cs := (heap_setCell_other w p g u hp).trans h
theorem Blk.below {B : Nat} (h : Blk w g t cs) (hb : Below B w w') (hg : g < B) : Blk w' g t cs := (hb.block g hg).trans h
end

theorem below_setRow {B : Nat} {a w : World} (h : Below B a w) {g : Nat} (hg : B ≤ g) (cs : Array Value) : Below B a (w.setRow g cs) :=
  h.trans ⟨rfl, rfl, rfl, by simp, fun k hk => setRow_other w g k cs (by omega)⟩
theorem Blk.setRow {w : World} {g : Nat} {t : TypeId} {cs : Array Value} (h : Blk w g t cs) (ds : Array Value) : Blk (w.setRow g ds) g t ds := setRow_heap w g cs ds t (0, 0) h
theorem Blk.farRow {w : World} {g g' : Nat} {t : TypeId} {cs : Array Value} (h : Blk w g t cs) (hne : g ≠ g') (ds : Array Value) : Blk (w.setRow g' ds) g t cs := (setRow_other w g' g ds hne).trans h

theorem own_form {w : World} {base : Nat} {e : TypeId} {size n : Nat} {v : Value} {xs : List Value} (h : w.ownsRow base e size v n xs) : ∃ A c, v = .slice A n c ∧ n ≤ c ∧ c ≤ maxLen := by
  rcases h.2 with ⟨rfl, rfl⟩ | ⟨g, cap, cur, rfl, _, _, h1, h2, _⟩
  · exact ⟨none, 0, rfl, Nat.le_refl _, by simp [maxLen]⟩
  · exact ⟨_, _, rfl, h1, h2⟩

theorem own_below {w w' : World} {base : Nat} {e : TypeId} {size n : Nat} {v : Value} {xs : List Value} (h : w.ownsRow base e size v n xs) (hb : Below w.heap.size w w') : w'.ownsRow base e size v n xs :=
  h.kept (row := none) ⟨hb.os, hb.tape, hb.output, hb.size, fun k hk _ => hb.block k hk⟩ (by cases v.ownBlock <;> simp)
theorem Blk.five {w : World} {g : Nat} {t : TypeId} {a b c d e : Value} (h : Blk w g t #[a, b, c, d, e]) :
    w.cell? ⟨g, 0, none⟩ = some a ∧ w.cell? ⟨g, 1, none⟩ = some b ∧ w.cell? ⟨g, 2, none⟩ = some c ∧ w.cell? ⟨g, 3, none⟩ = some d ∧ w.cell? ⟨g, 4, none⟩ = some e :=
  ⟨h.cell 0, h.cell 1, h.cell 2, h.cell 3, h.cell 4⟩


/-- a cell that is there stays, whatever a call makes -/
theorem keepL {W w2 : World} {p : Addr} {v : Value} (hb : Below W.heap.size W w2) (h : W.cell? p = some v) : w2.cell? p = some v := (hb.cell (World.block_lt_of_cell? W _ h)).trans h
theorem Blk.two {w : World} {g : Nat} {t : TypeId} {a b : Value} (h : Blk w g t #[a, b]) : w.cell? ⟨g, 0, none⟩ = some a ∧ w.cell? ⟨g, 1, none⟩ = some b := ⟨h.cell 0, h.cell 1⟩
theorem Blk.twoStore {w : World} {g : Nat} {t : TypeId} {a b : Value} (h : Blk w g t #[a, b]) (x y : Value) : Blk ((w.setCell ⟨g, 0, none⟩ x).setCell ⟨g, 1, none⟩ y) g t #[x, y] := (h.store 0 x).store 1 y
theorem Blk.two_frozen {w : World} {g : Nat} {t : TypeId} {a b : Value} (h : Blk w g t #[a, b]) : w.frozen? ⟨g, 0, none⟩ = false ∧ w.frozen? ⟨g, 1, none⟩ = false := ⟨h.frozen 0, h.frozen 1⟩
theorem Blk.va {w : World} {g : Nat} {t : TypeId} {a : Nat → Int} (h : Blk w g t (va a)) (i : Nat) (hi : i < 24) : w.cell? ⟨g, i, none⟩ = some (.int .i64 (a i)) := (h.cell i).trans (va_get a i hi)
theorem Blk.vaStore {w : World} {g : Nat} {t : TypeId} {a : Nat → Int} (h : Blk w g t (Go.Proofs.YtbhiphjifdnhmaaGreatDoor.va a)) (i : Nat) (x : Int) (hi : i < 24) : Blk (w.setCell ⟨g, i, none⟩ (.int .i64 x)) g t (Go.Proofs.YtbhiphjifdnhmaaGreatDoor.va (upd a i x)) := by
  have := h.store i (.int .i64 x)
  rwa [va_set a i x hi] at this
/-- where a span of a vague day lies -/
theorem Blk.spans {w : World} {g : Nat} {t : TypeId} {a : Nat → Int} (h : Blk w g t (Go.Proofs.YtbhiphjifdnhmaaGreatDoor.va a)) (i : Nat) (hi : i < 12) : w.cell? ⟨g, i * 2, none⟩ = some (.int .i64 (a (2 * i))) ∧ w.cell? ⟨g, i * 2 + 1, none⟩ = some (.int .i64 (a (2 * i + 1))) := by
  refine ⟨?_, ?_⟩
  · rw [h.va (i * 2) (by omega), Nat.mul_comm]
  · rw [h.va (i * 2 + 1) (by omega), Nat.mul_comm]
end Go.Proofs.YtbhiphjifdnhmaaGreatDoor

/- A map with texts for keys and whatever elements, as a function of texts; nothing of the program is imported. -/
namespace Go.Proofs.YtbhiphjifdnhmaaGreatDoor
open Go.RowKit Go.Maps

/-- each value reads as itself -/
def heldR (v : Value) : Option (DataW Value × List MemPlace) := some (.held v, [])
theorem heldR_mk (v : Value) : heldR v = some (.held v, []) := rfl
theorem heldR_inv {v : Value} {y : DataW Value × List MemPlace} (h : heldR v = some y) : y = (.held v, []) := by
  injection h with h
  exact h.symm

/-- the block b is a map of at most n entries that has what f says -/
def MapIs (w : World) (P : Program) (k : TypeId) (b n : Nat) (f : List UInt8 → Option Value) : Prop :=
  ∃ D : DataW Value, w.ownsMap P k heldR b n D ∧ ∀ s : List UInt8, (∀ v, f s = some v → Maps.has D (.string s) = true ∧ ∀ z, D.atKey (.string s) z = .held v) ∧ (f s = none → Maps.has D (.string s) = false)

section
variable {w : World} {P : Program} {k : TypeId} {b n : Nat} {f : List UInt8 → Option Value}
theorem MapIs.made (w : World) (P : Program) (k : TypeId) : MapIs (w.alloc (.map #[] 0)) P k w.heap.size 0 fun _ => none :=
  ⟨_, World.ownsMap_made w P k heldR, fun s => ⟨fun v h => by simp at h, fun _ => rfl⟩⟩
theorem MapIs.mono (h : MapIs w P k b n f) {n' : Nat} (hn : n ≤ n') : MapIs w P k b n' f := by
  obtain ⟨D, h1, h2⟩ := h
  exact ⟨D, h1.mono hn, h2⟩
theorem MapIs.lt (h : MapIs w P k b n f) : b < w.heap.size := by
  obtain ⟨D, h1, _⟩ := h
  exact h1.lt
theorem MapIs.kept {w' : World} {row : Option Nat} (h : MapIs w P k b n f) (hg : w.grownBy w' row) (hne : some b ≠ row) : MapIs w' P k b n f := by
  obtain ⟨D, h1, h2⟩ := h
  exact ⟨D, h1.kept hg hne, h2⟩
theorem MapIs.alloc (h : MapIs w P k b n f) (o : Obj) : MapIs (w.alloc o) P k b n f := h.kept (World.grownBy_alloc w o none) (by simp)
theorem MapIs.drew (h : MapIs w P k b n f) : MapIs w.drew P k b n f := h
theorem MapIs.drewN (h : MapIs w P k b n f) (m : Nat) : MapIs (w.drewN m) P k b n f := h
theorem MapIs.below {B : Nat} {w' : World} (h : MapIs w P k b n f) (hb : Below B w w') (hB : b < B) : MapIs w' P k b n f := by
  obtain ⟨D, ⟨es, clock, h1, h2⟩, h3⟩ := h
  exact ⟨D, ⟨es, clock, (hb.block b hB).trans h1, h2⟩, h3⟩
theorem MapIs.setCell (h : MapIs w P k b n f) {a : Addr} (ha : b ≠ a.block) (u : Value) : MapIs (w.setCell a u) P k b n f := by
  obtain ⟨D, h1, h2⟩ := h
  exact ⟨D, h1.setCell ha u, h2⟩
theorem MapIs.congr {g : List UInt8 → Option Value} (h : MapIs w P k b n f) (hg : ∀ s, f s = g s) : MapIs w P k b n g := by
  obtain rfl : f = g := funext hg
  exact h

theorem MapIs.look {t e : TypeId} (h : MapIs w P k b n f) (K : Keyed P k) (ht : P.underlying t = some (.map k e)) {z : Value} (hz : (zeroValue e).run P w = .ok z w) {key : Value} {s : List UInt8} (hkey : keyOf P k key = some (.string s)) :
    (Instr.lookup t (.map (some b)) key false).run P w = .ok ((f s).getD z) w := by
  obtain ⟨D, h1, h2⟩ := h
  obtain ⟨v, ps, hrun, hv⟩ := h1.lookup K ht hz (heldR_mk z) hkey
  have hv' := congrArg Prod.fst (heldR_inv hv)
  simp only at hv'
  rw [hrun]
  cases hf : f s with
  | none =>
    have := Maps.atKey_of_not_has ((h2 s).2 hf) (.held z : DataW Value)
    rw [this] at hv'
    injection hv' with hv'
    rw [hv']; rfl
  | some u =>
    have := ((h2 s).1 u hf).2 (.held z : DataW Value)
    rw [this] at hv'
    injection hv' with hv'
    rw [hv']; rfl
theorem MapIs.look_ok {t e : TypeId} (h : MapIs w P k b n f) (K : Keyed P k) (ht : P.underlying t = some (.map k e)) {z : Value} (hz : (zeroValue e).run P w = .ok z w) {key : Value} {s : List UInt8} (hkey : keyOf P k key = some (.string s)) :
    (Instr.lookup t (.map (some b)) key true).run P w = .ok (.tuple #[(f s).getD z, .bool (f s).isSome]) w := by
  obtain ⟨D, h1, h2⟩ := h
  obtain ⟨v, ps, hrun, hv⟩ := h1.look_ok K ht hz (heldR_mk z) hkey
  have hv' := congrArg Prod.fst (heldR_inv hv)
  simp only at hv'
  rw [hrun]
  cases hf : f s with
  | none =>
    have := Maps.atKey_of_not_has ((h2 s).2 hf) (.held z : DataW Value)
    rw [this] at hv'
    injection hv' with hv'
    rw [hv', (h2 s).2 hf]; rfl
  | some u =>
    have := ((h2 s).1 u hf).2 (.held z : DataW Value)
    rw [this] at hv'
    injection hv' with hv'
    rw [hv', ((h2 s).1 u hf).1]; rfl
theorem isKeyLit_string (s : List UInt8) : WideAt.IsKeyLit (.string s) := trivial
theorem MapIs.store {t e : TypeId} (h : MapIs w P k b n f) (K : Keyed P k) (ht : P.underlying t = some (.map k e)) (hn : n < maxLen) {key : Value} {s : List UInt8} (hkey : keyOf P k key = some (.string s)) (v : Value) :
    ∃ w', (Instr.mapUpdate t (.map (some b)) key v).run P w = .ok () w' ∧ MapIs w' P k b (n + 1) (fun x => if x = s then some v else f x) ∧ w.grownBy w' (some b) ∧ w'.heap.size = w.heap.size := by
  obtain ⟨D, h1, h2⟩ := h
  obtain ⟨w', hrun, h3, h4⟩ := h1.store K ht hn hkey (heldR_mk v)
  obtain ⟨es, cl, es', cl', hb, hw'⟩ := h4
  refine ⟨w', hrun, ⟨_, h3, fun x => ?_⟩, World.mapTurned.grown ⟨es, cl, es', cl', hb, hw'⟩, by rw [hw']; simp [Go.ChangeMaps.setBlock]⟩
  by_cases hx : x = s
  · subst hx
    refine ⟨fun u hu => ?_, fun hu => by simp at hu⟩
    obtain rfl : v = u := by simpa using hu
    exact ⟨Maps.has_put_same h1.isMap (isKeyLit_string _) _, fun z => Maps.atKey_put_same h1.isMap (isKeyLit_string _) _ z⟩
  · have hne : (Lit.string x) ≠ .string s := fun e => hx (by injection e)
    simp only [if_neg hx]
    exact ⟨fun u hu => ⟨(Maps.has_put_other hne _).trans ((h2 x).1 u hu).1, fun z => (Maps.atKey_put_other hne _ z).trans (((h2 x).1 u hu).2 z)⟩, fun hu => (Maps.has_put_other hne _).trans ((h2 x).2 hu)⟩
end
end Go.Proofs.YtbhiphjifdnhmaaGreatDoor

/- A range over a map with texts for keys, as a function of texts. -/
namespace Go.Proofs.YtbhiphjifdnhmaaGreatDoor
open Go.RowKit Go.Maps

/-- the iterator in block r goes through the map in block b, which has what f says; what is still to come is what left says -/
def RgIs (w : World) (P : Program) (k : TypeId) (b r n : Nat) (f : List UInt8 → Option Value) (left : List UInt8 → Bool) (cnt : Nat) : Prop :=
  ∃ (D : DataW Value) (lf : Lit → Bool), w.ranges P k heldR b r n D lf cnt ∧ (∀ s : List UInt8, (∀ v, f s = some v → Maps.has D (.string s) = true ∧ ∀ z, D.atKey (.string s) z = .held v) ∧ (f s = none → Maps.has D (.string s) = false)) ∧ ∀ s, lf (.string s) = left s
section
variable {w : World} {P : Program} {k : TypeId} {b r n cnt : Nat} {f : List UInt8 → Option Value} {left : List UInt8 → Bool}
theorem RgIs.map (h : RgIs w P k b r n f left cnt) : MapIs w P k b n f := by
  obtain ⟨D, lf, h1, h2, _⟩ := h
  exact ⟨D, h1.owns, h2⟩
theorem RgIs.lt (h : RgIs w P k b r n f left cnt) : r < w.heap.size := by
  obtain ⟨D, lf, h1, _⟩ := h
  exact h1.lt
theorem RgIs.ne (h : RgIs w P k b r n f left cnt) : r ≠ b := by
  obtain ⟨D, lf, h1, _⟩ := h
  exact h1.ne
theorem RgIs.left_eq (h : RgIs w P k b r n f left cnt) : w.rangeLeft b r = cnt := by
  obtain ⟨D, lf, h1, _⟩ := h
  exact h1.left_eq
theorem RgIs.cnt_le (h : RgIs w P k b r n f left cnt) : cnt ≤ n := by
  obtain ⟨D, lf, ⟨es, clock, since, seen, c0, _, _, q3, _, _, _, q7, _⟩, _⟩ := h
  have := Array.size_filter_le (p := fun e : MapEntry => !seen.contains e.born) (xs := es)
  unfold leftOf at q7
  omega
theorem RgIs.kept {w' : World} {row : Option Nat} (h : RgIs w P k b r n f left cnt) (hg : w.grownBy w' row) (hb' : some b ≠ row) (hr' : some r ≠ row) : RgIs w' P k b r n f left cnt := by
  obtain ⟨D, lf, h1, h2, h3⟩ := h
  exact ⟨D, lf, h1.kept hg hb' hr', h2, h3⟩
theorem RgIs.below {w' : World} {B : Nat} (h : RgIs w P k b r n f left cnt) (hb : Below B w w') (h1 : b < B) (h2 : r < B) : RgIs w' P k b r n f left cnt := by
  obtain ⟨D, lf, ⟨es, clock, since, seen, c0, q1, q2, q3, q4, q5, q6⟩, g2, g3⟩ := h
  exact ⟨D, lf, ⟨es, clock, since, seen, c0, (hb.block b h1).trans q1, q2, q3, q4, (hb.block r h2).trans q5, q6⟩, g2, g3⟩
theorem RgIs.drew (h : RgIs w P k b r n f left cnt) : RgIs w.drew P k b r n f left cnt := h
variable {ops : Array Oper} {rest : List Oper} {o : Oper} {a : Act} {Q : Exit → Act → World → Prop}
/-- 'range m' -/
theorem wpl_range (hg : o.guard = none) (m : Operand) (t : TypeId) (hop : o.op = Op.range t m) (e : TypeId) (K : Keyed P k) (ht : P.underlying t = some (.map k e)) (hm : a.eval m = .map (some b)) (h : MapIs w P k b n f)
    (hK : ∀ w' cnt, RgIs w' P k b w.heap.size n f (fun s => (f s).isSome) cnt → Below w.heap.size w w' → w'.heap.size = w.heap.size + 1 → wpList P ops Q rest (a.put o.dst (.pointer (some ⟨w.heap.size, 0, none⟩))) w') :
    wpList P ops Q (o :: rest) a w := by
  obtain ⟨D, h1, h2⟩ := h
  refine wpList_range_own w hg m t hop k e K ht heldR b n D hm h1 fun w' q1 q2 q3 => hK w' _ ⟨D, _, q1, h2, fun s => ?_⟩ ⟨q2.os, q2.tape, q2.output, q2.size, fun i hi => q2.block i hi (by simp)⟩ q3
  cases hf : f s with
  | none => exact ((h2 s).2 hf).trans (by show _ = (f s).isSome; rw [hf]; rfl)
  | some v => exact ((h2 s).1 v hf).1.trans (by show _ = (f s).isSome; rw [hf]; rfl)
/-- the step -/
theorem wpl_next (hg : o.guard = none) (it : Operand) (hop : o.op = Op.next it false) (K : Keyed P k) (hk : P.underlying k = some .string) (hit : a.eval it = .pointer (some ⟨r, 0, none⟩)) (h : RgIs w P k b r n f left cnt) (hB : ∀ s, left s = true → (f s).isSome)
    (hDone : (∀ s, left s = false) → wpList P ops Q rest (a.put o.dst (.tuple #[.bool false])) w)
    (hMore : ∀ (s : ByteArray) (v : Value) (w' : World) (cnt' : Nat), s.size ≤ maxLen → left s.data.toList = true → f s.data.toList = some v → RgIs w' P k b r n f (fun x => left x && !decide (x = s.data.toList)) cnt' → cnt' < cnt → w.grownBy w' (some r) → w'.heap.size = w.heap.size →
      (Instr.entry (.pointer (some ⟨r, 0, none⟩))).run P w' = .ok (.tuple #[.string s, v]) w' → wpList P ops Q rest (a.put o.dst (.tuple #[.bool true, .string s, v])) w') :
    wpList P ops Q (o :: rest) a w := by
  obtain ⟨D, lf, h1, h2, h3⟩ := h
  have hkey : ∀ key kl, keyOf P k key = some kl → ∃ s : ByteArray, key = .string s ∧ kl = .string s.data.toList ∧ s.size ≤ maxLen := by
    intro key kl h
    cases key <;> simp [keyOf, hk, mapKey] at h
    exact ⟨_, rfl, h.2.symm, h.1⟩
  refine wpList_next_ranges w hg it hop k K heldR (fun s : ByteArray => .string s) (fun v : Value => v) (fun key kl h => ⟨_, (hkey key kl h).choose_spec.1⟩) (fun v y _ => ⟨v, rfl⟩) b r n D lf cnt hit h1 (fun h0 hl => hDone fun s => (h3 s).symm.trans (hl _)) ?_
  intro s v kl y w' cnt' hk1 hl hv hat hr hc hgr hsz hen
  obtain ⟨s', e1, e2, e3⟩ := hkey _ _ hk1
  obtain rfl : s = s' := by injection e1
  subst e2
  have hy := heldR_inv hv
  subst hy
  have hls : left s.data.toList = true := (h3 _).symm.trans hl
  obtain ⟨u, hu⟩ := Option.isSome_iff_exists.1 (hB _ hls)
  have hvu : v = u := by
    have q1 := hat (.held v)
    have q2 := ((h2 _).1 u hu).2 (.held v)
    rw [q1] at q2
    injection q2
  subst hvu
  refine hMore s v w' cnt' e3 hls hu ⟨D, _, hr, h2, fun x => ?_⟩ hc hgr hsz hen
  show (lf (.string x) && !(Lit.string x).sameKey (.string s.data.toList)) = _
  rw [h3]
  congr 2
  by_cases e : x = s.data.toList <;> simp [Lit.sameKey, e]
end
end Go.Proofs.YtbhiphjifdnhmaaGreatDoor

