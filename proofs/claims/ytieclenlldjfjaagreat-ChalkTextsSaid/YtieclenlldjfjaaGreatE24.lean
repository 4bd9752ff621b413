import Derived.Test.YtieclenlldjfjaaGreatE23
set_option autoImplicit false
set_option linter.unusedVariables false
set_option linter.unusedSimpArgs false
namespace Go.Proofs.YtieclenlldjfjaaGreat.Ev
open Go

def wr (xs : List Inf) : Nat := xs.foldl (fun m x => Nat.lor m x.dst) 0
def rd (xs : List Inf) : Nat := xs.foldl (fun m x => Nat.lor m x.looks) 0

theorem wr_snoc (xs : List Inf) (x : Inf) : wr (xs ++ [x]) = Nat.lor (wr xs) x.dst := by simp [wr]
theorem rd_snoc (xs : List Inf) (x : Inf) : rd (xs ++ [x]) = Nat.lor (rd xs) x.looks := by simp [rd]

theorem fold_test (f : Inf → Nat) (t : Nat) : ∀ (xs : List Inf) (m : Nat), (xs.foldl (fun m x => Nat.lor m (f x)) m).testBit t = true ↔ m.testBit t = true ∨ ∃ x, x ∈ xs ∧ (f x).testBit t = true
  | [], m => by simp
  | x :: xs, m => by
    rw [List.foldl_cons, fold_test f t xs, or_test, Bool.or_eq_true]
    constructor
    · rintro ((h | h) | ⟨y, h1, h2⟩)
      · exact .inl h
      · exact .inr ⟨x, by simp, h⟩
      · exact .inr ⟨y, by simp [h1], h2⟩
    · rintro (h | ⟨y, h1, h2⟩)
      · exact .inl (.inl h)
      · rcases List.mem_cons.1 h1 with rfl | h1
        · exact .inl (.inr h2)
        · exact .inr ⟨y, h1, h2⟩

theorem wr_test {xs : List Inf} {t : Nat} : (wr xs).testBit t = true ↔ ∃ x, x ∈ xs ∧ x.dst.testBit t = true := by
  unfold wr; rw [fold_test (·.dst)]; simp
theorem rd_test {xs : List Inf} {t : Nat} : (rd xs).testBit t = true ↔ ∃ x, x ∈ xs ∧ x.looks.testBit t = true := by
  unfold rd; rw [fold_test (·.looks)]; simp

theorem infs_ok {ops : Array Oper} {xs : List Inf} : ∀ (l : List Oper) (acc : List Inf), infs ops l acc (wr acc) (rd acc) = some xs →
    xs.length = acc.length + l.length ∧ xs.take acc.length = acc ∧
    ∀ i o, l[i]? = some o → ∃ x, xs[acc.length + i]? = some x ∧ infOf ops (xs.take (acc.length + i)) o = some x ∧ infOk x (xs.take (acc.length + i)) (wr (xs.take (acc.length + i))) (rd (xs.take (acc.length + i))) = true
  | [], acc, h => by
    have h : some acc = some xs := h
    cases h
    exact ⟨by simp, by simp, fun i o h => by simp at h⟩
  | o :: l, acc, h => by
    have h : (osel (infOf ops acc o) none fun x => bsel (infOk x acc (wr acc) (rd acc)) (infs ops l (acc ++ [x]) (Nat.lor (wr acc) x.dst) (Nat.lor (rd acc) x.looks)) none) = some xs := h
    obtain ⟨x, hx, h⟩ := osel_ne h (by simp)
    obtain ⟨hb, h⟩ := bsel_ne h (by simp)
    rw [← wr_snoc, ← rd_snoc] at h
    obtain ⟨h1, h2, h3⟩ := infs_ok l (acc ++ [x]) h
    simp only [List.length_append, List.length_singleton] at h1 h2 h3
    have ht : xs.take acc.length = acc := by
      have := congrArg (List.take acc.length) h2
      rw [List.take_take, Nat.min_eq_left (by omega), List.take_left'] at this
      · exact this
      · rfl
    refine ⟨by simp [h1]; omega, ht, fun i o' ho => ?_⟩
    cases i with
    | zero =>
      simp at ho
      subst ho
      refine ⟨x, ?_, ?_⟩
      · have : (xs.take (acc.length + 1))[acc.length]? = some x := by rw [h2]; simp
        rw [List.getElem?_take] at this
        split at this
        · exact this
        · cases this
      · rw [Nat.add_zero, ht]; exact ⟨hx, hb⟩
    | succ i =>
      have := h3 i o' (by simpa using ho)
      rw [show acc.length + 1 + i = acc.length + (i + 1) by omega] at this
      exact this

/-- What the check says of a region. -/
structure RegionOk (ops : Array Oper) (xs : List Inf) : Prop where
  len : xs.length = ops.size
  inf : ∀ i o, ops[i]? = some o → ∃ x, xs[i]? = some x ∧ infOf ops (xs.take i) o = some x ∧ infOk x (xs.take i) (wr (xs.take i)) (rd (xs.take i)) = true

theorem infs_region {ops : Array Oper} {xs : List Inf} (h : infs ops ops.toList [] 0 0 = some xs) : RegionOk ops xs := by
  obtain ⟨h1, h2, h3⟩ := infs_ok ops.toList [] h
  refine ⟨by simpa using h1, fun i o ho => ?_⟩
  have := h3 i o (by simpa using ho)
  simpa using this

section
variable {ops : Array Oper} {xs : List Inf}

theorem infOf_ok {acc : List Inf} {o : Oper} {x : Inf} (h : infOf ops acc o = some x) : edges acc o.after.toList = some (x.cl, x.dm) ∧ x.looks = Nat.lor (tmpBits o.op.operands.toList) (guardBit ops o) ∧ x.dst = dstBit o.dst ∧ x.strict = isStrict o.op ∧ x.mem = isMem o.op := by
  unfold infOf at h
  obtain ⟨p, hp, h⟩ := osel_ne h (by simp)
  cases h
  exact ⟨hp, rfl, rfl, rfl, rfl⟩

theorem take_at {i j : Nat} {x : Inf} (h : (xs.take i)[j]? = some x) : j < i ∧ xs[j]? = some x := by
  rw [List.getElem?_take] at h
  split at h
  · rename_i hj; exact ⟨hj, h⟩
  · cases h

theorem RegionOk.op (hR : RegionOk ops xs) {i : Nat} {x : Inf} (h : xs[i]? = some x) : ∃ o, ops[i]? = some o ∧ infOf ops (xs.take i) o = some x ∧ infOk x (xs.take i) (wr (xs.take i)) (rd (xs.take i)) = true := by
  have hi : i < ops.size := by rw [← hR.len]; exact (List.getElem?_eq_some_iff.1 h).1
  obtain ⟨y, h1, h2, h3⟩ := hR.inf i ops[i] (by simp [hi])
  rw [h] at h1; cases h1
  exact ⟨ops[i], by simp [hi], h2, h3⟩

/-- A set that edges do not leave holds what lies ahead. -/
theorem RegionOk.closed (hR : RegionOk ops xs) {D : Nat → Prop} (hD : ∀ j o, D j → ops[j]? = some o → ∀ e, e ∈ o.after.toList → Region.binds .any e = true → D e.on) :
    ∀ (i : Nat) (x : Inf) (o : Oper), xs[i]? = some x → ops[i]? = some o → (∀ e, e ∈ o.after.toList → Region.binds .any e = true → D e.on) → ∀ k, x.cl.testBit k = true → D k := by
  intro i
  induction i using Nat.strongRecOn with
  | _ i ih =>
    intro x o hx ho he k hk
    obtain ⟨o', ho', h1, _⟩ := hR.op hx
    rw [ho] at ho'; cases ho'
    obtain ⟨e, e1, e2, e3⟩ := ((edges_ok (infOf_ok h1).1).1 k).1 hk
    rcases e3 with rfl | ⟨y, hy, e3⟩
    · exact he e e1 e2
    · obtain ⟨hlt, hy⟩ := take_at hy
      obtain ⟨o2, ho2, _⟩ := hR.op hy
      exact ih e.on hlt y o2 hy ho2 (fun e' h1 h2 => hD e.on o2 (he e e1 e2) ho2 e' h1 h2) k e3

/-- What is marked as written ahead is written by something ahead. -/
theorem RegionOk.dm (hR : RegionOk ops xs) {t : Nat} : ∀ (i : Nat) (x : Inf), xs[i]? = some x → x.dm.testBit t = true → ∃ k y, k < i ∧ x.cl.testBit k = true ∧ xs[k]? = some y ∧ y.dst.testBit t = true := by
  intro i
  induction i using Nat.strongRecOn with
  | _ i ih =>
    intro x hx ht
    obtain ⟨o, ho, h1, _⟩ := hR.op hx
    have hE := edges_ok (infOf_ok h1).1
    obtain ⟨e, e1, e2, y, hy, e3⟩ := hE.2 t ht
    obtain ⟨hlt, hy'⟩ := take_at hy
    rcases e3 with e3 | e3
    · exact ⟨e.on, y, hlt, (hE.1 e.on).2 ⟨e, e1, e2, .inl rfl⟩, hy', e3⟩
    · obtain ⟨k, z, k1, k2, k3, k4⟩ := ih e.on hlt y hy' e3
      exact ⟨k, z, by omega, (hE.1 k).2 ⟨e, e1, e2, .inr ⟨y, hy, k2⟩⟩, k3, k4⟩

theorem mem_take {i j : Nat} {y : Inf} (hy : xs[i]? = some y) (h : i < j) : y ∈ xs.take j := List.mem_of_getElem? (i := i) (by rw [List.getElem?_take, if_pos h]; exact hy)

theorem readers_ok {cl d : Nat} : ∀ (acc : List Inf) (i : Nat), readersOk cl d acc i = true → ∀ j y, acc[j]? = some y → Nat.land y.looks d ≠ 0 → bit cl (i + j) = true
  | [], i, h, j, y, hy, _ => by simp at hy
  | x :: acc, i, h, j, y, hy, hne => by
    have h : bsel (Nat.beq (Nat.land x.looks d) 0) (readersOk cl d acc (Nat.succ i)) (bsel (bit cl i) (readersOk cl d acc (Nat.succ i)) false) = true := h
    rw [bsel_eq, bsel_eq] at h
    cases j with
    | zero =>
      cases hy
      rw [if_neg (fun e => hne (beq_iff.1 e))] at h
      split at h
      · assumption
      · cases h
    | succ j =>
      have h2 : readersOk cl d acc (Nat.succ i) = true := by
        split at h
        · exact h
        · split at h
          · exact h
          · cases h
      have := readers_ok acc (Nat.succ i) h2 j y (by simpa using hy) hne
      rw [show i + (j + 1) = Nat.succ i + j by omega]; exact this

theorem actors_ok {cl : Nat} : ∀ (acc : List Inf) (i : Nat), actorsOk cl acc i = true → ∀ j y, acc[j]? = some y → y.mem = true → bit cl (i + j) = true
  | [], i, h, j, y, hy, _ => by simp at hy
  | x :: acc, i, h, j, y, hy, hne => by
    have h : bsel x.mem (bsel (bit cl i) (actorsOk cl acc (Nat.succ i)) false) (actorsOk cl acc (Nat.succ i)) = true := h
    rw [bsel_eq, bsel_eq] at h
    cases j with
    | zero =>
      cases hy
      rw [if_pos hne] at h
      split at h
      · assumption
      · cases h
    | succ j =>
      have h2 : actorsOk cl acc (Nat.succ i) = true := by
        split at h
        · split at h
          · exact h
          · cases h
        · exact h
      have := actors_ok acc (Nat.succ i) h2 j y (by simpa using hy) hne
      rw [show i + (j + 1) = Nat.succ i + j by omega]; exact this

theorem zero_test {a b t : Nat} (h : Nat.land a b = 0) (ha : a.testBit t = true) (hb : b.testBit t = true) : False := by
  have := and_test a b t
  rw [h, ha, hb] at this
  simp at this

/-- One temporary, one writer. -/
theorem RegionOk.uniq (hR : RegionOk ops xs) {i j : Nat} {x y : Inf} (hi : xs[i]? = some x) (hj : xs[j]? = some y) (hlt : i < j) {t : Nat} (h1 : x.dst.testBit t = true) (h2 : y.dst.testBit t = true) : False := by
  obtain ⟨o, _, _, h⟩ := hR.op hj
  unfold infOk at h
  obtain ⟨hb, _⟩ := bsel_ne h (by simp)
  exact zero_test (beq_iff.1 hb) h2 (wr_test.2 ⟨x, mem_take hi hlt, h1⟩)

/-- Who looks at what an earlier one writes has it ahead. -/
theorem RegionOk.reads (hR : RegionOk ops xs) {i j : Nat} {x y : Inf} (hi : xs[i]? = some x) (hj : xs[j]? = some y) (hlt : i < j) {t : Nat} (h1 : x.dst.testBit t = true) (h2 : y.looks.testBit t = true) : y.cl.testBit i = true := by
  obtain ⟨o, _, _, h⟩ := hR.op hj
  unfold infOk at h
  obtain ⟨_, h⟩ := bsel_ne h (by simp)
  obtain ⟨hb, _⟩ := bsel_ne h (by simp)
  have e := beq_iff.1 hb
  have hlw : (Nat.land y.looks (wr (xs.take j))).testBit t = true := by rw [and_test, h2, wr_test.2 ⟨x, mem_take hi hlt, h1⟩]; rfl
  have hdm : y.dm.testBit t = true := by
    rw [← e, and_test, Bool.and_eq_true] at hlw
    exact hlw.2
  obtain ⟨k, z, k1, k2, k3, k4⟩ := hR.dm j y hj hdm
  rcases Nat.lt_trichotomy i k with h | h | h
  · exact (hR.uniq hi k3 h h1 k4).elim
  · subst h; exact k2
  · exact (hR.uniq k3 hi h k4 h1).elim

/-- Who writes what an earlier one looks at has that one ahead. -/
theorem RegionOk.writes (hR : RegionOk ops xs) {i j : Nat} {x y : Inf} (hi : xs[i]? = some x) (hj : xs[j]? = some y) (hlt : i < j) {t : Nat} (h1 : x.looks.testBit t = true) (h2 : y.dst.testBit t = true) : y.cl.testBit i = true := by
  obtain ⟨o, _, _, h⟩ := hR.op hj
  unfold infOk at h
  obtain ⟨_, h⟩ := bsel_ne h (by simp)
  obtain ⟨_, h⟩ := bsel_ne h (by simp)
  obtain ⟨hb, _⟩ := bsel_ne h (by simp)
  rw [bsel_eq] at hb
  split at hb
  · rename_i hz
    exact (zero_test (beq_iff.1 hz) h2 (rd_test.2 ⟨x, mem_take hi hlt, h1⟩)).elim
  · have := readers_ok _ 0 hb i x (by rw [List.getElem?_take, if_pos hlt]; exact hi) (fun e => zero_test e h1 h2)
    rwa [Nat.zero_add, bit_test] at this

/-- What works on memory, but an alloc, has all ahead that works on memory before it. -/
theorem RegionOk.order (hR : RegionOk ops xs) {i j : Nat} {x y : Inf} (hi : xs[i]? = some x) (hj : xs[j]? = some y) (hlt : i < j) (h1 : x.mem = true) (h2 : y.strict = true) : y.cl.testBit i = true := by
  obtain ⟨o, _, _, h⟩ := hR.op hj
  unfold infOk at h
  obtain ⟨_, h⟩ := bsel_ne h (by simp)
  obtain ⟨_, h⟩ := bsel_ne h (by simp)
  obtain ⟨_, h⟩ := bsel_ne h (by simp)
  rw [bsel_eq, if_pos h2] at h
  have := actors_ok _ 0 h i x (by rw [List.getElem?_take, if_pos hlt]; exact hi) h1
  rwa [Nat.zero_add, bit_test] at this
end
end Go.Proofs.YtieclenlldjfjaaGreat.Ev
