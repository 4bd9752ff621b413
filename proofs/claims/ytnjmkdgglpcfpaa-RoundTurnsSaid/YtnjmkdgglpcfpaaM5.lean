import Derived.Test.YtnjmkdgglpcfpaaM4
namespace Go.Proofs.Ytnjmkdgglpcfpaa
set_option linter.unusedVariables false
set_option linter.unusedSimpArgs false

theorem stepTo_at {C a s : Int} (h0 : 0 ≤ a) (h1 : a < C) : ∀ k : Nat, stepTo C a s k = (a + s * k) % C
  | 0 => by simp [stepTo, Int.emod_eq_of_lt h0 h1]
  | k + 1 => by
    rw [stepTo, stepTo_at h0 h1 k, Int.emod_add_emod, Int.natCast_succ, Int.mul_add, Int.mul_one, Int.add_assoc]
/-- how far a turning has come: where it is, and how far to the left and to the right it was -/
def tripI (p : Int × Int × Int) (n : Int) : Int × Int × Int := (p.1 + n, max p.2.1 (-(p.1 + n)), max p.2.2 (p.1 + n))
def tripsI (turns : List Int) : Int × Int × Int := turns.foldl tripI (0, 0, 0)
theorem tripsI_snoc (l : List Int) (n : Int) : tripsI (l ++ [n]) = tripI (tripsI l) n := by simp [tripsI]
structure Tr (C s : Int) (p : Int × List Int) (q : Int × Int × Int) (n : Int) : Prop where
  l0 : 0 ≤ q.2.1
  r0 : 0 ≤ q.2.2
  lo : -q.2.1 ≤ q.1
  hi : q.1 ≤ q.2.2
  at' : p.1 = (s + q.1) % C
  past : ∀ x, x ∈ p.2 ↔ ∃ k, -q.2.1 ≤ k ∧ k ≤ q.2.2 ∧ x = (s + k) % C
  len : 2 * (q.2.1 + q.2.2) - (q.1.natAbs : Int) ≤ n
theorem tr_step {C s : Int} {p : Int × List Int} {q : Int × Int × Int} {n m : Int} (hC : 1 ≤ C) (h : Tr C s p q n) : Tr C s (trip C p m) (tripI q m) (n + m.natAbs) := by
  obtain ⟨l0, r0, lo, hi, hat, past, len⟩ := h
  have a0 : 0 ≤ p.1 := by rw [hat]; exact Int.emod_nonneg _ (by omega)
  have a1 : p.1 < C := by rw [hat]; exact Int.emod_lt_of_pos _ (by omega)
  have hst : ∀ k : Nat, stepTo C p.1 (sg m) k = (s + (q.1 + sg m * k)) % C := fun k => by
    rw [stepTo_at a0 a1, hat, Int.emod_add_emod, Int.add_assoc]
  have hm : sg m * (m.natAbs : Int) = m := by
    unfold sg
    split <;> omega
  refine ⟨?_, ?_, ?_, ?_, ?_, ?_, ?_⟩
  · simp only [tripI]; omega
  · simp only [tripI]; omega
  · simp only [tripI]; omega
  · simp only [tripI]; omega
  · simp only [trip, tripI]
    rw [hst, hm]
  · intro x
    simp only [trip, tripI, List.mem_append, past]
    have hL : x ∈ stepL C p.1 (sg m) m.natAbs ↔ ∃ i : Nat, i < m.natAbs ∧ x = (s + (q.1 + sg m * ((i + 1 : Nat) : Int))) % C := by
      unfold stepL
      simp only [List.mem_map, List.mem_range]
      constructor
      · rintro ⟨i, hi, rfl⟩; exact ⟨i, hi, hst _⟩
      · rintro ⟨i, hi, rfl⟩; exact ⟨i, hi, hst _⟩
    rw [hL]
    constructor
    · rintro (⟨k, h1, h2, rfl⟩ | ⟨i, h1, rfl⟩)
      · exact ⟨k, by omega, by omega, rfl⟩
      · refine ⟨q.1 + sg m * ((i + 1 : Nat) : Int), ?_, ?_, rfl⟩
        · clear hL past hst hat a0 a1 len hm
          unfold sg; split <;> omega
        · clear hL past hst hat a0 a1 len hm
          unfold sg; split <;> omega
    · rintro ⟨k, h1, h2, rfl⟩
      by_cases hk : -q.2.1 ≤ k ∧ k ≤ q.2.2
      · exact .inl ⟨k, hk.1, hk.2, rfl⟩
      · right
        clear hL past hst hat a0 a1 len hm
        by_cases hneg : m < 0
        · have e : sg m = -1 := if_pos hneg
          have e2 : k = q.1 + -1 * (((q.1 - k - 1).toNat + 1 : Nat) : Int) := by omega
          exact ⟨(q.1 - k - 1).toNat, by omega, by rw [e, ← e2]⟩
        · have e : sg m = 1 := if_neg hneg
          have e2 : k = q.1 + 1 * (((k - q.1 - 1).toNat + 1 : Nat) : Int) := by omega
          exact ⟨(k - q.1 - 1).toNat, by omega, by rw [e, ← e2]⟩
  · simp only [tripI]
    omega
theorem tr_all {C s : Int} (hC : 1 ≤ C) (s0 : 0 ≤ s) (s1 : s < C) : ∀ r l : List Int, r.reverse = l → Tr C s (trips C s l) (tripsI l) (sumAbs l)
  | [], l, e => by
    subst e
    refine ⟨by simp [tripsI], by simp [tripsI], by simp [tripsI], by simp [tripsI], ?_, ?_, by simp [tripsI, sumAbs]⟩
    · simp [trips, tripsI, Int.emod_eq_of_lt s0 s1]
    · intro x
      simp only [trips, tripsI, List.reverse_nil, List.foldl_nil, List.mem_singleton]
      constructor
      · rintro rfl; exact ⟨0, by omega, by omega, by rw [Int.add_zero, Int.emod_eq_of_lt s0 s1]⟩
      · rintro ⟨k, h1, h2, rfl⟩
        have : k = 0 := by omega
        rw [this, Int.add_zero, Int.emod_eq_of_lt s0 s1]
  | n :: r, l, e => by
    subst e
    rw [List.reverse_cons, trips_snoc, sumAbs_snoc, tripsI_snoc]
    exact tr_step hC (tr_all hC s0 s1 r r.reverse rfl)
theorem tr_of {C s : Int} (hC : 1 ≤ C) (s0 : 0 ≤ s) (s1 : s < C) (l : List Int) : Tr C s (trips C s l) (tripsI l) (sumAbs l) := tr_all hC s0 s1 l.reverse l (List.reverse_reverse l)

/-- the ways, without the last one -/
def ways0 (C s : Int) (l : List Int) : List Int := cmpt (srt (waysRaw C s l))
theorem ways0_iff {C s x : Int} {l : List Int} : x ∈ ways0 C s l ↔ x = 0 ∨ ∃ y ∈ l, (y + -s) % C = x := by
  unfold ways0 waysRaw
  rw [cmpt_iff, (srt_perm _).mem_iff, List.mem_cons, List.mem_map]
theorem ways0_rise (C s : Int) (l : List Int) : (ways0 C s l).Pairwise (· < ·) := cmpt_rise (srt_sorted _)
theorem ways0_in {C s x : Int} {l : List Int} (hC : 1 ≤ C) (h : x ∈ ways0 C s l) : 0 ≤ x ∧ x < C := by
  rcases ways0_iff.1 h with rfl | ⟨y, _, rfl⟩
  · omega
  · exact ⟨Int.emod_nonneg _ (by omega), Int.emod_lt_of_pos _ (by omega)⟩
theorem ways0_pos (C s : Int) (l : List Int) : 0 < (ways0 C s l).length := List.length_pos_of_mem (ways0_iff.2 (.inl rfl))
/-- the sweeps, one for each way -/
theorem sweeps_iff {C s : Int} {l : List Int} {p : Int × Int} : p ∈ sweepsOf C s l ↔ ∃ (i : Nat) (h : i < (ways0 C s l).length), p.1 = (ways0 C s l)[i] ∧ p.2 = if h' : i + 1 < (ways0 C s l).length then C - (ways0 C s l)[i + 1] else 0 := by
  unfold sweepsOf sweepTo
  have hw : waysOf C s l = ways0 C s l ++ [C] := rfl
  rw [hw, List.length_append, List.length_singleton, Nat.add_sub_cancel]
  simp only [List.mem_map, List.mem_range]
  have h1 : ∀ i (h : i < (ways0 C s l).length), (ways0 C s l ++ [C]).getD i 0 = (ways0 C s l)[i] := fun i h => by
    simp [List.getD, List.getElem?_append_left h, h]
  have h2 : ∀ i (h : i < (ways0 C s l).length), C - (ways0 C s l ++ [C]).getD (i + 1) 0 = if h' : i + 1 < (ways0 C s l).length then C - (ways0 C s l)[i + 1] else 0 := fun i h => by
    by_cases h' : i + 1 < (ways0 C s l).length
    · rw [dif_pos h', h1 _ h']
    · rw [dif_neg h']
      have e : i + 1 = (ways0 C s l).length := by omega
      rw [e]
      simp [List.getD]
  constructor
  · rintro ⟨i, hi, rfl⟩; exact ⟨i, hi, h1 i hi, h2 i hi⟩
  · rintro ⟨i, hi, e1, e2⟩
    refine ⟨i, hi, ?_⟩
    rw [h1 i hi, h2 i hi, ← e1, ← e2]
theorem pick {l : List Int} {r : Int} (h0 : 0 < l.length) (hr : l[0] ≤ r) : ∀ n, 0 < n → n ≤ l.length → ∃ (i : Nat) (h : i < l.length), i < n ∧ l[i] ≤ r ∧ (i + 1 = n ∨ ∀ h' : i + 1 < l.length, r < l[i + 1])
  | 0, hn, _ => absurd hn (by omega)
  | 1, _, _ => ⟨0, h0, by omega, hr, .inl rfl⟩
  | n + 2, _, hn => by
    obtain ⟨i, h, h1, h2, h3⟩ := pick h0 hr (n + 1) (by omega) (by omega)
    rcases h3 with h3 | h3
    · have hi : i = n := by omega
      subst hi
      by_cases hp : l[i + 1] ≤ r
      · exact ⟨i + 1, by omega, by omega, hp, .inl rfl⟩
      · exact ⟨i, h, by omega, h2, .inr fun _ => by omega⟩
    · exact ⟨i, h, by omega, h2, .inr h3⟩
theorem bestGo_le : ∀ (l : List (Int × Int)) (b : Int × Int), lenOf (bestGo b l).1 (bestGo b l).2 ≤ lenOf b.1 b.2 ∧ ∀ p ∈ l, lenOf (bestGo b l).1 (bestGo b l).2 ≤ lenOf p.1 p.2
  | [], b => by simp [bestGo]
  | t :: l, b => by
    unfold bestGo
    split
    · obtain ⟨h1, h2⟩ := bestGo_le l t
      refine ⟨by omega, fun p hp => ?_⟩
      rcases List.mem_cons.1 hp with rfl | hp
      · exact h1
      · exact h2 p hp
    · obtain ⟨h1, h2⟩ := bestGo_le l b
      refine ⟨h1, fun p hp => ?_⟩
      rcases List.mem_cons.1 hp with rfl | hp
      · omega
      · exact h2 p hp
theorem best_spec {C s : Int} {l : List Int} : bestOf C s l ∈ sweepsOf C s l ∧ ∀ p ∈ sweepsOf C s l, lenOf (bestOf C s l).1 (bestOf C s l).2 ≤ lenOf p.1 p.2 := by
  have hne : sweepsOf C s l ≠ [] := by
    intro e
    have : ((ways0 C s l)[0]'(ways0_pos C s l), if h' : 0 + 1 < (ways0 C s l).length then C - (ways0 C s l)[0 + 1] else 0) ∈ sweepsOf C s l := sweeps_iff.2 ⟨0, ways0_pos C s l, rfl, rfl⟩
    rw [e] at this
    cases this
  unfold bestOf
  generalize sweepsOf C s l = L at *
  cases L with
  | nil => exact absurd rfl hne
  | cons b L =>
    refine ⟨bestGo_mem L b, fun p hp => ?_⟩
    obtain ⟨h1, h2⟩ := bestGo_le L b
    rcases List.mem_cons.1 hp with rfl | hp
    · exact h1
    · exact h2 p hp
/-- no turning past stands is shorter -/
theorem turn_least {C s : Int} {l turns : List Int} (hC : 1 ≤ C) (s0 : 0 ≤ s) (s1 : s < C) (h : ∀ x ∈ l, x ∈ (trips C s turns).2) : lenOf (bestOf C s l).1 (bestOf C s l).2 ≤ sumAbs turns := by
  have ht := tr_of hC s0 s1 turns
  generalize tripsI turns = q at ht
  obtain ⟨l0, r0, lo, hi, _, past, len⟩ := ht
  have hz : (ways0 C s l)[0]'(ways0_pos C s l) ≤ q.2.2 := by
    obtain ⟨j, hj, e⟩ := List.mem_iff_getElem.1 (ways0_iff.2 (.inl rfl) : (0 : Int) ∈ ways0 C s l)
    by_cases hj0 : j = 0
    · subst hj0; omega
    · have := List.pairwise_iff_getElem.1 (ways0_rise C s l) 0 j (ways0_pos C s l) hj (by omega)
      omega
  obtain ⟨i, hi1, _, h2, h3⟩ := pick (ways0_pos C s l) hz _ (ways0_pos C s l) (Nat.le_refl _)
  have hb := best_spec.2 _ (sweeps_iff.2 ⟨i, hi1, rfl, rfl⟩ : ((ways0 C s l)[i], if h' : i + 1 < (ways0 C s l).length then C - (ways0 C s l)[i + 1] else 0) ∈ sweepsOf C s l)
  have hw := ways0_in hC (List.getElem_mem hi1)
  have hleft : (if h' : i + 1 < (ways0 C s l).length then C - (ways0 C s l)[i + 1] else 0) ≤ q.2.1 := by
    split
    · rename_i h'
      have hr : q.2.2 < (ways0 C s l)[i + 1] := by
        rcases h3 with h3 | h3
        · omega
        · exact h3 h'
      have hm := List.getElem_mem h'
      have hmw := ways0_in hC hm
      rcases ways0_iff.1 hm with e | ⟨y, hy, e⟩
      · omega
      · obtain ⟨k, k1, k2, e2⟩ := (past y).1 (h y hy)
        rw [← e] at hr hmw ⊢
        have e3 : (y + -s) % C = k % C := by rw [e2, Int.emod_add_emod]; congr 1; omega
        rw [e3] at hr hmw ⊢
        have e4 := Int.emod_add_mul_ediv k C
        have : k / C < 0 := by
          apply Classical.byContradiction
          intro hn
          have : 0 ≤ C * (k / C) := Int.mul_nonneg (by omega) (by omega)
          omega
        have : C * (k / C) ≤ C * (-1) := Int.mul_le_mul_of_nonneg_left (by omega) (by omega)
        omega
    · exact l0
  unfold lenOf at *
  simp only at hb
  have hl0 : 0 ≤ (if h' : i + 1 < (ways0 C s l).length then C - (ways0 C s l)[i + 1] else 0) := by
    split
    · rename_i h'
      have := ways0_in hC (List.getElem_mem h')
      omega
    · omega
  omega
/-- what a sweep has -/
theorem sweep_facts {C s : Int} {l : List Int} {p : Int × Int} (hC : 1 ≤ C) (h : p ∈ sweepsOf C s l) : 0 ≤ p.1 ∧ 0 ≤ p.2 ∧ p.1 + p.2 < C ∧ ∀ o ∈ ways0 C s l, o ≤ p.1 ∨ C - p.2 ≤ o := by
  obtain ⟨i, hi, e1, e2⟩ := sweeps_iff.1 h
  have hp := List.pairwise_iff_getElem.1 (ways0_rise C s l)
  have hw := ways0_in hC (List.getElem_mem hi)
  by_cases h' : i + 1 < (ways0 C s l).length
  · rw [dif_pos h'] at e2
    have hw' := ways0_in hC (List.getElem_mem h')
    have hlt := hp i (i + 1) hi h' (by omega)
    refine ⟨by omega, by omega, by omega, fun o ho => ?_⟩
    obtain ⟨j, hj, rfl⟩ := List.mem_iff_getElem.1 ho
    by_cases hji : j ≤ i
    · left
      by_cases e : j = i
      · subst e; omega
      · have := hp j i hj hi (by omega); omega
    · right
      by_cases e : j = i + 1
      · subst e; omega
      · have := hp (i + 1) j h' hj (by omega); omega
  · rw [dif_neg h'] at e2
    refine ⟨by omega, by omega, by omega, fun o ho => ?_⟩
    obtain ⟨j, hj, rfl⟩ := List.mem_iff_getElem.1 ho
    left
    by_cases e : j = i
    · subst e; omega
    · have := hp j i hj hi (by omega); omega
theorem turnsOf_facts {C r l : Int} (h0 : 0 ≤ r) (h1 : 0 ≤ l) (h2 : r + l < C) :
    (∀ n ∈ turnsOf r l, n ≠ 0 ∧ -C ≤ n ∧ n ≤ C) ∧ sumAbs (turnsOf r l) = lenOf r l ∧ (turnsOf r l).length ≤ 2 ∧ l ≤ (tripsI (turnsOf r l)).2.1 ∧ r ≤ (tripsI (turnsOf r l)).2.2 := by
  unfold turnsOf lenOf
  split
  · simp [sumAbs, tripsI]; omega
  · split
    · simp [sumAbs, tripsI, tripI]; omega
    · split
      · simp [sumAbs, tripsI, tripI]; omega
      · split
        · simp [sumAbs, tripsI, tripI]; omega
        · simp [sumAbs, tripsI, tripI]; omega
/-- what Turn hands back comes past all -/
theorem turn_past {C s : Int} {l : List Int} (hC : 1 ≤ C) (s0 : 0 ≤ s) (s1 : s < C) (hl : ∀ x ∈ l, 0 ≤ x ∧ x < C) : ∀ x ∈ l, x ∈ (trips C s (turnsOf (bestOf C s l).1 (bestOf C s l).2)).2 := by
  intro x hx
  obtain ⟨h1, h2, h3, h4⟩ := sweep_facts hC (best_spec (C := C) (s := s) (l := l)).1
  obtain ⟨_, _, _, f1, f2⟩ := turnsOf_facts h1 h2 h3
  have ht := tr_of hC s0 s1 (turnsOf (bestOf C s l).1 (bestOf C s l).2)
  refine (ht.past x).2 ?_
  have ho : (x + -s) % C ∈ ways0 C s l := ways0_iff.2 (.inr ⟨x, hx, rfl⟩)
  have hxi := hl x hx
  have hw := ways0_in hC ho
  have e := Int.emod_add_mul_ediv (x + -s) C
  rcases h4 _ ho with h5 | h5
  · exact ⟨(x + -s) % C, by omega, by omega, (emod_of (k := -((x + -s) / C)) hxi.1 hxi.2 (by rw [Int.mul_neg]; omega)).symm⟩
  · exact ⟨(x + -s) % C - C, by omega, by omega, (emod_of (k := -((x + -s) / C) - 1) hxi.1 hxi.2 (by rw [Int.mul_sub, Int.mul_neg, Int.mul_one]; omega)).symm⟩
theorem turn_most {C s : Int} {l : List Int} (hC : 1 ≤ C) : lenOf (bestOf C s l).1 (bestOf C s l).2 ≤ C - 1 := by
  have hpos := ways0_pos C s l
  have hb := best_spec.2 _ (sweeps_iff.2 ⟨(ways0 C s l).length - 1, by omega, rfl, rfl⟩ : ((ways0 C s l)[(ways0 C s l).length - 1]'(by omega), if h' : (ways0 C s l).length - 1 + 1 < (ways0 C s l).length then C - (ways0 C s l)[(ways0 C s l).length - 1 + 1] else 0) ∈ sweepsOf C s l)
  rw [dif_neg (by omega)] at hb
  have hw := ways0_in hC (List.getElem_mem (show (ways0 C s l).length - 1 < (ways0 C s l).length by omega))
  simp only at hb
  unfold lenOf at hb ⊢
  omega
/-- a turning is at least as long as all columns but those of one gap -/
theorem turn_gap {C s g : Int} {l : List Int} (hC : 1 ≤ C) (hg : ∀ p ∈ sweepsOf C s l, C - (p.1 + p.2) ≤ g) : C - g ≤ lenOf (bestOf C s l).1 (bestOf C s l).2 := by
  have hm := (best_spec (C := C) (s := s) (l := l)).1
  have := hg _ hm
  obtain ⟨h1, h2, _, _⟩ := sweep_facts hC hm
  unfold lenOf
  omega
/-- the gap that a sweep leaves out: nothing lies in it -/
theorem sweep_gap {C s c g : Int} {l : List Int} {p : Int × Int} (hC : 1 ≤ C) (h : p ∈ sweepsOf C s l) (hc : (c + -s) % C = p.1) (hg0 : 1 ≤ g) (hg : ((c + g) + -s) % C ∈ ways0 C s l) : C - (p.1 + p.2) ≤ g := by
  obtain ⟨h1, h2, h3, h4⟩ := sweep_facts hC h
  apply Classical.byContradiction
  intro hn
  have e : ((c + g) + -s) % C = p.1 + g := by
    have e1 := Int.emod_add_mul_ediv (c + -s) C
    exact emod_of (k := (c + -s) / C) (by omega) (by omega) (by omega)
  rw [e] at hg
  rcases h4 _ hg with h5 | h5 <;> omega
/-- how far to the left the reference goes, if it goes r to the right -/
def farR (C s : Int) (l : List Int) (r : Int) : Int := l.foldl (fun f x => if r < (x + -s) % C then max f (C - (x + -s) % C) else f) 0
theorem farR_snoc (C s : Int) (l : List Int) (r x : Int) : farR C s (l ++ [x]) r = if r < (x + -s) % C then max (farR C s l r) (C - (x + -s) % C) else farR C s l r := by simp [farR]
theorem farR_le {C s r m : Int} (hm : 0 ≤ m) : ∀ l : List Int, (∀ x ∈ l, r < (x + -s) % C → C - (x + -s) % C ≤ m) → ∀ f : Int, f ≤ m → l.foldl (fun f x => if r < (x + -s) % C then max f (C - (x + -s) % C) else f) f ≤ m
  | [], _, f, hf => hf
  | x :: l, h, f, hf => by
    rw [List.foldl_cons]
    refine farR_le hm l (fun y hy => h y (by simp [hy])) _ ?_
    split
    · have := h x (by simp) (by assumption); omega
    · exact hf
theorem farR_ge {C s r : Int} : ∀ (l : List Int) (f : Int), f ≤ l.foldl (fun f x => if r < (x + -s) % C then max f (C - (x + -s) % C) else f) f ∧ ∀ x ∈ l, r < (x + -s) % C → C - (x + -s) % C ≤ l.foldl (fun f x => if r < (x + -s) % C then max f (C - (x + -s) % C) else f) f
  | [], f => by simp
  | y :: l, f => by
    rw [List.foldl_cons]
    obtain ⟨h1, h2⟩ := farR_ge (C := C) (s := s) (r := r) l (if r < (y + -s) % C then max f (C - (y + -s) % C) else f)
    refine ⟨?_, fun x hx hr => ?_⟩
    · refine Int.le_trans ?_ h1
      split <;> omega
    · rcases List.mem_cons.1 hx with rfl | hx
      · refine Int.le_trans ?_ h1
        rw [if_pos hr]
        omega
      · exact h2 x hx hr
/-- the reference's length -/
def refLenTo (C s : Int) (l : List Int) (k : Nat) : Int := (List.range k).foldl (fun b (r : Nat) => min b (min (2 * (r : Int) + farR C s l r) (2 * farR C s l r + (r : Int)))) C
theorem refLenTo_succ (C s : Int) (l : List Int) (k : Nat) : refLenTo C s l (k + 1) = min (refLenTo C s l k) (min (2 * (k : Int) + farR C s l k) (2 * farR C s l k + (k : Int))) := by simp [refLenTo, List.range_succ]
theorem refLenTo_spec {C s m : Int} {l : List Int} : ∀ k : Nat, (m ≤ refLenTo C s l k ↔ m ≤ C ∧ ∀ r : Nat, r < k → m ≤ min (2 * (r : Int) + farR C s l r) (2 * farR C s l r + (r : Int)))
  | 0 => by simp [refLenTo]
  | k + 1 => by
    rw [refLenTo_succ, Int.le_min, refLenTo_spec k]
    constructor
    · rintro ⟨⟨h1, h2⟩, h3⟩
      refine ⟨h1, fun r hr => ?_⟩
      by_cases e : r = k
      · subst e; exact h3
      · exact h2 r (by omega)
    · rintro ⟨h1, h2⟩
      exact ⟨⟨h1, fun r hr => h2 r (by omega)⟩, h2 k (by omega)⟩
theorem refLen_same {C s : Int} {l : List Int} (hC : 1 ≤ C) : refLenTo C s l C.toNat = lenOf (bestOf C s l).1 (bestOf C s l).2 := by
  apply Int.le_antisymm
  · -- the best sweep is among the reference's
    obtain ⟨h1, h2, h3, h4⟩ := sweep_facts hC (best_spec (C := C) (s := s) (l := l)).1
    generalize bestOf C s l = p at *
    have hk := (refLenTo_spec (C := C) (s := s) (l := l) (m := refLenTo C s l C.toNat) C.toNat).1 (Int.le_refl _)
    have hr := hk.2 p.1.toNat (by omega)
    rw [Int.toNat_of_nonneg h1] at hr
    have hf : farR C s l p.1 ≤ p.2 := farR_le h2 l (fun x hx hlt => by
      rcases h4 _ (ways0_iff.2 (.inr ⟨x, hx, rfl⟩)) with h5 | h5 <;> omega) 0 h2
    unfold lenOf
    omega
  · refine (refLenTo_spec _).2 ⟨by have := turn_most (s := s) (l := l) hC; omega, fun r hr => ?_⟩
    have hz : (ways0 C s l)[0]'(ways0_pos C s l) ≤ (r : Int) := by
      obtain ⟨j, hj, e⟩ := List.mem_iff_getElem.1 (ways0_iff.2 (.inl rfl) : (0 : Int) ∈ ways0 C s l)
      by_cases hj0 : j = 0
      · subst hj0; omega
      · have := List.pairwise_iff_getElem.1 (ways0_rise C s l) 0 j (ways0_pos C s l) hj (by omega)
        omega
    obtain ⟨i, hi1, _, h2, h3⟩ := pick (ways0_pos C s l) hz _ (ways0_pos C s l) (Nat.le_refl _)
    have hb := best_spec.2 _ (sweeps_iff.2 ⟨i, hi1, rfl, rfl⟩ : ((ways0 C s l)[i], if h' : i + 1 < (ways0 C s l).length then C - (ways0 C s l)[i + 1] else 0) ∈ sweepsOf C s l)
    have hf0 := (farR_ge (C := C) (s := s) (r := r) l 0).1
    have hfx := (farR_ge (C := C) (s := s) (r := r) l 0).2
    have hw := ways0_in hC (List.getElem_mem hi1)
    change 0 ≤ farR C s l r at hf0
    change ∀ x ∈ l, (r : Int) < (x + -s) % C → C - (x + -s) % C ≤ farR C s l r at hfx
    generalize farR C s l r = f at *
    have hleft : (if h' : i + 1 < (ways0 C s l).length then C - (ways0 C s l)[i + 1] else 0) ≤ f := by
      split
      · rename_i h'
        have hr : (r : Int) < (ways0 C s l)[i + 1] := by
          rcases h3 with h3 | h3
          · omega
          · exact h3 h'
        have hm := List.getElem_mem h'
        rcases ways0_iff.1 hm with e | ⟨y, hy, e⟩
        · omega
        · rw [← e] at hr ⊢
          exact hfx y hy hr
      · exact hf0
    unfold lenOf at *
    simp only at hb
    omega
end Go.Proofs.Ytnjmkdgglpcfpaa
