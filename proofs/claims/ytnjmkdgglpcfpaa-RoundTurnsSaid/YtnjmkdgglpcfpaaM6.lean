import Derived.Test.YtnjmkdgglpcfpaaC4
namespace Go.Proofs.Ytnjmkdgglpcfpaa
set_option linter.unusedVariables false
set_option linter.unusedSimpArgs false

theorem gapAt_facts {C : Int} {l : List Int} {j : Nat} (h : Rise C l) (hj : j < l.length) : 1 ≤ gapAt C l j ∧ gapAt C l j ≤ C ∧ (l[j] + gapAt C l j) % C ∈ l := by
  have hx := h.2 _ (List.getElem_mem hj)
  have hp := List.pairwise_iff_getElem.1 h.1
  unfold gapAt
  by_cases hn : j + 1 < l.length
  · rw [if_pos hn]
    have hy := h.2 _ (List.getElem_mem hn)
    have hlt := hp j (j + 1) hj hn (by omega)
    have e1 : l.getD (j + 1) 0 = l[j + 1] := by simp [List.getD, hn]
    have e2 : l.getD j 0 = l[j] := by simp [List.getD, hj]
    rw [e1, e2]
    refine ⟨by omega, by omega, ?_⟩
    rw [show l[j] + (l[j + 1] - l[j]) = l[j + 1] by omega, Int.emod_eq_of_lt hy.1 hy.2]
    exact List.getElem_mem hn
  · rw [if_neg hn]
    have h0 : 0 < l.length := by omega
    have hy := h.2 _ (List.getElem_mem h0)
    have e1 : l.getD 0 0 = l[0] := by simp [List.getD, h0]
    have e2 : l.getD j 0 = l[j] := by simp [List.getD, hj]
    rw [e1, e2]
    have hle : l[0] ≤ l[j] := by
      by_cases e : j = 0
      · subst e; exact Int.le_refl _
      · have := hp 0 j h0 hj (by omega); omega
    refine ⟨by omega, by omega, ?_⟩
    rw [show l[j] + (l[0] + C - l[j]) = l[0] + C * 1 by omega, Int.add_mul_emod_self_left, Int.emod_eq_of_lt hy.1 hy.2]
    exact List.getElem_mem h0
/-- the greatest of numbers, or 0 -/
def maxL (l : List Int) : Int := l.foldl max 0
theorem maxL_snoc (l : List Int) (x : Int) : maxL (l ++ [x]) = max (maxL l) x := by simp [maxL]
theorem maxL_facts : ∀ (l : List Int) (b : Int), b ≤ l.foldl max b ∧ (∀ x ∈ l, x ≤ l.foldl max b) ∧ ∀ m, b ≤ m → (∀ x ∈ l, x ≤ m) → l.foldl max b ≤ m
  | [], b => by simp
  | y :: l, b => by
    rw [List.foldl_cons]
    obtain ⟨h1, h2, h3⟩ := maxL_facts l (max b y)
    refine ⟨by omega, fun x hx => ?_, fun m hb hm => h3 m ?_ fun x hx => hm x (by simp [hx])⟩
    · rcases List.mem_cons.1 hx with rfl | hx
      · omega
      · exact h2 x hx
    · have := hm y (by simp); omega
/-- the stands and where one begins -/
def allOf (C s : Int) (l : List Int) : List Int := colsTo (fun i => decide ((i : Int) = s) || isIn l i) C.toNat
theorem allOf_iff {C s x : Int} {l : List Int} (s0 : 0 ≤ s) (s1 : s < C) (hl : ∀ x ∈ l, 0 ≤ x ∧ x < C) : x ∈ allOf C s l ↔ x = s ∨ x ∈ l := by
  unfold allOf
  rw [colsTo_mem]
  constructor
  · rintro ⟨i, hi, hp, rfl⟩
    simp only [Bool.or_eq_true, decide_eq_true_eq, isIn] at hp
    exact hp
  · intro h
    have hx : 0 ≤ x ∧ x < C := by
      rcases h with rfl | h
      · exact ⟨s0, s1⟩
      · exact hl x h
    refine ⟨x.toNat, by omega, ?_, by omega⟩
    simp only [Bool.or_eq_true, decide_eq_true_eq, isIn]
    rw [Int.toNat_of_nonneg hx.1]
    exact h
theorem allOf_rise {C s : Int} {l : List Int} : Rise C (allOf C s l) := ⟨colsTo_rise _ _, fun x hx => by
  obtain ⟨i, hi, _, rfl⟩ := colsTo_mem.1 hx
  omega⟩
/-- the widest gap of the stands and the beginning -/
def widest (C s : Int) (l : List Int) : Int := maxL (gapsTo C (allOf C s l) (allOf C s l).length)
theorem widest_in {C s : Int} {l : List Int} (hC : 1 ≤ C) : 0 ≤ widest C s l ∧ widest C s l ≤ C := by
  unfold widest
  obtain ⟨h1, _, h3⟩ := maxL_facts (gapsTo C (allOf C s l) (allOf C s l).length) 0
  refine ⟨h1, h3 C (by omega) fun x hx => ?_⟩
  unfold gapsTo at hx
  obtain ⟨j, hj, rfl⟩ := List.mem_map.1 hx
  exact (gapAt_facts allOf_rise (List.mem_range.1 hj)).2.1
theorem turn_widest {C s : Int} {l : List Int} (hC : 1 ≤ C) (s0 : 0 ≤ s) (s1 : s < C) (hl : ∀ x ∈ l, 0 ≤ x ∧ x < C) : C - widest C s l ≤ lenOf (bestOf C s l).1 (bestOf C s l).2 := by
  refine turn_gap hC fun p hp => ?_
  obtain ⟨i, hi, e1, _⟩ := sweeps_iff.1 hp
  have hm : p.1 ∈ ways0 C s l := by rw [e1]; exact List.getElem_mem hi
  have hw := ways0_in hC hm
  have back : ∀ y : Int, 0 ≤ y → y < C → (s + (y + -s) % C) % C = y := fun y y0 y1 => by
    have e := Int.emod_add_mul_ediv (y + -s) C
    exact emod_of (k := -((y + -s) / C)) y0 y1 (by rw [Int.mul_neg]; omega)
  have hc : (s + p.1) % C ∈ allOf C s l := by
    rw [allOf_iff s0 s1 hl]
    rcases ways0_iff.1 hm with e | ⟨y, hy, e⟩
    · left; rw [e, Int.add_zero, Int.emod_eq_of_lt s0 s1]
    · right; rw [← e, back y (hl y hy).1 (hl y hy).2]; exact hy
  obtain ⟨j, hj, ej⟩ := List.mem_iff_getElem.1 hc
  obtain ⟨g1, _, g3⟩ := gapAt_facts (allOf_rise (C := C) (s := s) (l := l)) hj
  have hle : gapAt C (allOf C s l) j ≤ widest C s l := by
    unfold widest
    exact (maxL_facts _ 0).2.1 _ (List.mem_map.2 ⟨j, List.mem_range.2 hj, rfl⟩)
  have hcs : ((s + p.1) % C + -s) % C = p.1 := by
    rw [Int.emod_add_emod, show s + p.1 + -s = p.1 by omega, Int.emod_eq_of_lt hw.1 hw.2]
  rw [ej] at g3
  refine Int.le_trans (sweep_gap hC hp hcs g1 ?_) hle
  rw [allOf_iff s0 s1 hl] at g3
  generalize gapAt C (allOf C s l) j = g at *
  rw [show (s + p.1) % C + g + -s = ((s + p.1) % C + g) + -s by omega]
  have e3 : ((s + p.1) % C + g + -s) % C = (((s + p.1) % C + g) % C + -s) % C := (Int.emod_add_emod _ _ _).symm
  rw [e3, ways0_iff]
  rcases g3 with e | hy
  · left; rw [e, show s + -s = 0 by omega]; exact Int.zero_emod C
  · exact .inr ⟨_, hy, rfl⟩
end Go.Proofs.Ytnjmkdgglpcfpaa
