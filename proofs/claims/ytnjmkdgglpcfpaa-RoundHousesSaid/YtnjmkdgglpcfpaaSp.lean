/- The plain mathematics of rounds: nothing of the program is imported. -/
namespace Go.Proofs.Ytnjmkdgglpcfpaa

/-- a strictly rising list of columns -/
def Rise (C : Int) (l : List Int) : Prop := l.Pairwise (· < ·) ∧ ∀ x ∈ l, 0 ≤ x ∧ x < C
instance (C : Int) (l : List Int) : Decidable (Rise C l) := by unfold Rise; infer_instance

theorem Rise.take {C : Int} {l : List Int} (h : Rise C l) (k : Nat) : Rise C (l.take k) :=
  ⟨h.1.sublist (List.take_sublist _ _), fun x hx => h.2 x (List.mem_of_mem_take hx)⟩
theorem Rise.nil {C : Int} : Rise C [] := ⟨List.Pairwise.nil, by simp⟩

theorem rise_first {C : Int} {l : List Int} (hk : 0 < l.length) (h0 : 0 ≤ l[0]) (h1 : l[0] < C) : Rise C (l.take (0 + 1)) := by
  match l, hk with
  | x :: t, _ => exact ⟨by simp, by simpa using ⟨h0, h1⟩⟩

theorem rise_next {C : Int} {l : List Int} {k : Nat} (hk : k < l.length) (hp : 0 < k) (h : Rise C (l.take k)) (h0 : 0 ≤ l[k]) (h1 : l[k] < C) (h2 : l[k - 1]'(by omega) < l[k]) : Rise C (l.take (k + 1)) := by
  rw [List.take_succ_eq_append_getElem hk]
  refine ⟨List.pairwise_append.2 ⟨h.1, by simp, ?_⟩, ?_⟩
  · intro a ha b hb
    obtain rfl : b = l[k] := by simpa using hb
    obtain ⟨i, hi, rfl⟩ := List.mem_iff_getElem.1 ha
    have hi' : i < k := by simp at hi; omega
    rw [List.getElem_take]
    rcases Nat.lt_or_ge i (k - 1) with hlt | hge
    · have := List.pairwise_iff_getElem.1 h.1 i (k - 1) hi (by simp; omega) hlt
      simp only [List.getElem_take] at this
      omega
    · obtain rfl : i = k - 1 := by omega
      exact h2
  · intro x hx
    rcases List.mem_append.1 hx with hx | hx
    · exact h.2 x hx
    · obtain rfl : x = l[k] := by simpa using hx
      exact ⟨h0, h1⟩

theorem Rise.at {C : Int} {l : List Int} (h : Rise C l) {k : Nat} (hk : k < l.length) : 0 ≤ l[k] ∧ l[k] < C := h.2 _ (List.getElem_mem hk)
theorem Rise.step {C : Int} {l : List Int} (h : Rise C l) {k : Nat} (hk : k < l.length) (hp : 0 < k) : l[k - 1]'(by omega) < l[k] :=
  List.pairwise_iff_getElem.1 h.1 (k - 1) k (by omega) hk (by omega)

/-- the error of a list that must rise -/
def riseI (C : Int) (l : List Int) : Int := if Rise C l then 0 else 1
theorem riseI_yes {C : Int} {l : List Int} (h : Rise C l) : riseI C l = 0 := if_pos h
theorem riseI_no {C : Int} {l : List Int} (h : ¬ Rise C l) : riseI C l = 1 := if_neg h

/-- Check -/
def chk (C R B F : Int) (cl : List Int) : Int :=
  if C < 3 ∨ 120 < C ∨ R < 1 ∨ 16 < R then 1 else if B < 0 ∨ F < 0 ∨ C - B ≤ F then 1 else if 120 < cl.length then 2 else riseI C cl

structure Ok (C R B F : Int) (cl : List Int) : Prop where
  c3 : 3 ≤ C
  c120 : C ≤ 120
  r1 : 1 ≤ R
  r16 : R ≤ 16
  b0 : 0 ≤ B
  f0 : 0 ≤ F
  bf : F < C - B
  len : cl.length ≤ 120
  rise : Rise C cl

theorem chk_ok {C R B F : Int} {cl : List Int} : chk C R B F cl = 0 ↔ Ok C R B F cl := by
  unfold chk
  constructor
  · intro h
    split at h
    · cases h
    · split at h
      · cases h
      · split at h
        · cases h
        · by_cases hr : Rise C cl
          · exact ⟨by omega, by omega, by omega, by omega, by omega, by omega, by omega, by omega, hr⟩
          · rw [riseI_no hr] at h
            cases h
  · intro h
    obtain ⟨h1, h2, h3, h4, h5, h6, h7, h8, h9⟩ := h
    rw [if_neg (by omega), if_neg (by omega), if_neg (by omega), riseI_yes h9]

theorem Ok.holes0 {C R B F : Int} {cl : List Int} (h : Ok C R B F cl) : 0 ≤ C * R := Int.mul_nonneg (by have := h.c3; omega) (by have := h.r1; omega)
theorem Ok.holes {C R B F : Int} {cl : List Int} (h : Ok C R B F cl) : C * R ≤ 1920 := by
  have h1 : C * R ≤ 120 * R := Int.mul_le_mul_of_nonneg_right h.c120 (by have := h.r1; omega)
  have := h.r16
  omega

/-- the columns of holes -/
def colm (C : Int) (holes : List Int) : List Int := holes.map (· % C)

/-- the error of a house and a column -/
def colErr (C R B F : Int) (cl : List Int) (c : Int) : Int := if chk C R B F cl ≠ 0 then chk C R B F cl else if 0 ≤ c ∧ c < C then 0 else 1
/-- the error of a house and holes -/
def holesErr (C R B F : Int) (cl : List Int) (l : List Int) : Int :=
  if chk C R B F cl ≠ 0 then chk C R B F cl else if 200 < l.length then 2 else if ∀ x ∈ l, 0 ≤ x ∧ x < C * R then 0 else 1
/-- the error of stands, in a house that has none -/
def standsErr (C : Int) (cl l : List Int) : Int := if 200 < l.length then 2 else if Rise C l ∧ ∀ x ∈ l, x ∉ cl then 0 else 1

theorem colErr_bad {C R B F : Int} {cl : List Int} (c : Int) (h : ¬ Ok C R B F cl) : colErr C R B F cl c = chk C R B F cl := if_pos fun e => h (chk_ok.1 e)
theorem colErr_ok {C R B F : Int} {cl : List Int} (c : Int) (h : Ok C R B F cl) : colErr C R B F cl c = if 0 ≤ c ∧ c < C then 0 else 1 := if_neg fun e => e (chk_ok.2 h)
theorem holesErr_bad {C R B F : Int} {cl : List Int} (l : List Int) (h : ¬ Ok C R B F cl) : holesErr C R B F cl l = chk C R B F cl := if_pos fun e => h (chk_ok.1 e)
theorem holesErr_ok {C R B F : Int} {cl : List Int} (l : List Int) (h : Ok C R B F cl) : holesErr C R B F cl l = if 200 < l.length then 2 else if ∀ x ∈ l, 0 ≤ x ∧ x < C * R then 0 else 1 := if_neg fun e => e (chk_ok.2 h)
theorem chk_ne {C R B F : Int} {cl : List Int} (h : ¬ Ok C R B F cl) : (chk C R B F cl == 0) = false ∧ (chk C R B F cl != 0) = true := by
  have : chk C R B F cl ≠ 0 := fun e => h (chk_ok.1 e)
  simp [this]
/-- what a right house with holes must be -/
structure HolesOk (C R B F : Int) (cl : List Int) (l : List Int) : Prop where
  ok : Ok C R B F cl
  len : l.length ≤ 200
  all : ∀ x ∈ l, 0 ≤ x ∧ x < C * R
theorem holesErr_zero {C R B F : Int} {cl l : List Int} : holesErr C R B F cl l = 0 ↔ HolesOk C R B F cl l := by
  constructor
  · intro h
    by_cases hk : Ok C R B F cl
    · rw [holesErr_ok _ hk] at h
      split at h
      · cases h
      · split at h
        · exact ⟨hk, by omega, by assumption⟩
        · cases h
    · rw [holesErr_bad _ hk] at h
      exact absurd (chk_ok.1 h) hk
  · rintro ⟨h1, h2, h3⟩
    rw [holesErr_ok _ h1, if_neg (by omega), if_pos h3]
theorem HolesOk.cols {C R B F : Int} {cl l : List Int} (h : HolesOk C R B F cl l) : ∀ x ∈ colm C l, 0 ≤ x ∧ x < C := by
  intro x hx
  obtain ⟨y, _, rfl⟩ := List.mem_map.1 hx
  have := h.ok.c3
  exact ⟨Int.emod_nonneg _ (by omega), Int.emod_lt_of_pos _ (by omega)⟩

/-- is column c reached from stand s? -/
def rch (C B F s c : Int) : Bool := decide ((c + (B - s)) % C ≤ B + F)

/-- the numbers below n that p holds of, in order -/
def colsTo (p : Nat → Bool) (k : Nat) : List Int := ((List.range k).filter p).map fun i : Nat => (i : Int)
theorem colsTo_len (p : Nat → Bool) (k : Nat) : (colsTo p k).length ≤ k := by
  unfold colsTo
  rw [List.length_map]
  exact Nat.le_trans (List.length_filter_le _ _) (by simp)
theorem colsTo_yes {p : Nat → Bool} {k : Nat} (h : p k = true) : colsTo p (k + 1) = colsTo p k ++ [(k : Int)] := by
  simp [colsTo, List.range_succ, h]
theorem colsTo_no {p : Nat → Bool} {k : Nat} (h : p k = false) : colsTo p (k + 1) = colsTo p k := by
  simp [colsTo, List.range_succ, h]
/-- the marked columns, in order -/
def cols (p : Nat → Bool) : List Int := colsTo p 120

/-- the marks of the numbers of a list -/
def isIn (l : List Int) : Nat → Bool := fun i => decide ((i : Int) ∈ l)
theorem colm_snoc (C : Int) (l : List Int) (x : Int) : colm C (l ++ [x]) = colm C l ++ [x % C] := by simp [colm]

/-- the open stands from which a column is reached -/
def opens (C B F : Int) (shut : Nat → Bool) (c : Int) : List Int := colsTo (fun s => !shut s && rch C B F s c) C.toNat

end Go.Proofs.Ytnjmkdgglpcfpaa
