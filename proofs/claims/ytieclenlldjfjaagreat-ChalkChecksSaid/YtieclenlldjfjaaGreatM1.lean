import Derived.Test.YtieclenlldjfjaaGreatG3
set_option linter.unusedSimpArgs false
set_option linter.unusedVariables false
/- Plain mathematics: the fewest strokes of each symbol, by rounds over the makings. -/
namespace Go.Proofs.YtieclenlldjfjaaGreat

/-- what an item of a making counts: a stroke one, a symbol what it has (less than 0: nothing yet) -/
def val (out : List Int) (n : Int) : Int := if n < 0 then 1 else out.getD (n - 1).toNat (-1)
def okL (out : List Int) (items : List Int) : Bool := items.all fun n => decide (0 ≤ val out n)
def sumL (out : List Int) (items : List Int) : Int := (items.map (val out)).sum
/-- one making -/
def relax (out : List Int) (m : Mkg) : List Int :=
  if okL out m.items = true ∧ (out.getD (m.sym - 1).toNat (-1) < 0 ∨ sumL out m.items < out.getD (m.sym - 1).toNat (-1)) then out.set (m.sym - 1).toNat (sumL out m.items) else out
def rnd (ms : List Mkg) (out : List Int) : List Int := ms.foldl relax out
def iter (ms : List Mkg) (out : List Int) : Nat → List Int
  | 0 => out
  | j + 1 => rnd ms (iter ms out j)

theorem relax_len (out : List Int) (m : Mkg) : (relax out m).length = out.length := by
  unfold relax; split <;> simp
theorem foldl_len : ∀ (ms : List Mkg) (out : List Int), (ms.foldl relax out).length = out.length
  | [], _ => rfl
  | m :: ms, out => by rw [List.foldl_cons, foldl_len ms, relax_len]

/-- a state that no round changes stays as it is -/
theorem iter_stable {ms : List Mkg} {out : List Int} {j : Nat} (h : rnd ms (iter ms out j) = iter ms out j) : ∀ d, iter ms out (j + d) = iter ms out j
  | 0 => rfl
  | d + 1 => by
    show rnd ms (iter ms out (j + d)) = _
    rw [iter_stable h d, h]
theorem iter_same {ms : List Mkg} {out : List Int} {j k : Nat} (h : rnd ms (iter ms out j) = iter ms out j) (h' : rnd ms (iter ms out k) = iter ms out k) : iter ms out j = iter ms out k := by
  rcases Nat.le_total j k with hl | hl
  · have := iter_stable h (k - j)
    rw [show j + (k - j) = k by omega] at this
    exact this.symm
  · have := iter_stable h' (j - k)
    rw [show k + (j - k) = j by omega] at this
    exact this

/-- how many symbols have something -/
def defs (out : List Int) : Nat := (out.filter fun x => decide (0 ≤ x)).length
theorem defs_le (out : List Int) : defs out ≤ out.length := List.length_filter_le _ _

/-- every number is at most 3 to the power of how many there are -/
structure Bd (out : List Int) : Prop where
  low : ∀ x ∈ out, -1 ≤ x
  high : ∀ x ∈ out, x ≤ 3 ^ defs out

/-- what a making must be -/
def Fit (Sy : Nat) (m : Mkg) : Prop := 1 ≤ m.sym ∧ m.sym ≤ Sy ∧ m.items.length ≤ 3 ∧ ∀ n ∈ m.items, (n < 0) ∨ (1 ≤ n ∧ n ≤ Sy)

theorem mkgB_fit {Sy : Int} {m : Mkg} (h : mkgB Sy m = true) : 0 ≤ Sy → Fit Sy.toNat m := by
  intro h0
  unfold mkgB at h
  simp only [Bool.and_eq_true, decide_eq_true_eq] at h
  obtain ⟨⟨⟨h1, h2⟩, h3⟩, h4⟩ := h
  refine ⟨h1.1, by omega, h3, fun n hn => ?_⟩
  have := List.all_eq_true.1 h4 n hn
  unfold itemB at this
  simp only [Bool.or_eq_true, decide_eq_true_eq] at this
  omega

theorem pow_pos3 (d : Nat) : (1 : Int) ≤ 3 ^ d := by
  induction d with
  | zero => decide
  | succ d ih => rw [Int.pow_succ]; omega

theorem val_le {out : List Int} (hb : Bd out) (n : Int) : val out n ≤ 3 ^ defs out := by
  unfold val
  split
  · exact pow_pos3 _
  · rw [List.getD_eq_getElem?_getD]
    cases h : out[(n - 1).toNat]? with
    | none => have := pow_pos3 (defs out); simp; omega
    | some x => exact hb.high x (List.mem_of_getElem? h)

theorem sum_le {out : List Int} (hb : Bd out) : ∀ (l : List Int), sumL out l ≤ l.length * 3 ^ defs out
  | [] => by simp [sumL]
  | n :: l => by
    have ih := sum_le hb l
    have := val_le hb n
    simp only [sumL, List.map_cons, List.sum_cons, List.length_cons] at ih ⊢
    have e : ((l.length + 1 : Nat) : Int) * 3 ^ defs out = (l.length : Int) * 3 ^ defs out + 3 ^ defs out := by
      rw [Int.natCast_add, Int.add_mul]; simp
    omega

theorem sum_nonneg {out : List Int} : ∀ {l : List Int}, okL out l = true → 0 ≤ sumL out l
  | [], _ => by simp [sumL]
  | n :: l, h => by
    simp only [okL, List.all_cons, Bool.and_eq_true, decide_eq_true_eq] at h
    have ih := sum_nonneg (out := out) (l := l) h.2
    simp only [sumL, List.map_cons, List.sum_cons] at ih ⊢
    omega

theorem filter_set_new : ∀ {out : List Int} {i : Nat} {v : Int}, i < out.length → out.getD i (-1) < 0 → 0 ≤ v → defs (out.set i v) = defs out + 1
  | x :: out, 0, v, _, h, hv => by
    have h : x < 0 := by simpa using h
    simp [defs, hv, show ¬ 0 ≤ x by omega]
  | x :: out, i + 1, v, hi, h, hv => by
    have ih := filter_set_new (out := out) (i := i) (v := v) (by simpa using hi) (by simpa using h) hv
    unfold defs at ih ⊢
    rw [List.set_cons_succ]
    by_cases hx : 0 ≤ x
    · rw [List.filter_cons_of_pos (by simpa using hx), List.filter_cons_of_pos (by simpa using hx), List.length_cons, List.length_cons, ih]
    · rw [List.filter_cons_of_neg (by simpa using hx), List.filter_cons_of_neg (by simpa using hx), ih]
theorem filter_set_old : ∀ {out : List Int} {i : Nat} {v : Int}, 0 ≤ out.getD i (-1) → 0 ≤ v → defs (out.set i v) = defs out
  | [], _, _, h, _ => by simp at h
  | x :: out, 0, v, h, hv => by
    have h : 0 ≤ x := by simpa using h
    simp [defs, hv, h]
  | x :: out, i + 1, v, h, hv => by
    have ih := filter_set_old (out := out) (i := i) (v := v) (by simpa using h) hv
    unfold defs at ih ⊢
    rw [List.set_cons_succ]
    by_cases hx : 0 ≤ x
    · rw [List.filter_cons_of_pos (by simpa using hx), List.filter_cons_of_pos (by simpa using hx), List.length_cons, List.length_cons, ih]
    · rw [List.filter_cons_of_neg (by simpa using hx), List.filter_cons_of_neg (by simpa using hx), ih]

theorem pow_mono3 {a b : Nat} (h : a ≤ b) : (3 : Int) ^ a ≤ 3 ^ b := by
  induction h with
  | refl => exact Int.le_refl _
  | step _ ih => rw [Int.pow_succ]; have := pow_pos3 a; omega

/-- a round's step keeps the bound -/
theorem relax_bd {Sy : Nat} {out : List Int} {m : Mkg} (hl : out.length = Sy) (hb : Bd out) (hf : Fit Sy m) : Bd (relax out m) := by
  unfold relax
  split
  · rename_i h
    obtain ⟨hok, hlt⟩ := h
    have hs0 := sum_nonneg hok
    have hs1 := sum_le hb m.items
    have hp := pow_pos3 (defs out)
    have hs2 : sumL out m.items ≤ 3 * 3 ^ defs out := by
      have h3 : (m.items.length : Int) ≤ 3 := by have := hf.2.2.1; omega
      exact Int.le_trans hs1 (Int.mul_le_mul_of_nonneg_right h3 (by omega))
    have hi : (m.sym - 1).toNat < out.length := by have := hf.1; have := hf.2.1; omega
    have hmem : ∀ x ∈ out.set (m.sym - 1).toNat (sumL out m.items), x ∈ out ∨ x = sumL out m.items := fun x hx => List.mem_or_eq_of_mem_set hx
    by_cases hd : out.getD (m.sym - 1).toNat (-1) < 0
    · have hdef := filter_set_new hi hd hs0
      refine ⟨fun x hx => ?_, fun x hx => ?_⟩
      · rcases hmem x hx with hx | rfl
        · exact hb.low x hx
        · omega
      · rw [hdef, Int.pow_succ]
        rcases hmem x hx with hx | rfl
        · have := hb.high x hx; omega
        · omega
    · have hdef := filter_set_old (v := sumL out m.items) (show 0 ≤ out.getD (m.sym - 1).toNat (-1) by omega) hs0
      have hlt : sumL out m.items < out.getD (m.sym - 1).toNat (-1) := by
        rcases hlt with h | h
        · exact absurd h hd
        · exact h
      have hv : out.getD (m.sym - 1).toNat (-1) ≤ 3 ^ defs out := by
        rw [List.getD_eq_getElem?_getD, List.getElem?_eq_getElem hi]
        exact hb.high _ (List.getElem_mem hi)
      refine ⟨fun x hx => ?_, fun x hx => ?_⟩
      · rcases hmem x hx with hx | rfl
        · exact hb.low x hx
        · omega
      · rw [hdef]
        rcases hmem x hx with hx | rfl
        · exact hb.high x hx
        · omega
  · exact hb

/-- what is left to come down -/
def pot (out : List Int) : Nat := (out.map fun x => if x < 0 then 1000000 else x.toNat).sum

theorem sum_set : ∀ {out : List Int} {i : Nat} {v : Int} (f : Int → Nat), i < out.length → ((out.set i v).map f).sum + f (out.getD i (-1)) = (out.map f).sum + f v
  | x :: out, 0, v, f, _ => by simp; omega
  | x :: out, i + 1, v, f, h => by
    have := sum_set (out := out) (i := i) (v := v) f (by simpa using h)
    simp only [List.set_cons_succ, List.map_cons, List.sum_cons, List.getD_cons_succ] at this ⊢
    omega

theorem relax_pot {Sy : Nat} {out : List Int} {m : Mkg} (hS : Sy ≤ 12) (hl : out.length = Sy) (hb : Bd out) (hf : Fit Sy m) : relax out m = out ∨ pot (relax out m) < pot out := by
  unfold relax
  split
  · rename_i h
    obtain ⟨hok, hlt⟩ := h
    refine .inr ?_
    have hs0 := sum_nonneg hok
    have hi : (m.sym - 1).toNat < out.length := by have := hf.1; have := hf.2.1; omega
    have key := sum_set (v := sumL out m.items) (fun x => if x < 0 then 1000000 else x.toNat) hi
    unfold pot
    simp only [show ¬ sumL out m.items < 0 by omega, if_false] at key
    by_cases hd : out.getD (m.sym - 1).toNat (-1) < 0
    · rw [if_pos hd] at key
      -- some symbol has nothing: at most 11 have
      have hdef := filter_set_new hi hd hs0
      have h1 := defs_le (out.set (m.sym - 1).toNat (sumL out m.items))
      rw [hdef, List.length_set, hl] at h1
      have hs1 := sum_le hb m.items
      have hp := pow_mono3 (show defs out ≤ 11 by omega)
      have h3 : (m.items.length : Int) ≤ 3 := by have := hf.2.2.1; omega
      have hp1 := pow_pos3 (defs out)
      have hs2 : sumL out m.items ≤ 3 * 3 ^ defs out := Int.le_trans hs1 (Int.mul_le_mul_of_nonneg_right h3 (by omega))
      have e : (3 : Int) ^ 11 = 177147 := by decide
      omega
    · rw [if_neg hd] at key
      have hlt : sumL out m.items < out.getD (m.sym - 1).toNat (-1) := by
        rcases hlt with h | h
        · exact absurd h hd
        · exact h
      omega
  · exact .inl rfl
end Go.Proofs.YtieclenlldjfjaaGreat
