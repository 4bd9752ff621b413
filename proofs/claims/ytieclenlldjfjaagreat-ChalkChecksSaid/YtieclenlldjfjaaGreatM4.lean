import Derived.Test.YtieclenlldjfjaaGreatP3
set_option linter.unusedSimpArgs false
set_option linter.unusedVariables false
/- Plain mathematics: the program's array of all symbols, and the reference's list. -/
namespace Go.Proofs.YtieclenlldjfjaaGreat

/-- a number of the list, in the array -/
def up (x : Int) : Int := if x < 0 then 1125899906842624 else x
/-- the array for a list of N symbols -/
def cOf (N : Nat) (X : List Int) : List Int := 1125899906842624 :: (X.map up ++ List.replicate (12 - N) 1125899906842624)

theorem cOf_len {N : Nat} {X : List Int} (h : X.length = N) (hN : N ≤ 12) : (cOf N X).length = 13 := by simp [cOf, h]; omega
theorem cOf_get {N : Nat} {X : List Int} {s : Nat} (hs : s < X.length) : (cOf N X)[s + 1]? = some (up X[s]) := by
  unfold cOf
  rw [List.getElem?_cons_succ, List.getElem?_append_left (by simpa using hs), List.getElem?_map, List.getElem?_eq_getElem hs]
  rfl
theorem up_inj {a b : Int} (ha : -1 ≤ a ∧ a ≤ 531441) (hb : -1 ≤ b ∧ b ≤ 531441) (h : up a = up b) : a = b := by
  unfold up at h
  split at h <;> split at h <;> omega
theorem cOf_inj {N : Nat} {X Y : List Int} (hN : N ≤ 12) (hX : StOk N X) (hY : StOk N Y) (h : cOf N X = cOf N Y) : X = Y := by
  apply List.ext_getElem (by rw [hX.len, hY.len])
  intro i h1 h2
  have e1 := cOf_get (N := N) h1
  have e2 := cOf_get (N := N) h2
  rw [h, e2] at e1
  injection e1 with e1
  exact up_inj (hX.le hN (List.getElem_mem h1)) (hY.le hN (List.getElem_mem h2)) e1.symm
theorem cOf_ok {N : Nat} {X : List Int} (hN : N ≤ 12) (hX : StOk N X) : COk (cOf N X) := by
  have key : ∀ x ∈ cOf N X, 0 ≤ x ∧ x ≤ 1125899906842624 := fun x hx => by
    unfold cOf at hx
    rcases List.mem_cons.1 hx with rfl | hx
    · omega
    · rcases List.mem_append.1 hx with hx | hx
      · obtain ⟨y, hy, rfl⟩ := List.mem_map.1 hx
        have := hX.le hN hy
        unfold up
        split <;> omega
      · rw [List.eq_of_mem_replicate hx]; omega
  exact ⟨cOf_len hX.len hN, fun x hx => (key x hx).1, fun x hx => (key x hx).2⟩

theorem valC_c {N : Nat} {X : List Int} (hX : StOk N X) {n : Int} (h : n < 0 ∨ 1 ≤ n ∧ n ≤ N) : valC (cOf N X) n = if n < 0 then 1 else up (val X n) := by
  unfold valC
  by_cases h0 : n < 0
  · rw [if_pos h0, if_pos h0]
  · rw [if_neg h0, if_neg h0]
    obtain ⟨s, rfl⟩ : ∃ s : Nat, n = (s : Int) + 1 := ⟨(n - 1).toNat, by omega⟩
    have hs : s < X.length := by rw [hX.len]; omega
    have e : ((s : Int) + 1).toNat = s + 1 := by omega
    rw [e, List.getD_eq_getElem?_getD, cOf_get hs]
    unfold val
    rw [if_neg (by omega), show ((s : Int) + 1 - 1).toNat = s by omega, List.getD_eq_getElem?_getD, List.getElem?_eq_getElem hs]
    rfl

theorem sumC_c {N : Nat} {X : List Int} (hN : N ≤ 12) (hX : StOk N X) : ∀ {l : List Int}, (∀ n ∈ l, n < 0 ∨ 1 ≤ n ∧ n ≤ N) →
    (okL X l = true → sumC (cOf N X) l = sumL X l) ∧ (okL X l = false → 1125899906842624 ≤ sumC (cOf N X) l)
  | [], _ => ⟨fun _ => rfl, fun h => by cases h⟩
  | n :: l, h => by
    have ih := sumC_c hN hX (l := l) fun x hx => h x (by simp [hx])
    have hv := valC_c hX (h n (by simp))
    have hb := sumC_bound (cOf_ok hN hX) l
    have hvb := valC_bound (cOf_ok hN hX) n
    simp only [sumC, sumL, okL, List.map_cons, List.sum_cons, List.all_cons] at ih hb ⊢
    by_cases h0 : 0 ≤ val X n
    · have hup : valC (cOf N X) n = val X n := by
        rw [hv]
        by_cases hn : n < 0
        · rw [if_pos hn]; unfold val; rw [if_pos hn]
        · rw [if_neg hn]; unfold up; rw [if_neg (by omega)]
      rw [decide_eq_true h0, Bool.true_and, hup]
      exact ⟨fun e => by rw [ih.1 e], fun e => by have := ih.2 e; omega⟩
    · rw [decide_eq_false h0, Bool.false_and]
      refine ⟨(fun e => by cases e), fun _ => ?_⟩
      have hn : ¬ n < 0 := fun hn => h0 (by unfold val; rw [if_pos hn]; omega)
      have hup : valC (cOf N X) n = 1125899906842624 := by
        rw [hv, if_neg hn]; unfold up; rw [if_pos (by omega)]
      omega

theorem strokes_c {N : Nat} {X : List Int} (hN : N ≤ 12) (hX : StOk N X) {m : Mkg} (hm : Fit N m) : strokesC (cOf N X) m.items = if okL X m.items = true then sumL X m.items else 1125899906842624 := by
  obtain ⟨h1, h2⟩ := sumC_c hN hX (l := m.items) hm.2.2.2
  have hb := sum_bound hX hN m.items
  have hl := hm.2.2.1
  unfold strokesC
  cases h : okL X m.items with
  | true => rw [if_pos rfl, h1 h]; omega
  | false =>
    have := h2 h
    rw [if_neg (by simp)]; omega

theorem cOf_set {N : Nat} {X : List Int} {s : Nat} {v : Int} (hs : s < X.length) (hv : 0 ≤ v) : (cOf N X).set (s + 1) v = cOf N (X.set s v) := by
  unfold cOf
  rw [List.set_cons_succ, List.set_append_left _ _ (by simpa using hs), List.map_set]
  unfold up
  rw [if_neg (by omega)]
theorem cOf_step {N : Nat} {X : List Int} (hN : N ≤ 12) (hX : StOk N X) {m : Mkg} (hm : Fit N m) {s : Nat} (hs : m.sym = (s : Int) + 1) (hsl : s < X.length) :
    (cOf N X).set (s + 1) (min (up X[s]) (strokesC (cOf N X) m.items)) = cOf N (relax X m) := by
  have hself : (cOf N X).set (s + 1) (up X[s]) = cOf N X := by
    apply List.ext_getElem?
    intro i
    rw [List.getElem?_set]
    split
    · rename_i e
      subst e
      rw [cOf_get hsl, if_pos]
      have := (List.getElem?_eq_some_iff.1 (cOf_get (N := N) hsl)).1
      exact this
    · rfl
  have hxb := hX.le hN (List.getElem_mem hsl)
  rw [strokes_c hN hX hm]
  have hi : (m.sym - 1).toNat = s := by omega
  have hg : X.getD (m.sym - 1).toNat (-1) = X[s] := by rw [hi, List.getD_eq_getElem?_getD, List.getElem?_eq_getElem hsl]; rfl
  cases hok : okL X m.items with
  | false =>
    have hr : relax X m = X := if_neg (fun h => by rw [hok] at h; cases h.1)
    rw [hr, if_neg (by simp), show min (up X[s]) 1125899906842624 = up X[s] by unfold up; split <;> omega]
    exact hself
  | true =>
    rw [if_pos rfl]
    have h0 := sum_nonneg hok
    have hb := sum_bound hX hN m.items
    have hl := hm.2.2.1
    by_cases hc : X[s] < 0 ∨ sumL X m.items < X[s]
    · have hr : relax X m = X.set s (sumL X m.items) := by
        unfold relax
        rw [if_pos ⟨hok, by rw [hg]; exact hc⟩, hi]
      rw [hr, show min (up X[s]) (sumL X m.items) = sumL X m.items by unfold up; split <;> omega]
      exact cOf_set hsl h0
    · have hr : relax X m = X := if_neg (fun h => hc (by rw [hg] at h; exact h.2))
      rw [hr, show min (up X[s]) (sumL X m.items) = up X[s] by unfold up; split <;> omega]
      exact hself
theorem cOf_start (N : Nat) (hN : N ≤ 12) : cOf N (List.replicate N (-1)) = List.replicate 13 1125899906842624 := by
  have e : (List.replicate N (-1 : Int)).map up = List.replicate N 1125899906842624 := by rw [List.map_replicate]; rfl
  unfold cOf
  rw [e, List.replicate_append_replicate, show N + (12 - N) = 12 by omega]
  rfl
end Go.Proofs.YtieclenlldjfjaaGreat
