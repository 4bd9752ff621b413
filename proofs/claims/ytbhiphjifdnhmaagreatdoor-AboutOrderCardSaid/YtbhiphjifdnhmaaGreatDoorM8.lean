import Derived.Test.YtbhiphjifdnhmaaGreatDoorA6
import Derived.Test.YtbhiphjifdnhmaaGreatDoorM4
import Derived.Test.YtbhiphjifdnhmaaGreatDoorA8
/- The plain mathematics of the laws on vague days: nested spans, sums, agreement. -/
namespace Go.Proofs.YtbhiphjifdnhmaaGreatDoor

theorem join_vok {m : Int → Int → Int → Int → Int × Int} {a b : Nat → Int} (hN : VOk a → VOk b → Nested (joinV m a b)) (ha : vok a = true) (hb : vok b = true) (h : joinE m a b = 0) : vok (joinV m a b) = true ∧ joinR m a b = joinV m a b := by
  have e := joinE_ok m (a := a) (b := b) (by rw [ha, hb]; rfl)
  have hr := (hN (vok_iff.1 ha) (vok_iff.1 hb)).rng
  refine ⟨?_, by unfold joinR; rw [h]; exact orZero_ok _⟩
  rw [e, hr] at h
  cases hv : vok (joinV m a b)
  · rw [hv] at h; simp at h
  · rfl
theorem plus_vok {a b : Nat → Int} (ha : vok a = true) (hb : vok b = true) (h : joinE plusM a b = 0) : vok (joinV plusM a b) = true ∧ joinR plusM a b = joinV plusM a b := join_vok plus_nested ha hb h
theorem less_vok {a b : Nat → Int} (ha : vok a = true) (hb : vok b = true) (h : joinE lessM a b = 0) : vok (joinV lessM a b) = true ∧ joinR lessM a b = joinV lessM a b := join_vok less_nested ha hb h
theorem hull_ok {a b : Nat → Int} (ha : vok a = true) (hb : vok b = true) : joinE hullM a b = 0 ∧ joinR hullM a b = joinV hullM a b := by
  have h : joinE hullM a b = 0 := by
    rw [joinE_ok hullM (by rw [ha, hb]; rfl), (hull_nested (vok_iff.1 ha) (vok_iff.1 hb)).rng, hull_vok (vok_iff.1 ha) (vok_iff.1 hb)]
    rfl
  exact ⟨h, by unfold joinR; rw [h]; exact orZero_ok _⟩
theorem around_vok {lo hi wider : Int} (h : aroundE lo hi wider = 0) : vok (aroundR lo hi wider) = true := by
  have hr : aroundR lo hi wider = aroundV lo hi wider := by unfold aroundR; rw [h]; exact orZero_ok _
  rw [hr]
  unfold aroundE at h
  cases hb : aroundB lo hi wider
  · rw [hb] at h; simp at h
  · rw [hb, if_pos rfl] at h
    simp only [aroundB, Bool.and_eq_true, decide_eq_true_eq] at hb
    rw [(around_nested hb.1.1 hb.2.1).rng] at h
    cases hv : vok (aroundV lo hi wider)
    · rw [hv] at h; simp at h
    · rfl
theorem both_ok {a b : Nat → Int} (ha : vok a = true) (hb : vok b = true) (h : bothE a b = 0) : bothN a b 12 ≠ 0 ∧ bothR a b = bothV a b ∧ bothK a b = bothN a b 12 ∧ vok (bothV a b) = true ∧ 1 ≤ bothK a b ∧ bothK a b ≤ 12 := by
  have h0 : bothN a b 12 ≠ 0 := by
    intro e
    simp [bothE, ha, hb, e] at h
  have hk : bothK a b = bothN a b 12 := by unfold bothK; rw [if_pos h]
  have := bothN_le a b 12
  exact ⟨h0, by unfold bothR; rw [h]; exact orZero_ok _, hk, vok_iff.2 (both_vok (vok_iff.1 ha) (vok_iff.1 hb) h0), by omega, by omega⟩
/-- a number is allowed to just the degrees up to Degree -/
theorem deg_has {a : Nat → Int} (ha : vok a = true) (n : Int) (k : Nat) (hk : k < 12) : hasAt a n k = true ↔ (k : Int) < degR a n := by
  unfold degR
  rw [if_pos ha]
  exact deg_iff (vok_iff.1 ha) n 12 (Nat.le_refl _) k hk
theorem degR_le (a : Nat → Int) (n : Int) : 0 ≤ degR a n ∧ degR a n ≤ 12 := by
  unfold degR
  have := degTo_le a n 12
  split <;> omega
theorem deg_reach {a : Nat → Int} (ha : vok a = true) {n : Int} {d : Int} (h1 : 1 ≤ d) (h2 : d ≤ 12) (h : a (2 * (d.toNat - 1)) ≤ n ∧ n ≤ a (2 * (d.toNat - 1) + 1)) : d ≤ degR a n := by
  have := (deg_has ha n (d.toNat - 1) (by omega)).1 (by simp [hasAt, h.1, h.2])
  omega
theorem cut_ok {a : Nat → Int} (ha : vok a = true) {d : Int} (h1 : 1 ≤ d) (h2 : d ≤ 12) : cutE a d = 0 ∧ cutAt a d = (a (2 * (d.toNat - 1)), a (2 * (d.toNat - 1) + 1)) := by
  have : (vok a && (decide (1 ≤ d) && decide (d ≤ 12))) = true := by simp [ha, h1, h2]
  exact ⟨by unfold cutE; rw [if_pos this], by unfold cutAt; rw [if_pos this]⟩
theorem cut_deg {a : Nat → Int} (ha : vok a = true) (n : Int) {d : Int} (h1 : 1 ≤ d) (h2 : d ≤ 12) : (decide ((cutAt a d).1 ≤ n) && decide (n ≤ (cutAt a d).2)) = decide (d ≤ degR a n) := by
  rw [(cut_ok ha h1 h2).2]
  have := deg_has ha n (d.toNat - 1) (by omega)
  rw [Bool.eq_iff_iff]
  unfold hasAt at this
  rw [this, decide_eq_true_eq]
  omega

/-! sums -/
theorem plus_comm (a b : Nat → Int) : joinV plusM a b = joinV plusM b a := by
  funext i
  unfold joinV plusM
  split <;> simp [Int.add_comm]
theorem plusE_comm (a b : Nat → Int) : joinE plusM a b = joinE plusM b a := by
  unfold joinE
  rw [plus_comm, Bool.and_comm]
theorem plusR_comm (a b : Nat → Int) : joinR plusM a b = joinR plusM b a := by
  unfold joinR
  rw [plus_comm, plusE_comm]
theorem hull_comm (a b : Nat → Int) : joinR hullM a b = joinR hullM b a := by
  have e : joinV hullM a b = joinV hullM b a := by
    funext i
    unfold joinV hullM
    split
    · exact Int.min_comm _ _
    · exact Int.max_comm _ _
  unfold joinR joinE
  rw [e, Bool.and_comm]
theorem plus_assoc (a b c : Nat → Int) : joinV plusM (joinV plusM a b) c = joinV plusM a (joinV plusM b c) := by
  funext i
  rcases Nat.mod_two_eq_zero_or_one i with h | h
  · obtain ⟨k, rfl⟩ : ∃ k, i = 2 * k := ⟨i / 2, by omega⟩
    simp only [joinV_lo, plusM]; omega
  · obtain ⟨k, rfl⟩ : ∃ k, i = 2 * k + 1 := ⟨i / 2, by omega⟩
    simp only [joinV_hi, plusM]; omega
theorem adds_assoc {a b c : Nat → Int} (ha : vok a = true) (hb : vok b = true) (hc : vok c = true) (h1 : joinE plusM a b = 0) (h2 : joinE plusM b c = 0) :
    joinE plusM (joinR plusM a b) c = joinE plusM a (joinR plusM b c) ∧ joinR plusM (joinR plusM a b) c = joinR plusM a (joinR plusM b c) := by
  obtain ⟨v1, e1⟩ := plus_vok ha hb h1
  obtain ⟨v2, e2⟩ := plus_vok hb hc h2
  have hE : joinE plusM (joinR plusM a b) c = joinE plusM a (joinR plusM b c) := by
    rw [e1, e2, joinE_ok plusM (by rw [v1, hc]; rfl), joinE_ok plusM (by rw [ha, v2]; rfl), plus_assoc]
  refine ⟨hE, ?_⟩
  show orZero _ (joinE plusM (joinR plusM a b) c) = orZero _ (joinE plusM a (joinR plusM b c))
  rw [hE, e1, e2, plus_assoc]
theorem plus_reach {a b : Nat → Int} (ha : vok a = true) (hb : vok b = true) (h : joinE plusM a b = 0) {n m d : Int} (h1 : 1 ≤ d) (h2 : d ≤ 12)
    (hn : a (2 * (d.toNat - 1)) ≤ n ∧ n ≤ a (2 * (d.toNat - 1) + 1)) (hm : b (2 * (d.toNat - 1)) ≤ m ∧ m ≤ b (2 * (d.toNat - 1) + 1)) : chkV (joinR plusM a b) = 0 ∧ d ≤ degR (joinR plusM a b) (n + m) := by
  obtain ⟨v, e⟩ := plus_vok ha hb h
  rw [e]
  refine ⟨chkV_ok v, deg_reach v h1 h2 ?_⟩
  rw [joinV_lo, joinV_hi]
  simp only [plusM]
  omega
theorem less_reach {a b : Nat → Int} (ha : vok a = true) (hb : vok b = true) (h : joinE lessM a b = 0) {n m d : Int} (h1 : 1 ≤ d) (h2 : d ≤ 12)
    (hn : a (2 * (d.toNat - 1)) ≤ n ∧ n ≤ a (2 * (d.toNat - 1) + 1)) (hm : b (2 * (d.toNat - 1)) ≤ m ∧ m ≤ b (2 * (d.toNat - 1) + 1)) : chkV (joinR lessM a b) = 0 ∧ d ≤ degR (joinR lessM a b) (n - m) := by
  obtain ⟨v, e⟩ := less_vok ha hb h
  rw [e]
  refine ⟨chkV_ok v, deg_reach v h1 h2 ?_⟩
  rw [joinV_lo, joinV_hi]
  simp only [lessM]
  omega
theorem hull_reach {a b : Nat → Int} (ha : vok a = true) (hb : vok b = true) {n d : Int} (h1 : 1 ≤ d) (h2 : d ≤ 12)
    (hn : a (2 * (d.toNat - 1)) ≤ n ∧ n ≤ a (2 * (d.toNat - 1) + 1)) : chkV (joinR hullM a b) = 0 ∧ d ≤ degR (joinR hullM a b) n := by
  rw [(hull_ok ha hb).2]
  have v := hull_vok (vok_iff.1 ha) (vok_iff.1 hb)
  refine ⟨chkV_ok v, deg_reach v h1 h2 ?_⟩
  rw [joinV_lo, joinV_hi]
  simp only [hullM]
  omega
theorem holds_iff {a b : Nat → Int} : holdsTo a b 12 = true ↔ ∀ i, i < 12 → b (2 * i) ≤ a (2 * i) ∧ a (2 * i + 1) ≤ b (2 * i + 1) := by
  simp [holdsTo, holdsAt]
theorem back_holds {a b : Nat → Int} (ha : vok a = true) (hb : vok b = true) (h : joinE lessM a b = 0) (h' : joinE plusM (joinR lessM a b) b = 0) :
    chk2 a (joinR plusM (joinR lessM a b) b) = 0 ∧ holdsV a (joinR plusM (joinR lessM a b) b) = true := by
  obtain ⟨v, e⟩ := less_vok ha hb h
  rw [e] at h' ⊢
  obtain ⟨v2, e2⟩ := plus_vok v hb h'
  rw [e2]
  refine ⟨by simp [chk2, ha, v2], ?_⟩
  unfold holdsV
  rw [ha, v2, holds_iff.2 fun i hi => ?_]
  · rfl
  · have h3 := (vok_iff.1 hb).sp i hi
    have e1 := joinV_lo plusM (joinV lessM a b) b i
    have e2 := joinV_hi plusM (joinV lessM a b) b i
    have e3 := joinV_lo lessM a b i
    have e4 := joinV_hi lessM a b i
    simp only [plusM, lessM] at e1 e2 e3 e4
    omega
theorem hull_holds {a b : Nat → Int} (ha : vok a = true) (hb : vok b = true) : (chk2 a (joinR hullM a b) = 0 ∧ holdsV a (joinR hullM a b) = true) ∧ (chk2 b (joinR hullM a b) = 0 ∧ holdsV b (joinR hullM a b) = true) := by
  rw [(hull_ok ha hb).2]
  have v := hull_vok (vok_iff.1 ha) (vok_iff.1 hb)
  refine ⟨⟨by simp [chk2, ha, v], ?_⟩, ⟨by simp [chk2, hb, v], ?_⟩⟩
  · unfold holdsV
    rw [ha, v, holds_iff.2 fun i hi => by rw [joinV_lo, joinV_hi]; simp only [hullM]; omega]
    rfl
  · unfold holdsV
    rw [hb, v, holds_iff.2 fun i hi => by rw [joinV_lo, joinV_hi]; simp only [hullM]; omega]
    rfl

/-! agreement -/
theorem deg_unique {z x : Int} (hz : 0 ≤ z ∧ z ≤ 12) (hx : 0 ≤ x ∧ x ≤ 12) (h : ∀ i : Nat, i < 12 → ((i : Int) < z ↔ (i : Int) < x)) : z = x := by
  rcases Int.lt_trichotomy z x with g | g | g
  · have := (h z.toNat (by omega)).2 (by omega); omega
  · exact g
  · have := (h x.toNat (by omega)).1 (by omega); omega
theorem clash_deg {a b : Nat → Int} (ha : vok a = true) (hb : vok b = true) (n : Int) (h : bothE a b ≠ 0) : bothE a b = 9 ∧ (degR a n = 0 ∨ degR b n = 0) := by
  have h0 : bothN a b 12 = 0 := by
    apply Classical.byContradiction
    intro e
    exact h (by simp [bothE, ha, hb, e])
  refine ⟨by simp [bothE, ha, hb, h0], ?_⟩
  apply Classical.byContradiction
  intro hne
  have l1 := degR_le a n; have l2 := degR_le b n
  have h1 := (deg_has ha n 0 (by omega)).2 (by omega)
  have h2 := (deg_has hb n 0 (by omega)).2 (by omega)
  have hm := (bothN_iff (vok_iff.1 ha) (vok_iff.1 hb) 12 (Nat.le_refl _) 0 (by omega))
  rw [h0] at hm
  have : meets a b 0 = true := by
    simp only [hasAt, Bool.and_eq_true, decide_eq_true_eq] at h1 h2
    simp only [meets, decide_eq_true_eq, meetV, joinV_lo, joinV_hi, meetM]
    omega
  have := hm.1 this
  omega
theorem both_deg {a b : Nat → Int} (ha : vok a = true) (hb : vok b = true) (n : Int) (h : bothE a b = 0) :
    degR (bothR a b) n = if bothK a b ≤ min (degR a n) (degR b n) then 12 else min (degR a n) (degR b n) := by
  obtain ⟨h0, hR, hK, hv, k1, k2⟩ := both_ok ha hb h
  obtain ⟨N, hN⟩ : ∃ N : Nat, bothN a b 12 = N := ⟨_, (Int.toNat_of_nonneg (bothN_le a b 12).1).symm⟩
  have hat := both_at (vok_iff.1 ha) (vok_iff.1 hb) hN (by omega)
  rw [hR]
  have la := degR_le a n; have lb := degR_le b n
  refine deg_unique (degR_le _ _) (by split <;> omega) fun i hi => ?_
  rw [← deg_has hv n i hi]
  have e : hasAt (bothV a b) n i = (hasAt a n (min i (N - 1)) && hasAt b n (min i (N - 1))) := by
    unfold hasAt
    rw [(hat i hi).1, (hat i hi).2]
    simp only [meetV, joinV_lo, joinV_hi, meetM]
    rw [Bool.eq_iff_iff]
    simp only [Bool.and_eq_true, decide_eq_true_eq]
    omega
  rw [e, Bool.and_eq_true, deg_has ha n _ (by omega), deg_has hb n _ (by omega)]
  split <;> omega
theorem both_cut {a b : Nat → Int} (ha : vok a = true) (hb : vok b = true) (h : bothE a b = 0) {d : Int} (h1 : 1 ≤ d) (h2 : d ≤ 12) :
    (cutAt a (min d (bothK a b))).1 ≤ (cutAt (bothR a b) d).1 ∧ (cutAt (bothR a b) d).2 ≤ (cutAt a (min d (bothK a b))).2 ∧ (cutAt b (min d (bothK a b))).1 ≤ (cutAt (bothR a b) d).1 ∧ (cutAt (bothR a b) d).2 ≤ (cutAt b (min d (bothK a b))).2 := by
  obtain ⟨h0, hR, hK, hv, k1, k2⟩ := both_ok ha hb h
  obtain ⟨N, hN⟩ : ∃ N : Nat, bothN a b 12 = N := ⟨_, (Int.toNat_of_nonneg (bothN_le a b 12).1).symm⟩
  have hat := both_at (vok_iff.1 ha) (vok_iff.1 hb) hN (by omega) (d.toNat - 1) (by omega)
  rw [hR, (cut_ok ha (by omega) (by omega)).2, (cut_ok hb (by omega) (by omega)).2, (cut_ok hv h1 h2).2]
  have e : (min d (bothK a b)).toNat - 1 = min (d.toNat - 1) (N - 1) := by rw [hK, hN]; omega
  rw [e]
  simp only [hat.1, hat.2, meetV, joinV_lo, joinV_hi, meetM]
  omega
end Go.Proofs.YtbhiphjifdnhmaaGreatDoor

/- The plain mathematics of the laws on verdicts. -/
namespace Go.Proofs.YtbhiphjifdnhmaaGreatDoor

/-- a question whose best and worst numbers are what they are called, in spans that are no wider than 2 R -/
structure QOk (q : Qn) : Prop where
  bin : ∀ s0 s1 t0 t1, s0 ≤ s1 → t0 ≤ t1 → (s0 ≤ (q.best s0 s1 t0 t1).1 ∧ (q.best s0 s1 t0 t1).1 ≤ s1) ∧ (t0 ≤ (q.best s0 s1 t0 t1).2 ∧ (q.best s0 s1 t0 t1).2 ≤ t1)
  win : ∀ s0 s1 t0 t1, s0 ≤ s1 → t0 ≤ t1 → (s0 ≤ (q.worst s0 s1 t0 t1).1 ∧ (q.worst s0 s1 t0 t1).1 ≤ s1) ∧ (t0 ≤ (q.worst s0 s1 t0 t1).2 ∧ (q.worst s0 s1 t0 t1).2 ≤ t1)
  best : ∀ s0 s1 t0 t1 x y, s0 ≤ x → x ≤ s1 → t0 ≤ y → y ≤ t1 → q.so x y = true → q.so (q.best s0 s1 t0 t1).1 (q.best s0 s1 t0 t1).2 = true
  worst : ∀ s0 s1 t0 t1 x y, s0 ≤ x → x ≤ s1 → t0 ≤ y → y ≤ t1 → q.so (q.worst s0 s1 t0 t1).1 (q.worst s0 s1 t0 t1).2 = true → q.so x y = true
theorem before_q : QOk qBefore := by
  refine ⟨fun s0 s1 t0 t1 hs ht => ?_, fun s0 s1 t0 t1 hs ht => ?_, fun s0 s1 t0 t1 x y h1 h2 h3 h4 h => ?_, fun s0 s1 t0 t1 x y h1 h2 h3 h4 h => ?_⟩ <;> simp only [qBefore, decide_eq_true_eq] at * <;> omega
theorem near_so (most x y : Int) : (qNear most).so x y = true ↔ x - y ≤ most ∧ y - x ≤ most := by
  show decide (apartI x y ≤ most) = true ↔ _
  rw [decide_eq_true_eq]
  unfold apartI
  omega
theorem near_q (most : Int) : QOk (qNear most) := by
  refine ⟨fun s0 s1 t0 t1 hs ht => ?_, fun s0 s1 t0 t1 hs ht => ?_, fun s0 s1 t0 t1 x y h1 h2 h3 h4 h => ?_, fun s0 s1 t0 t1 x y h1 h2 h3 h4 h => ?_⟩
  · simp only [qNear, near1]; omega
  · simp only [qNear]; split <;> simp only <;> omega
  · rw [near_so] at *
    simp only [qNear, near1]
    omega
  · rw [near_so] at *
    simp only [qNear] at h
    split at h <;> simp only [apartI] at * <;> omega
theorem in_q (lo hi : Int) : QOk (qIn lo hi) := by
  refine ⟨fun s0 s1 t0 t1 hs ht => ?_, fun s0 s1 t0 t1 hs ht => ?_, fun s0 s1 t0 t1 x y h1 h2 h3 h4 h => ?_, fun s0 s1 t0 t1 x y h1 h2 h3 h4 h => ?_⟩
  · simp only [qIn, near1]; omega
  · simp only [qIn]; split <;> simp only <;> omega
  · simp only [qIn, near1, Bool.and_eq_true, decide_eq_true_eq] at *; omega
  · simp only [qIn, Bool.and_eq_true, decide_eq_true_eq] at *
    split at h <;> simp only [] at * <;> omega

section
variable {q : Qn} (hq : QOk q) {a b : Nat → Int} (ha : Nested a) (hb : Nested b)
include hq ha hb
omit hq ha hb in
theorem nest_le {c : Nat → Int} (h : Nested c) {i k : Nat} (hik : i ≤ k) (hk : k < 12) : c (2 * i) ≤ c (2 * k) ∧ c (2 * k + 1) ≤ c (2 * i + 1) := by
  induction k with
  | zero => obtain rfl : i = 0 := by omega
            exact ⟨Int.le_refl _, Int.le_refl _⟩
  | succ k ih =>
    rcases Nat.lt_or_ge i (k + 1) with e | e
    · obtain ⟨a1, a2⟩ := ih (by omega) (by omega)
      have := h.nl k (by omega)
      have := h.nh k (by omega)
      exact ⟨by omega, by omega⟩
    · obtain rfl : i = k + 1 := by omega
      exact ⟨Int.le_refl _, Int.le_refl _⟩
theorem can_less {i k : Nat} (hik : i ≤ k) (hk : k < 12) (h : canB q a b k = true) : canB q a b i = true := by
  obtain ⟨⟨x1, x2⟩, x3, x4⟩ := hq.bin _ _ _ _ (ha.sp k hk) (hb.sp k hk)
  have l1 := nest_le ha hik hk
  have l2 := nest_le hb hik hk
  exact hq.best _ _ _ _ (bestAt q a b k).1 (bestAt q a b k).2 (Int.le_trans l1.1 x1) (Int.le_trans x2 l1.2) (Int.le_trans l2.1 x3) (Int.le_trans x4 l2.2) h
theorem must_more {i k : Nat} (hik : i ≤ k) (hk : k < 12) (h : mustB q a b i = true) : mustB q a b k = true := by
  obtain ⟨⟨x1, x2⟩, x3, x4⟩ := hq.win _ _ _ _ (ha.sp k hk) (hb.sp k hk)
  have l1 := nest_le ha hik hk
  have l2 := nest_le hb hik hk
  exact hq.worst _ _ _ _ (worstAt q a b k).1 (worstAt q a b k).2 (Int.le_trans l1.1 x1) (Int.le_trans x2 l1.2) (Int.le_trans l2.1 x3) (Int.le_trans x4 l2.2) h
theorem must_can {i : Nat} (hi : i < 12) (h : mustB q a b i = true) : canB q a b i = true := by
  obtain ⟨⟨x1, x2⟩, x3, x4⟩ := hq.win _ _ _ _ (ha.sp i hi) (hb.sp i hi)
  exact hq.best _ _ _ _ _ _ x1 x2 x3 x4 h
theorem can_iff : ∀ n, n ≤ 12 → ∀ k, k < n → (canB q a b k = true ↔ (k : Int) < canTo q a b n)
  | 0, _, k, hk => by omega
  | n + 1, hn, k, hk => by
    unfold canTo
    by_cases hm : canB q a b n = true
    · rw [if_pos hm]
      exact ⟨fun _ => by omega, fun _ => can_less hq ha hb (by omega) (by omega) hm⟩
    · rw [if_neg hm]
      rcases Nat.lt_or_ge k n with h | h
      · exact can_iff n (by omega) k h
      · obtain rfl : k = n := by omega
        have := canTo_le q a b k
        exact ⟨fun h => absurd h hm, fun h => by omega⟩
theorem must_iff : ∀ n, n ≤ 12 → ∀ k, k < n → (mustB q a b k = true ↔ mustTo q a b n ≤ (k : Int) + 1)
  | 0, _, k, hk => by omega
  | n + 1, hn, k, hk => by
    unfold mustTo
    by_cases hm : mustB q a b n = true
    · rw [if_pos hm]
      rcases Nat.lt_or_ge k n with h | h
      · exact must_iff n (by omega) k h
      · obtain rfl : k = n := by omega
        have := mustTo_le q a b k
        exact ⟨fun _ => by omega, fun _ => hm⟩
    · rw [if_neg hm]
      refine ⟨fun h => ?_, fun h => by omega⟩
      exact absurd (must_more hq ha hb (by omega) (by omega) h) hm
omit hb ha hq in
theorem yes_at : ∀ n, 0 < canTo q a b n → canB q a b ((canTo q a b n).toNat - 1) = true ∧ yesTo q a b n = bestAt q a b ((canTo q a b n).toNat - 1)
  | 0, h => by simp [canTo] at h
  | n + 1, h => by
    unfold canTo yesTo at *
    by_cases hm : canB q a b n = true
    · rw [if_pos hm] at h ⊢
      rw [if_pos hm, show ((n : Int) + 1).toNat - 1 = n by omega]
      exact ⟨hm, rfl⟩
    · rw [if_neg hm] at h ⊢
      rw [if_neg hm]
      exact yes_at n h
omit hb ha hq in
theorem yes_zero : ∀ n, canTo q a b n = 0 → yesTo q a b n = (0, 0)
  | 0, _ => rfl
  | n + 1, h => by
    unfold canTo at h
    unfold yesTo
    by_cases hm : canB q a b n = true
    · rw [if_pos hm] at h; omega
    · rw [if_neg hm] at h ⊢
      exact yes_zero n h
omit hb ha hq in
theorem no_at : ∀ n, 1 < mustTo q a b n → mustB q a b ((mustTo q a b n).toNat - 2) = false ∧ noTo q a b n = worstAt q a b ((mustTo q a b n).toNat - 2)
  | 0, h => by simp [mustTo] at h
  | n + 1, h => by
    unfold mustTo noTo at *
    by_cases hm : mustB q a b n = true
    · rw [if_pos hm] at h ⊢
      rw [if_pos hm]
      exact no_at n h
    · rw [if_neg hm] at h ⊢
      rw [if_neg hm, show ((n : Int) + 2).toNat - 2 = n by omega]
      exact ⟨by simpa using hm, rfl⟩
omit hb ha hq in
theorem no_zero : ∀ n, mustTo q a b n = 1 → noTo q a b n = (0, 0)
  | 0, _ => rfl
  | n + 1, h => by
    unfold mustTo at h
    unfold noTo
    by_cases hm : mustB q a b n = true
    · rw [if_pos hm] at h ⊢
      exact no_zero n h
    · rw [if_neg hm] at h; omega
/-- the checker takes the verdict -/
theorem check_vdict : checkQ q a b (vdict q a b) = 0 := by
  have c1 := canTo_le q a b 12
  have m1 := mustTo_le q a b 12
  unfold checkQ
  rw [if_neg (by simp)]
  have h1 : showsB q a b (vdict q a b).can (vdict q a b).y0 (vdict q a b).y1 true = true := by
    show showsB q a b (canTo q a b 12) (yesTo q a b 12).1 (yesTo q a b 12).2 true = true
    unfold showsB
    by_cases h0 : canTo q a b 12 = 0
    · rw [if_pos h0, yes_zero 12 h0]; rfl
    · rw [if_neg h0]
      obtain ⟨g1, g2⟩ := yes_at (q := q) (a := a) (b := b) 12 (by omega)
      obtain ⟨⟨x1, x2⟩, x3, x4⟩ := hq.bin _ _ _ _ (ha.sp ((canTo q a b 12).toNat - 1) (by omega)) (hb.sp ((canTo q a b 12).toNat - 1) (by omega))
      rw [g2]
      simp only [hasAt, Bool.and_eq_true, decide_eq_true_eq, beq_iff_eq]
      exact ⟨⟨⟨x1, x2⟩, x3, x4⟩, g1⟩
  have h2 : showsB q a b ((vdict q a b).must - 1) (vdict q a b).n0 (vdict q a b).n1 false = true := by
    show showsB q a b (mustTo q a b 12 - 1) (noTo q a b 12).1 (noTo q a b 12).2 false = true
    unfold showsB
    by_cases h0 : mustTo q a b 12 = 1
    · rw [if_pos (by omega), no_zero 12 h0]; rfl
    · rw [if_neg (by omega)]
      obtain ⟨g1, g2⟩ := no_at (q := q) (a := a) (b := b) 12 (by omega)
      obtain ⟨⟨x1, x2⟩, x3, x4⟩ := hq.win _ _ _ _ (ha.sp ((mustTo q a b 12).toNat - 2) (by omega)) (hb.sp ((mustTo q a b 12).toNat - 2) (by omega))
      rw [g2, show (mustTo q a b 12 - 1).toNat - 1 = (mustTo q a b 12).toNat - 2 by omega]
      simp only [hasAt, Bool.and_eq_true, decide_eq_true_eq, beq_iff_eq]
      exact ⟨⟨⟨x1, x2⟩, x3, x4⟩, g1⟩
  rw [h1, h2]
  rfl
/-- what is told of numbers of a degree -/
theorem fair_vdict {d n m : Int} (h1 : 1 ≤ d) (h2 : d ≤ 12) (hn : a (2 * (d.toNat - 1)) ≤ n ∧ n ≤ a (2 * (d.toNat - 1) + 1)) (hm : b (2 * (d.toNat - 1)) ≤ m ∧ m ≤ b (2 * (d.toNat - 1) + 1)) :
    ((vdict q a b).must ≤ d → q.so n m = true) ∧ ((vdict q a b).can < d → q.so n m = false) ∧ ((vdict q a b).can = 12 ∨ (vdict q a b).must = 13) := by
  have c1 := canTo_le q a b 12
  have m1 := mustTo_le q a b 12
  refine ⟨fun h => ?_, fun h => ?_, ?_⟩
  · have := (must_iff hq ha hb 12 (Nat.le_refl _) (d.toNat - 1) (by omega)).2 (by have : (vdict q a b).must = mustTo q a b 12 := rfl; omega)
    exact hq.worst _ _ _ _ n m hn.1 hn.2 hm.1 hm.2 this
  · cases hs : q.so n m
    · rfl
    · have g := hq.best _ _ _ _ n m hn.1 hn.2 hm.1 hm.2 hs
      have := (can_iff hq ha hb 12 (Nat.le_refl _) (d.toNat - 1) (by omega)).1 g
      have : (vdict q a b).can = canTo q a b 12 := rfl
      omega
  · show canTo q a b 12 = 12 ∨ mustTo q a b 12 = 13
    by_cases h : canB q a b 11 = true
    · left
      unfold canTo
      rw [if_pos h]; rfl
    · right
      have hm : ¬ mustB q a b 11 = true := fun g => h (must_can hq ha hb (by omega) g)
      unfold mustTo
      rw [if_neg hm]; rfl
end
/-- if before is sure from a degree on, the other way round is not possible to it -/
theorem before_back {a b : Nat → Int} (ha : Nested a) (hb : Nested b) (h : (vdict qBefore a b).must ≤ 12) : (vdict qBefore b a).can < (vdict qBefore a b).must := by
  have c1 := canTo_le qBefore b a 12
  have m1 := mustTo_le qBefore a b 12
  have e1 : (vdict qBefore a b).must = mustTo qBefore a b 12 := rfl
  have e2 : (vdict qBefore b a).can = canTo qBefore b a 12 := rfl
  apply Classical.byContradiction
  intro hne
  have hk : (mustTo qBefore a b 12).toNat - 1 < 12 := by omega
  have g1 := (must_iff before_q ha hb 12 (Nat.le_refl _) _ hk).2 (by omega)
  have g2 := (can_iff before_q hb ha 12 (Nat.le_refl _) _ hk).2 (by omega)
  have s1 := ha.sp _ hk
  have s2 := hb.sp _ hk
  simp only [mustB, worstAt, canB, bestAt, qBefore, decide_eq_true_eq] at g1 g2
  omega

/-! what is near at most 0 apart -/
theorem can0_meets {a b : Nat → Int} (ha : Nested a) (hb : Nested b) (i : Nat) (hi : i < 12) : canB (qNear 0) a b i = meets a b i := by
  have s1 := ha.sp i hi
  have s2 := hb.sp i hi
  rw [Bool.eq_iff_iff]
  unfold canB
  rw [near_so]
  simp only [bestAt, qNear, near1, meets, meetV, joinV_lo, joinV_hi, meetM, decide_eq_true_eq]
  omega
theorem can0_both {a b : Nat → Int} (ha : Nested a) (hb : Nested b) : ∀ n, n ≤ 12 → canTo (qNear 0) a b n = bothN a b n
  | 0, _ => rfl
  | n + 1, h => by
    unfold canTo bothN
    rw [can0_meets ha hb n (by omega), can0_both ha hb n (by omega)]
theorem near0 {a b : Nat → Int} (ha : vok a = true) (hb : vok b = true) : (vdict (qNear 0) a b).can = bothK a b ∧ ((vdict (qNear 0) a b).can = 0 ∨ (vdict (qNear 0) a b).y0 = (vdict (qNear 0) a b).y1) := by
  have na := (vok_iff.1 ha).nested
  have nb := (vok_iff.1 hb).nested
  have e : (vdict (qNear 0) a b).can = bothN a b 12 := can0_both na nb 12 (Nat.le_refl _)
  refine ⟨?_, ?_⟩
  · rw [e]
    by_cases h0 : bothN a b 12 = 0
    · simp [bothK, bothE, ha, hb, h0]
    · simp [bothK, bothE, ha, hb, h0]
  · by_cases h0 : (vdict (qNear 0) a b).can = 0
    · exact .inl h0
    · right
      have c1 := canTo_le (qNear 0) a b 12
      have h0' : canTo (qNear 0) a b 12 ≠ 0 := h0
      obtain ⟨g1, g2⟩ := yes_at (q := qNear 0) (a := a) (b := b) 12 (by omega)
      show (yesTo (qNear 0) a b 12).1 = (yesTo (qNear 0) a b 12).2
      rw [g2]
      unfold canB at g1
      rw [near_so] at g1
      omega
theorem sharp_deg {n : Int} (h : sharpE n = 0) : chkV (sharpR n) = 0 ∧ degR (sharpR n) n = 12 ∧ degR (sharpR n) (n + 1) = 0 := by
  have v : vok (sharpR n) = true := around_vok h
  have e : sharpR n = aroundV n n 0 := by show orZero _ (aroundE n n 0) = _; rw [show aroundE n n 0 = 0 from h]; exact orZero_ok _
  have l1 := degR_le (sharpR n) n
  have l2 := degR_le (sharpR n) (n + 1)
  refine ⟨chkV_ok v, ?_, ?_⟩
  · have := (deg_has v n 11 (by omega)).1 (by rw [e]; unfold hasAt; rw [aroundV_lo, aroundV_hi]; simp)
    omega
  · have := mt (deg_has v (n + 1) 0 (by omega)).2 (by rw [e]; unfold hasAt; rw [aroundV_lo, aroundV_hi]; simp; omega)
    omega
end Go.Proofs.YtbhiphjifdnhmaaGreatDoor

