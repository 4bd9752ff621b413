import Derived.Test.YtbhiphjifdnhmaaGreatDoorM8
set_option linter.unusedSimpArgs false
set_option linter.unusedVariables false
/- AboutJudges: the specification of what is asked, in plain maths. -/
namespace Go.Proofs.YtbhiphjifdnhmaaGreatDoor
/-- the question of a sort: its kind, how near, and a span -/
def kq (k m lo hi : Int) : Qn := if k = 0 then qBefore else if k = 1 then qNear m else qIn lo hi
/-- so for some numbers of two spans -/
def canS (k m lo hi s0 s1 t0 t1 : Int) : Bool := if k = 0 then decide (s0 < t1) else if k = 1 then decide (s0 - t1 ≤ m) && decide (t0 - s1 ≤ m) else decide (s0 ≤ hi) && decide (lo ≤ s1)
/-- so for all numbers of two spans -/
def mustS (k m lo hi s0 s1 t0 t1 : Int) : Bool := if k = 0 then decide (s1 < t0) else if k = 1 then decide (s1 - t0 ≤ m) && decide (t1 - s0 ≤ m) else decide (lo ≤ s0) && decide (s1 ≤ hi)
/-- so for two numbers -/
def soS (k m lo hi x y : Int) : Bool := if k = 0 then decide (x < y) else if k = 1 then decide (x - y ≤ m) && decide (y - x ≤ m) else decide (lo ≤ x) && decide (x ≤ hi)
/-- what a sort must keep to -/
def sortB (k m lo hi : Int) : Bool := !((decide (k = 1) && (decide (m < 0) || decide (6000 < m))) || (decide (k = 2) && decide (hi < lo)))
theorem soS_eq (k m lo hi x y : Int) : soS k m lo hi x y = (kq k m lo hi).so x y := by
  unfold soS kq
  split
  · rfl
  · split
    · rw [Bool.eq_iff_iff, near_so, Bool.and_eq_true, decide_eq_true_eq, decide_eq_true_eq]
    · rfl
theorem canS_eq {k m lo hi s0 s1 t0 t1 : Int} (hk : k = 0 ∨ k = 1 ∨ k = 2) (h : sortB k m lo hi = true) (hs : s0 ≤ s1) (ht : t0 ≤ t1) :
    canS k m lo hi s0 s1 t0 t1 = (kq k m lo hi).so ((kq k m lo hi).best s0 s1 t0 t1).1 ((kq k m lo hi).best s0 s1 t0 t1).2 := by
  rcases hk with rfl | rfl | rfl
  · rfl
  · have hm : 0 ≤ m := by simp [sortB] at h; omega
    show (decide (s0 - t1 ≤ m) && decide (t0 - s1 ≤ m)) = (qNear m).so (near1 s0 s1 (near1 t0 t1 s0)) (near1 t0 t1 s0)
    rw [Bool.eq_iff_iff, near_so, Bool.and_eq_true, decide_eq_true_eq, decide_eq_true_eq]
    simp only [near1]
    omega
  · have hm : lo ≤ hi := by simp [sortB] at h; omega
    show (decide (s0 ≤ hi) && decide (lo ≤ s1)) = (decide (lo ≤ near1 s0 s1 lo) && decide (near1 s0 s1 lo ≤ hi))
    rw [Bool.eq_iff_iff, Bool.and_eq_true, decide_eq_true_eq, decide_eq_true_eq, Bool.and_eq_true, decide_eq_true_eq, decide_eq_true_eq]
    simp only [near1]
    omega
theorem mustS_eq {k m lo hi s0 s1 t0 t1 : Int} (hk : k = 0 ∨ k = 1 ∨ k = 2) (hs : s0 ≤ s1) (ht : t0 ≤ t1) :
    mustS k m lo hi s0 s1 t0 t1 = (kq k m lo hi).so ((kq k m lo hi).worst s0 s1 t0 t1).1 ((kq k m lo hi).worst s0 s1 t0 t1).2 := by
  rcases hk with rfl | rfl | rfl
  · rfl
  · show (decide (s1 - t0 ≤ m) && decide (t1 - s0 ≤ m)) = (qNear m).so (if apartI s1 t0 < apartI s0 t1 then (s0, t1) else (s1, t0)).1 (if apartI s1 t0 < apartI s0 t1 then (s0, t1) else (s1, t0)).2
    rw [Bool.eq_iff_iff, near_so, Bool.and_eq_true, decide_eq_true_eq, decide_eq_true_eq]
    split <;> simp only [apartI] at * <;> omega
  · show (decide (lo ≤ s0) && decide (s1 ≤ hi)) = (decide (lo ≤ (if decide (lo ≤ s0) && decide (s0 ≤ hi) then (s1, t0) else (s0, t0)).1) && decide ((if decide (lo ≤ s0) && decide (s0 ≤ hi) then (s1, t0) else (s0, t0)).1 ≤ hi))
    rw [Bool.eq_iff_iff, Bool.and_eq_true, decide_eq_true_eq, decide_eq_true_eq, Bool.and_eq_true, decide_eq_true_eq, decide_eq_true_eq]
    split <;> rename_i g <;> simp only [Bool.and_eq_true, decide_eq_true_eq] at g <;> simp only [] <;> omega
/-- the greatest and the least degree, found from the greatest one on -/
def dCan (f : Nat → Bool) : Nat → Int
  | 0 => 0
  | n + 1 => if f (11 - n) = true ∧ dCan f n = 0 then 12 - (n : Int) else dCan f n
def dMust (f : Nat → Bool) : Nat → Int
  | 0 => 13
  | n + 1 => if f (11 - n) = true then 12 - (n : Int) else dMust f n
theorem dCan_is (f : Nat → Bool) : ∀ n, n ≤ 12 → (dCan f n = 0 ∧ ∀ i, 12 - n ≤ i → i < 12 → f i = false) ∨ (∃ c : Nat, dCan f n = (c : Int) + 1 ∧ 12 - n ≤ c ∧ c < 12 ∧ f c = true ∧ ∀ i, c < i → i < 12 → f i = false)
  | 0, _ => .inl ⟨rfl, fun i h1 h2 => by omega⟩
  | n + 1, hn => by
    rcases dCan_is f n (by omega) with ⟨h0, h1⟩ | ⟨c, h0, h1, h2, h3, h4⟩
    · by_cases hf : f (11 - n) = true
      · refine .inr ⟨11 - n, ?_, by omega, by omega, hf, fun i h2 h3 => h1 i (by omega) h3⟩
        unfold dCan
        rw [if_pos ⟨hf, h0⟩]
        omega
      · refine .inl ⟨?_, fun i h2 h3 => ?_⟩
        · unfold dCan
          rw [if_neg (fun h => hf h.1)]
          exact h0
        · rcases Nat.lt_or_ge (11 - n) i with h | h
          · exact h1 i (by omega) h3
          · obtain rfl : i = 11 - n := by omega
            simpa using hf
    · refine .inr ⟨c, ?_, by omega, h2, h3, h4⟩
      unfold dCan
      rw [if_neg (fun h => by omega)]
      exact h0
theorem dMust_is (f : Nat → Bool) : ∀ n, n ≤ 12 → (dMust f n = 13 ∧ ∀ i, 12 - n ≤ i → i < 12 → f i = false) ∨ (∃ c : Nat, dMust f n = (c : Int) + 1 ∧ 12 - n ≤ c ∧ c < 12 ∧ f c = true ∧ ∀ i, 12 - n ≤ i → i < c → f i = false)
  | 0, _ => .inl ⟨rfl, fun i h1 h2 => by omega⟩
  | n + 1, hn => by
    by_cases hf : f (11 - n) = true
    · refine .inr ⟨11 - n, ?_, by omega, by omega, hf, fun i h2 h3 => by omega⟩
      unfold dMust
      rw [if_pos hf]
      omega
    · have e : dMust f (n + 1) = dMust f n := by
        show (if f (11 - n) = true then 12 - (n : Int) else dMust f n) = _
        rw [if_neg hf]
      have hff : f (11 - n) = false := by simpa using hf
      rcases dMust_is f n (by omega) with ⟨h0, h1⟩ | ⟨c, h0, h1, h2, h3, h4⟩
      · refine .inl ⟨e.trans h0, fun i h2 h3 => ?_⟩
        rcases Nat.lt_or_ge (11 - n) i with h | h
        · exact h1 i (by omega) h3
        · obtain rfl : i = 11 - n := by omega
          exact hff
      · refine .inr ⟨c, e.trans h0, by omega, h2, h3, fun i h5 h6 => ?_⟩
        rcases Nat.lt_or_ge (11 - n) i with h | h
        · exact h4 i (by omega) h6
        · obtain rfl : i = 11 - n := by omega
          exact hff
theorem dCan_le (f : Nat → Bool) (n : Nat) (h : n ≤ 12) : 0 ≤ dCan f n ∧ dCan f n ≤ 12 := by
  rcases dCan_is f n h with ⟨h0, _⟩ | ⟨c, h0, _, h2, _⟩ <;> omega
theorem dMust_le (f : Nat → Bool) (n : Nat) (h : n ≤ 12) : 1 ≤ dMust f n ∧ dMust f n ≤ 13 := by
  rcases dMust_is f n h with ⟨h0, _⟩ | ⟨c, h0, _, h2, _⟩ <;> omega
theorem dCan_eq {f : Nat → Bool} {x : Int} (h0 : 0 ≤ x) (h12 : x ≤ 12) (h : ∀ k, k < 12 → (f k = true ↔ (k : Int) < x)) : dCan f 12 = x := by
  rcases dCan_is f 12 (by omega) with ⟨h1, h2⟩ | ⟨c, h1, h2, h3, h4, h5⟩
  · rw [h1]
    by_cases hx : x = 0
    · exact hx.symm
    · have := (h 0 (by omega)).2 (by omega)
      rw [h2 0 (by omega) (by omega)] at this
      cases this
  · have := (h c h3).1 h4
    rcases Int.lt_or_le (c + 1 : Int) x with g | g
    · have := (h (c + 1) (by omega)).2 (by omega)
      rw [h5 (c + 1) (by omega) (by omega)] at this
      cases this
    · omega
theorem dMust_eq {f : Nat → Bool} {x : Int} (h0 : 1 ≤ x) (h12 : x ≤ 13) (h : ∀ k, k < 12 → (f k = true ↔ x ≤ (k : Int) + 1)) : dMust f 12 = x := by
  rcases dMust_is f 12 (by omega) with ⟨h1, h2⟩ | ⟨c, h1, h2, h3, h4, h5⟩
  · rw [h1]
    by_cases hx : x = 13
    · exact hx.symm
    · have := (h 11 (by omega)).2 (by omega)
      rw [h2 11 (by omega) (by omega)] at this
      cases this
  · have := (h c h3).1 h4
    rcases Int.lt_or_le x (c + 1 : Int) with g | g
    · have := (h (c - 1) (by omega)).2 (by omega)
      rw [h5 (c - 1) (by omega) (by omega)] at this
      cases this
    · omega
def canF (k m lo hi : Int) (a b : Nat → Int) (i : Nat) : Bool := canS k m lo hi (a (2 * i)) (a (2 * i + 1)) (b (2 * i)) (b (2 * i + 1))
def mustF (k m lo hi : Int) (a b : Nat → Int) (i : Nat) : Bool := mustS k m lo hi (a (2 * i)) (a (2 * i + 1)) (b (2 * i)) (b (2 * i + 1))
/-- the second day: of a span alone, there is none -/
def secV (k : Int) (b : Nat → Int) : Nat → Int := if k = 2 then zeroV else b
theorem kq_ok (k m lo hi : Int) : QOk (kq k m lo hi) := by
  unfold kq
  split
  · exact before_q
  · split
    · exact near_q _
    · exact in_q _ _
theorem canF_eq {k m lo hi : Int} (hk : k = 0 ∨ k = 1 ∨ k = 2) (h : sortB k m lo hi = true) {a b : Nat → Int} (ha : Nested a) (hb : Nested b) {i : Nat} (hi' : i < 12) : canF k m lo hi a b i = canB (kq k m lo hi) a (secV k b) i := by
  rw [canF, canS_eq hk h (ha.sp i hi') (hb.sp i hi'), canB]
  rcases hk with rfl | rfl | rfl <;> rfl
theorem mustF_eq {k m lo hi : Int} (hk : k = 0 ∨ k = 1 ∨ k = 2) {a b : Nat → Int} (ha : Nested a) (hb : Nested b) {i : Nat} (hi' : i < 12) : mustF k m lo hi a b i = mustB (kq k m lo hi) a (secV k b) i := by
  rw [mustF, mustS_eq hk (ha.sp i hi') (hb.sp i hi'), mustB]
  rcases hk with rfl | rfl | rfl
  · rfl
  · rfl
  · show (qIn lo hi).so ((qIn lo hi).worst _ _ _ _).1 _ = (qIn lo hi).so ((qIn lo hi).worst _ _ _ _).1 _
    simp only [qIn]
    split <;> rfl
theorem zeroV_nested : Nested zeroV := ⟨fun _ _ => Int.le_refl _, fun _ _ => Int.le_refl _, fun _ _ => Int.le_refl _⟩
theorem secV_nested {k : Int} {b : Nat → Int} (hb : Nested b) : Nested (secV k b) := by
  unfold secV
  split
  · exact zeroV_nested
  · exact hb
/-- Can and Must of the specification are those of the verdict -/
theorem deg_can {k m lo hi : Int} (hk : k = 0 ∨ k = 1 ∨ k = 2) (h : sortB k m lo hi = true) {a b : Nat → Int} (ha : Nested a) (hb : Nested b) : dCan (canF k m lo hi a b) 12 = (vdict (kq k m lo hi) a (secV k b)).can :=
  dCan_eq (canTo_le _ _ _ 12).1 (canTo_le _ _ _ 12).2 fun i hi' => by
    rw [canF_eq hk h ha hb hi']
    exact can_iff (kq_ok _ _ _ _) ha (secV_nested hb) 12 (by omega) i hi'
theorem deg_must {k m lo hi : Int} (hk : k = 0 ∨ k = 1 ∨ k = 2) {a b : Nat → Int} (ha : Nested a) (hb : Nested b) : dMust (mustF k m lo hi a b) 12 = (vdict (kq k m lo hi) a (secV k b)).must :=
  dMust_eq (mustTo_le _ _ _ 12).1 (mustTo_le _ _ _ 12).2 fun i hi' => by
    rw [mustF_eq hk ha hb hi']
    exact must_iff (kq_ok _ _ _ _) ha (secV_nested hb) 12 (by omega) i hi'
/-- the specification's numbers that show something -/
def inS (k : Int) (a b : Nat → Int) (d x y : Int) : Bool := hasAt a x (d.toNat - 1) && (if k = 2 then decide (y = 0) else hasAt b y (d.toNat - 1))
def showS (k m lo hi : Int) (a b : Nat → Int) (d x y : Int) (so : Bool) : Bool := if 1 ≤ d ∧ d ≤ 12 then inS k a b d x y && (soS k m lo hi x y == so) else decide (x = 0) && decide (y = 0)
theorem showS_eq {k m lo hi : Int} {a b : Nat → Int} {d x y : Int} {so : Bool} (h0 : 0 ≤ d) (h12 : d ≤ 12) : showS k m lo hi a b d x y so = showsB (kq k m lo hi) a (secV k b) d x y so := by
  unfold showS showsB
  by_cases hd : d = 0
  · rw [if_neg (by omega), if_pos hd]
  · rw [if_pos (by omega), if_neg hd, soS_eq, inS]
    unfold secV
    split
    · have e : decide (y = 0) = hasAt zeroV y (d.toNat - 1) := by
        rw [Bool.eq_iff_iff]
        simp only [hasAt, zeroV, Bool.and_eq_true, decide_eq_true_eq]
        exact ⟨fun g => by subst g; simp, fun g => Int.le_antisymm (of_decide_eq_true g.2) (of_decide_eq_true g.1)⟩
      rw [e]
    · rfl
/-- what the specification says of a verdict -/
def refE (k m lo hi : Int) (a b : Nat → Int) : Int := if vok a && vok b then (if sortB k m lo hi then 0 else 1) else 1
def refCheck (k m lo hi : Int) (a b : Nat → Int) (v : Vd) : Int :=
  if refE k m lo hi a b = 0 then
    (if ((v.can = dCan (canF k m lo hi a b) 12 ∧ v.must = dMust (mustF k m lo hi a b) 12) ∧ showS k m lo hi a b (dCan (canF k m lo hi a b) 12) v.y0 v.y1 true = true) ∧ showS k m lo hi a b (dMust (mustF k m lo hi a b) 12 - 1) v.n0 v.n1 false = true then 0 else 8)
  else refE k m lo hi a b
theorem refCheck_eq {k m lo hi : Int} (hk : k = 0 ∨ k = 1 ∨ k = 2) {a b : Nat → Int} (h : refE k m lo hi a b = 0) (v : Vd) : refCheck k m lo hi a b v = checkQ (kq k m lo hi) a (secV k b) v := by
  have hv : (vok a = true ∧ vok b = true) ∧ sortB k m lo hi = true := by
    unfold refE at h
    cases h1 : vok a <;> cases h2 : vok b <;> cases h3 : sortB k m lo hi <;> simp_all
  obtain ⟨⟨ha, hb⟩, hs⟩ := hv
  have na := (vok_iff.1 ha).nested
  have nb := (vok_iff.1 hb).nested
  have e1 := deg_can hk hs na nb
  have e2 := deg_must (m := m) (lo := lo) (hi := hi) hk na nb
  rw [refCheck, if_pos h, e1, e2, checkQ]
  have c1 := canTo_le (kq k m lo hi) a (secV k b) 12
  have c2 := mustTo_le (kq k m lo hi) a (secV k b) 12
  have d1 : (vdict (kq k m lo hi) a (secV k b)).can = canTo (kq k m lo hi) a (secV k b) 12 := rfl
  have d2 : (vdict (kq k m lo hi) a (secV k b)).must = mustTo (kq k m lo hi) a (secV k b) 12 := rfl
  by_cases hc : v.can = (vdict (kq k m lo hi) a (secV k b)).can ∧ v.must = (vdict (kq k m lo hi) a (secV k b)).must
  · have g : ¬ (v.can ≠ (vdict (kq k m lo hi) a (secV k b)).can ∨ v.must ≠ (vdict (kq k m lo hi) a (secV k b)).must) := fun g => g.elim (fun g => g hc.1) fun g => g hc.2
    rw [if_neg g, ← hc.1, ← hc.2]
    have l1 := hc.1
    have l2 := hc.2
    rw [showS_eq (by omega) (by omega), showS_eq (by omega) (by omega)]
    cases showsB (kq k m lo hi) a (secV k b) v.can v.y0 v.y1 true <;> cases showsB (kq k m lo hi) a (secV k b) (v.must - 1) v.n0 v.n1 false <;> simp
  · have g : v.can ≠ (vdict (kq k m lo hi) a (secV k b)).can ∨ v.must ≠ (vdict (kq k m lo hi) a (secV k b)).must := by
      by_cases g : v.can = (vdict (kq k m lo hi) a (secV k b)).can
      · exact .inr fun g' => hc ⟨g, g'⟩
      · exact .inl g
    rw [if_pos g, if_neg (fun g => hc g.1.1)]
/-- the verdict itself is taken -/
theorem refCheck_self {k m lo hi : Int} (hk : k = 0 ∨ k = 1 ∨ k = 2) {a b : Nat → Int} (h : refE k m lo hi a b = 0) : refCheck k m lo hi a b (vdict (kq k m lo hi) a (secV k b)) = 0 := by
  have hv : vok a = true ∧ vok b = true := by
    unfold refE at h
    cases h1 : vok a <;> cases h2 : vok b <;> simp_all
  rw [refCheck_eq hk h, check_vdict (kq_ok _ _ _ _) (vok_iff.1 hv.1).nested (secV_nested (vok_iff.1 hv.2).nested)]
end Go.Proofs.YtbhiphjifdnhmaaGreatDoor
