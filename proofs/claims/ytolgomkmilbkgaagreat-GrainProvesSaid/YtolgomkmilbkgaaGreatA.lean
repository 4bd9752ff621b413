set_option autoImplicit false
set_option linter.unusedVariables false
set_option linter.unusedSimpArgs false
namespace Go.Proofs.YtolgomkmilbkgaaGreat.Gr

/-! # Plain maths of ways to buy -/
def S (f : Nat → Int) : Nat → Int
  | 0 => 0
  | n + 1 => S f n + f n
theorem S_le {f g : Nat → Int} : ∀ {n : Nat}, (∀ i, i < n → f i ≤ g i) → S f n ≤ S g n
  | 0, _ => Int.le_refl _
  | n + 1, h => by
    have h1 := S_le (n := n) fun i hi => h i (by omega)
    have h2 := h n (by omega)
    show S f n + f n ≤ S g n + g n
    omega
theorem S_congr {f g : Nat → Int} {n : Nat} (h : ∀ i, i < n → f i = g i) : S f n = S g n :=
  Int.le_antisymm (S_le fun i hi => by rw [h i hi]; exact Int.le_refl _) (S_le fun i hi => by rw [h i hi]; exact Int.le_refl _)
theorem S_add (f g : Nat → Int) : ∀ n, S (fun i => f i + g i) n = S f n + S g n
  | 0 => rfl
  | n + 1 => by
    show S (fun i => f i + g i) n + (f n + g n) = (S f n + f n) + (S g n + g n)
    rw [S_add f g n]; omega
theorem S_zero : ∀ n, S (fun _ => 0) n = 0
  | 0 => rfl
  | n + 1 => by show S (fun _ => 0) n + 0 = 0; rw [S_zero n]; rfl
theorem S_one (i : Nat) (x : Int) : ∀ n, S (fun k => if k = i then x else 0) n = if i < n then x else 0
  | 0 => by simp [S]
  | n + 1 => by
    show S (fun k => if k = i then x else 0) n + (if n = i then x else 0) = _
    rw [S_one i x n]
    by_cases h : n = i
    · subst h; simp
    · by_cases h2 : i < n
      · simp [h, h2, show i < n + 1 by omega]
      · simp [h, h2, show ¬ i < n + 1 by omega]
theorem S_nonneg {f : Nat → Int} {n : Nat} (h : ∀ i, i < n → 0 ≤ f i) : 0 ≤ S f n := by
  rw [← S_zero n]; exact S_le h
/-- Cut off behind s. -/
theorem S_cut (f : Nat → Int) (s : Nat) : ∀ n, s ≤ n → S (fun k => if k < s then f k else 0) n = S f s
  | 0, h => by obtain rfl : s = 0 := by omega
               rfl
  | n + 1, h => by
    show S (fun k => if k < s then f k else 0) n + (if n < s then f n else 0) = _
    by_cases hs : s = n + 1
    · subst hs
      rw [if_pos (by omega)]
      show _ = S f n + f n
      rw [S_congr (g := f) fun i hi => by rw [if_pos (by omega)]]
    · rw [S_cut f s n (by omega), if_neg (by omega)]; omega
/-- From s on, up to n. -/
def T (f : Nat → Int) (s n : Nat) : Int := S f n - S f s
theorem T_succ (f : Nat → Int) (s n : Nat) : T f s (n + 1) = T f s n + f n := by
  show S f n + f n - S f s = S f n - S f s + f n
  omega
theorem T_self (f : Nat → Int) (s : Nat) : T f s s = 0 := by unfold T; omega
theorem T_congr {f g : Nat → Int} {s : Nat} : ∀ {n : Nat}, s ≤ n → (∀ v, s ≤ v → v < n → f v = g v) → T f s n = T g s n
  | 0, h, _ => by obtain rfl : s = 0 := by omega
                  rw [T_self, T_self]
  | n + 1, h, hv => by
    by_cases hs : s = n + 1
    · subst hs; rw [T_self, T_self]
    · rw [T_succ, T_succ, T_congr (n := n) (by omega) fun v h1 h2 => hv v h1 (by omega), hv n (by omega) (by omega)]

/-- A barn: what is needed, on which day (i) it can be bought for which (t), what it costs, the fares; and how the days are ordered. -/
structure Barn where
  need : Nat → Int
  can : Nat → Nat → Bool
  g : Nat → Nat → Int
  fare : Nat → Int
  key : Nat → Int
structure Barn.Ok (b : Barn) : Prop where
  need0 : ∀ t, 0 ≤ b.need t
  fare0 : ∀ i, 0 ≤ b.fare i
  le : ∀ i t, b.can i t = true → i ≤ t
  mid : ∀ i t u, b.can i t = true → i ≤ u → u ≤ t → b.can i u = true
  on : ∀ i j u v, b.can j u = true → b.can i v = true → i ≤ j → u ≤ v → b.can j v = true
  g0 : ∀ i t, b.need t = 0 → b.g i t = 0
  gle : ∀ i j t, b.key j ≤ b.key i → b.g j t ≤ b.g i t

section
variable (b : Barn)
def gw (w : Nat → Option Nat) (t : Nat) : Int := match w t with | some i => b.g i t | none => 0
def used (w : Nat → Option Nat) (n i : Nat) : Bool := (List.range n).any fun t => w t == some i
def fw (w : Nat → Option Nat) (n i : Nat) : Int := if used w n i = true then b.fare i else 0
def cost (w : Nat → Option Nat) (n : Nat) : Int := S (gw b w) n + S (fw b w n) n
def Way (w : Nat → Option Nat) (n : Nat) : Prop := ∀ t, t < n → (b.need t = 0 → w t = none) ∧ (b.need t ≠ 0 → ∃ i, w t = some i ∧ b.can i t = true)
end

theorem used_iff {w : Nat → Option Nat} {n i : Nat} : used w n i = true ↔ ∃ t, t < n ∧ w t = some i := by
  unfold used
  rw [List.any_eq_true]
  constructor
  · rintro ⟨t, ht, h⟩
    exact ⟨t, List.mem_range.1 ht, by simpa using h⟩
  · rintro ⟨t, ht, h⟩
    exact ⟨t, List.mem_range.2 ht, by simpa using h⟩
section
variable {b : Barn} (ok : b.Ok)
include ok
theorem fw_le {w w' : Nat → Option Nat} {n n' i : Nat} (h : used w n i = true → used w' n' i = true) : fw b w n i ≤ fw b w' n' i := by
  unfold fw
  have := ok.fare0 i
  split
  · rename_i h1; rw [if_pos (h h1)]; exact Int.le_refl _
  · split
    · exact this
    · exact Int.le_refl _
theorem fw0 (w : Nat → Option Nat) (n i : Nat) : 0 ≤ fw b w n i := by
  unfold fw; split
  · exact ok.fare0 i
  · exact Int.le_refl _
theorem way_le {w : Nat → Option Nat} {n t i : Nat} (h : Way b w n) (ht : t < n) (hw : w t = some i) : b.can i t = true ∧ i ≤ t := by
  have := h t ht
  by_cases h0 : b.need t = 0
  · rw [this.1 h0] at hw; cases hw
  · obtain ⟨j, h1, h2⟩ := this.2 h0
    rw [hw] at h1; cases h1
    exact ⟨h2, ok.le _ _ h2⟩
/-- A day that needs nothing. -/
theorem cost_none {w : Nat → Option Nat} {n : Nat} (h : Way b w (n + 1)) (h0 : w n = none) : cost b w (n + 1) = cost b w n := by
  have hu : ∀ i, used w (n + 1) i = used w n i := fun i => by
    rw [Bool.eq_iff_iff, used_iff, used_iff]
    constructor
    · rintro ⟨t, ht, hw⟩
      refine ⟨t, ?_, hw⟩
      by_cases e : t = n
      · subst e; rw [h0] at hw; cases hw
      · omega
    · rintro ⟨t, ht, hw⟩; exact ⟨t, by omega, hw⟩
  have hn : fw b w (n + 1) n = 0 := by
    unfold fw
    rw [if_neg]
    intro e
    rw [hu, used_iff] at e
    obtain ⟨t, ht, hw⟩ := e
    have := (way_le ok h (by omega) hw).2
    omega
  show S (gw b w) n + gw b w n + (S (fw b w (n + 1)) n + fw b w (n + 1) n) = S (gw b w) n + S (fw b w n) n
  rw [hn, S_congr (f := fw b w (n + 1)) (g := fw b w n) fun i _ => by unfold fw; rw [hu]]
  have : gw b w n = 0 := by unfold gw; rw [h0]
  omega
/-- All from s on are bought on one day, and none before. -/
theorem cost_run {w : Nat → Option Nat} {n s i : Nat} (h : Way b w (n + 1)) (hs : s ≤ n) (hi : ∀ v, s ≤ v → v ≤ n → b.need v ≠ 0 → w v = some i) (hb : ∀ v, v < s → w v ≠ some i) (hn : b.need n ≠ 0) :
    cost b w s + b.fare i + T (b.g i) s (n + 1) ≤ cost b w (n + 1) := by
  have e1 : T (gw b w) s (n + 1) = T (b.g i) s (n + 1) := T_congr (by omega) fun v h1 h2 => by
    by_cases h0 : b.need v = 0
    · have := (h v h2).1 h0
      unfold gw; rw [this, ok.g0 i v h0]
    · unfold gw; rw [hi v h1 (by omega) h0]
  have hin : i < n + 1 := by have := (way_le ok h (by omega) (hi n (by omega) (by omega) hn)).2; omega
  have e2 : S (fw b w s) s + b.fare i ≤ S (fw b w (n + 1)) (n + 1) := by
    have h1 : S (fun k => (if k < s then fw b w s k else 0) + (if k = i then b.fare i else 0)) (n + 1) = S (fw b w s) s + b.fare i := by
      rw [S_add, S_cut _ s _ (by omega), S_one, if_pos hin]
    rw [← h1]
    refine S_le fun k hk => ?_
    by_cases hki : k = i
    · subst hki
      have hu : used w (n + 1) k = true := used_iff.2 ⟨n, by omega, hi n (by omega) (by omega) hn⟩
      have hnu : ¬ used w s k = true := fun e => by
        obtain ⟨t, ht, hw⟩ := used_iff.1 e
        exact hb t ht hw
      have : fw b w s k = 0 := by unfold fw; rw [if_neg hnu]
      have : fw b w (n + 1) k = b.fare k := by unfold fw; rw [if_pos hu]
      simp only [if_true]
      split <;> omega
    · have h3 := fw_le ok (w := w) (w' := w) (n := s) (n' := n + 1) (i := k) fun e => by
        obtain ⟨t, ht, hw⟩ := used_iff.1 e
        exact used_iff.2 ⟨t, by omega, hw⟩
      have h4 := fw0 ok w (n + 1) k
      rw [if_neg hki]
      split <;> omega
  unfold T at e1 ⊢
  show S (gw b w) s + S (fw b w s) s + b.fare i + (S (b.g i) (n + 1) - S (b.g i) s) ≤ S (gw b w) (n + 1) + S (fw b w (n + 1)) (n + 1)
  omega
/-- One day is bought for elsewhere, where another one is bought for. -/
theorem cost_move {w : Nat → Option Nat} {n u v i j : Nat} (h : Way b w n) (hu : u < n) (hv : v < n) (hne : u ≠ v) (hj : w u = some j) (hi : w v = some i) (hc : b.can j v = true) (hk : b.key j ≤ b.key i) :
    Way b (fun t => if t = v then some j else w t) n ∧ cost b (fun t => if t = v then some j else w t) n ≤ cost b w n := by
  refine ⟨fun t ht => ?_, ?_⟩
  · by_cases e : t = v
    · subst e
      refine ⟨fun h0 => ?_, fun _ => ⟨j, by simp, hc⟩⟩
      have := (h t ht).1 h0
      rw [hi] at this; cases this
    · simpa [e] using h t ht
  · have h1 : S (gw b fun t => if t = v then some j else w t) n ≤ S (gw b w) n := S_le fun t ht => by
      unfold gw
      by_cases e : t = v
      · subst e
        simp only [if_true, hi]
        exact ok.gle i j t hk
      · simp only [e, if_false]; exact Int.le_refl _
    have h2 : S (fw b (fun t => if t = v then some j else w t) n) n ≤ S (fw b w n) n := S_le fun k hk => fw_le ok fun e => by
      obtain ⟨t, ht, hw⟩ := used_iff.1 e
      by_cases e : t = v
      · simp only [e, if_true] at hw
        cases hw
        exact used_iff.2 ⟨u, hu, hj⟩
      · simp only [e, if_false] at hw
        exact used_iff.2 ⟨t, ht, hw⟩
    show S _ n + S _ n ≤ S _ n + S _ n
    omega
end

/-! An order of the days. -/
section
variable (b : Barn)
def ltB (i j : Nat) : Bool := decide (b.key i < b.key j) || (decide (b.key i = b.key j) && decide (i < j))
def rank (N i : Nat) : Nat := ((List.range N).filter fun k => ltB b k i).length
def rsum (w : Nat → Option Nat) (N : Nat) : Nat → Nat
  | 0 => 0
  | n + 1 => rsum w N n + (match w n with | some i => rank b N i | none => 0)
end
theorem ltB_tri {b : Barn} {i j : Nat} (h : i ≠ j) : ltB b i j = true ∨ ltB b j i = true := by
  unfold ltB
  simp only [Bool.or_eq_true, Bool.and_eq_true, decide_eq_true_eq]
  omega
theorem filter_len {α : Type} {p q : α → Bool} : ∀ {l : List α}, (∀ x, x ∈ l → p x = true → q x = true) → (l.filter p).length ≤ (l.filter q).length
  | [], _ => Nat.le_refl _
  | x :: l, h => by
    have h1 := filter_len (p := p) (q := q) (l := l) fun y hy => h y (by simp [hy])
    have h2 := h x (by simp)
    rw [List.filter_cons, List.filter_cons]
    cases hp : p x with
    | true => rw [h2 hp]; simpa using h1
    | false => cases q x <;> simp <;> omega
theorem filter_lt {α : Type} {p q : α → Bool} {x : α} : ∀ {l : List α}, (∀ x, x ∈ l → p x = true → q x = true) → x ∈ l → p x = false → q x = true → (l.filter p).length < (l.filter q).length
  | [], _, hx, _, _ => by simp at hx
  | y :: l, h, hx, hp, hq => by
    have h1 := filter_len (p := p) (q := q) (l := l) fun y hy => h y (by simp [hy])
    have h2 := h y (by simp)
    rw [List.filter_cons, List.filter_cons]
    rcases List.mem_cons.1 hx with rfl | hx
    · rw [hp, hq]; simp; omega
    · have h3 := filter_lt (l := l) (fun y hy => h y (by simp [hy])) hx hp hq
      cases hp2 : p y with
      | true => rw [h2 hp2]; simpa using h3
      | false => cases q y <;> simp <;> omega
theorem rank_lt {b : Barn} {N i j : Nat} (hj : j < N) (h : ltB b j i = true) : rank b N j < rank b N i := by
  refine filter_lt (x := j) (fun k _ hk => ?_) (List.mem_range.2 hj) ?_ h
  · unfold ltB at hk h ⊢
    simp only [Bool.or_eq_true, Bool.and_eq_true, decide_eq_true_eq] at hk h ⊢
    omega
  · unfold ltB
    simp
theorem rsum_le {b : Barn} {w w' : Nat → Option Nat} {N : Nat} : ∀ {n : Nat}, (∀ t, t < n → (match w t with | some i => rank b N i | none => 0) ≤ (match w' t with | some i => rank b N i | none => 0)) → rsum b w N n ≤ rsum b w' N n
  | 0, _ => Nat.le_refl _
  | n + 1, h => by
    have h1 := rsum_le (n := n) fun t ht => h t (by omega)
    have h2 := h n (by omega)
    exact Nat.add_le_add h1 h2
theorem rsum_lt {b : Barn} {w w' : Nat → Option Nat} {N v : Nat} : ∀ {n : Nat}, (∀ t, t < n → (match w t with | some i => rank b N i | none => 0) ≤ (match w' t with | some i => rank b N i | none => 0)) → v < n →
    (match w v with | some i => rank b N i | none => 0) < (match w' v with | some i => rank b N i | none => 0) → rsum b w N n < rsum b w' N n
  | 0, _, hv, _ => by omega
  | n + 1, h, hv, hlt => by
    have h1 := rsum_le (n := n) fun t ht => h t (by omega)
    have h2 := h n (by omega)
    by_cases e : v = n
    · subst e; exact Nat.add_lt_add_of_le_of_lt h1 hlt
    · exact Nat.add_lt_add_of_lt_of_le (rsum_lt (fun t ht => h t (by omega)) (by omega) hlt) h2

/-- What courses tell. -/
structure Low (b : Barn) (D : Nat → Int) (n : Nat) : Prop where
  zero : D 0 ≤ 0
  none : ∀ t, t < n → b.need t = 0 → D (t + 1) ≤ D t
  run : ∀ s t i, s ≤ t → t < n → b.need t ≠ 0 → b.need s ≠ 0 → (∀ v, s ≤ v → v ≤ t → b.need v ≠ 0 → b.can i v = true) → D (t + 1) ≤ D s + b.fare i + T (b.g i) s (t + 1)
theorem Low.mono {b : Barn} {D : Nat → Int} {n m : Nat} (h : Low b D n) (hm : m ≤ n) : Low b D m := ⟨h.zero, fun t ht => h.none t (by omega), fun s t i h1 h2 => h.run s t i h1 (by omega)⟩

theorem first_at {w : Nat → Option Nat} {i : Nat} : ∀ n, w n = some i → ∃ s, s ≤ n ∧ w s = some i ∧ ∀ v, v < s → w v ≠ some i := by
  intro n
  induction n using Nat.strongRecOn with
  | _ n ih =>
    intro h
    by_cases hx : ∃ v, v < n ∧ w v = some i
    · obtain ⟨v, h1, h2⟩ := hx
      obtain ⟨s, q1, q2, q3⟩ := ih v h1 h2
      exact ⟨s, by omega, q2, q3⟩
    · exact ⟨n, Nat.le_refl _, h, fun v hv e => hx ⟨v, hv, e⟩⟩

/-- No way costs less. -/
theorem lower {b : Barn} (ok : b.Ok) {D : Nat → Int} : ∀ (n : Nat), Low b D n → ∀ w, Way b w n → D n ≤ cost b w n := by
  intro n
  induction n using Nat.strongRecOn with
  | _ n ih =>
    intro hD w hw
    cases n with
    | zero =>
      have := hD.zero
      show D 0 ≤ 0 + 0
      omega
    | succ n =>
      by_cases hn : b.need n = 0
      · have h0 := (hw n (by omega)).1 hn
        rw [cost_none ok hw h0]
        have h1 := ih n (by omega) (hD.mono (by omega)) w fun t ht => hw t (by omega)
        have h2 := hD.none n (by omega) hn
        omega
      · have key : ∀ m, ∀ w, rsum b w (n + 1) (n + 1) = m → Way b w (n + 1) → D (n + 1) ≤ cost b w (n + 1) := by
          intro m
          induction m using Nat.strongRecOn with
          | _ m ihm =>
            intro w hm hw
            obtain ⟨i, hwi, hci⟩ := (hw n (by omega)).2 hn
            obtain ⟨s, hs, hws, hfirst⟩ := first_at n hwi
            have his := way_le ok hw (by omega) hws
            -- a move
            have move : ∀ u v i' j, u < n + 1 → v < n + 1 → u ≠ v → w u = some j → w v = some i' → b.can j v = true → ltB b j i' = true → D (n + 1) ≤ cost b w (n + 1) := by
              intro u v i' j hu hv hne hj hi' hc hlt
              have hk : b.key j ≤ b.key i' := by
                unfold ltB at hlt
                simp only [Bool.or_eq_true, Bool.and_eq_true, decide_eq_true_eq] at hlt
                omega
              obtain ⟨g1, g2⟩ := cost_move ok hw hu hv hne hj hi' hc hk
              have hjn : j < n + 1 := by have := ok.le _ _ hc; omega
              have hr := rank_lt (N := n + 1) hjn hlt
              have hrs : rsum b (fun t => if t = v then some j else w t) (n + 1) (n + 1) < m := by
                rw [← hm]
                refine rsum_lt (v := v) (fun t ht => ?_) hv ?_
                · by_cases e : t = v
                  · subst e; simp only [if_true, hi']; omega
                  · simp only [e, if_false]; exact Nat.le_refl _
                · simp only [if_true, hi']; exact hr
              have := ihm _ hrs _ rfl g1
              omega
            by_cases hall : ∀ v, s ≤ v → v ≤ n → b.need v ≠ 0 → w v = some i
            · have h1 := cost_run ok hw hs hall hfirst hn
              have h2 : b.need s ≠ 0 := fun e => by
                have := (hw s (by omega)).1 e
                rw [hws] at this; cases this
              have h3 := hD.run s n i hs (by omega) hn h2 fun v q1 q2 q3 => (way_le ok hw (by omega) (hall v q1 q2 q3)).1
              have h4 := ih s (by omega) (hD.mono (by omega)) w fun t ht => hw t (by omega)
              omega
            · obtain ⟨u, hu⟩ := Classical.not_forall.1 hall
              obtain ⟨hu1, hu⟩ := Classical.not_forall.1 hu
              obtain ⟨hu2, hu⟩ := Classical.not_forall.1 hu
              obtain ⟨hu3, hu⟩ := Classical.not_forall.1 hu
              obtain ⟨j, hwj, hcj⟩ := (hw u (by omega)).2 hu3
              have hji : j ≠ i := fun e => hu (by rw [hwj, e])
              have hus : u ≠ s := fun e => by rw [e, hws] at hwj; cases hwj; exact hji rfl
              have hun : u ≠ n := fun e => by rw [e, hwi] at hwj; cases hwj; exact hji rfl
              rcases ltB_tri (b := b) hji with hlt | hlt
              · by_cases hij : i ≤ j
                · exact move u n i j (by omega) (by omega) hun hwj hwi (ok.on i j u n hcj hci hij hu2) hlt
                · exact move u s i j (by omega) (by omega) hus hwj hws (ok.mid j u s hcj (by omega) hu1) hlt
              · exact move s u j i (by omega) (by omega) (fun e => hus e.symm) hws hwj (ok.mid i n u hci (by omega) hu2) hlt
        exact key _ w rfl hw
end Go.Proofs.YtolgomkmilbkgaaGreat.Gr

set_option autoImplicit false
set_option linter.unusedVariables false
set_option linter.unusedSimpArgs false
namespace Go.Proofs.YtolgomkmilbkgaaGreat.Gr

/-! # Courses -/
structure Cs where
  cost : Int
  day : Nat
  first : Nat
deriving Inhabited
def never : Int := 1099511627776
def srcs (b : Barn) (t : Nat) : List Nat := (List.range (t + 1)).filter fun i => b.can i t
/-- What a source's course becomes on a day. -/
def upd (b : Barn) (t : Nat) (d : Int) (E : Nat → Cs) (i : Nat) : Cs :=
  ⟨(if d + b.fare i < (E i).cost then d + b.fare i else (E i).cost) + b.g i t, if d + b.fare i < (E i).cost then i else (E i).day, if d + b.fare i < (E i).cost then t else (E i).first⟩
def step (b : Barn) (t : Nat) (d : Int) (E : Nat → Cs) : Nat → Cs := fun i => if b.can i t = true then upd b t d E i else E i
/-- The first of those that cost least. -/
def pickL (E : Nat → Cs) : List Nat → Option Nat
  | [] => none
  | i :: l => match pickL E l with
    | none => some i
    | some j => if (E j).cost < (E i).cost then some j else some i
structure Run where
  bs : List Cs
  E : Nat → Cs
def run (b : Barn) : Nat → Option Run
  | 0 => some ⟨[⟨0, 0, 0⟩], fun _ => ⟨never, 0, 0⟩⟩
  | t + 1 => match run b t with
    | none => none
    | some r =>
      if b.need t = 0 then some ⟨r.bs ++ [⟨(r.bs.getD t default).cost, 0, t⟩], r.E⟩
      else match pickL (step b t (r.bs.getD t default).cost r.E) (srcs b t) with
        | none => none
        | some i => some ⟨r.bs ++ [step b t (r.bs.getD t default).cost r.E i], step b t (r.bs.getD t default).cost r.E⟩

theorem pick_mem {E : Nat → Cs} : ∀ {l : List Nat} {i : Nat}, pickL E l = some i → i ∈ l ∧ ∀ j, j ∈ l → (E i).cost ≤ (E j).cost
  | [], i, h => by cases h
  | k :: l, i, h => by
    unfold pickL at h
    cases hp : pickL E l with
    | none =>
      rw [hp] at h; cases h
      have hl : l = [] := by
        cases l with
        | nil => rfl
        | cons a l =>
          exfalso
          unfold pickL at hp
          split at hp
          · cases hp
          · split at hp <;> cases hp
      subst hl
      exact ⟨by simp, fun j hj => by simp at hj; subst hj; exact Int.le_refl _⟩
    | some j =>
      rw [hp] at h
      obtain ⟨h1, h2⟩ := pick_mem hp
      by_cases hlt : (E j).cost < (E k).cost
      · have h : (if (E j).cost < (E k).cost then some j else some k) = some i := h
        rw [if_pos hlt] at h; cases h
        refine ⟨by simp [h1], fun a ha => ?_⟩
        rcases List.mem_cons.1 ha with rfl | ha
        · omega
        · exact h2 a ha
      · have h : (if (E j).cost < (E k).cost then some j else some k) = some i := h
        rw [if_neg hlt] at h; cases h
        refine ⟨by simp, fun a ha => ?_⟩
        rcases List.mem_cons.1 ha with rfl | ha
        · exact Int.le_refl _
        · have := h2 a ha; omega
theorem pick_none {E : Nat → Cs} {l : List Nat} (h : pickL E l = none) : l = [] := by
  cases l with
  | nil => rfl
  | cons a l =>
    exfalso
    unfold pickL at h
    split at h
    · cases h
    · split at h <;> cases h
theorem src_iff {b : Barn} (ok : b.Ok) {t i : Nat} : i ∈ srcs b t ↔ b.can i t = true := by
  unfold srcs
  rw [List.mem_filter, List.mem_range]
  exact ⟨fun h => h.2, fun h => ⟨by have := ok.le _ _ h; omega, h⟩⟩

/-- The cost of the courses. -/
def Run.D (r : Run) (s : Nat) : Int := (r.bs.getD s default).cost
/-- No cost is greater. -/
structure Bnd (b : Barn) (M : Int) (N : Nat) : Prop where
  g0 : ∀ i t, i ≤ t → 0 ≤ b.g i t
  le : ∀ i t, i ≤ t → t < N → b.fare i + b.g i t ≤ M
  small : M * (N + 1) < never
  M0 : 0 ≤ M
structure RunOk (b : Barn) (M : Int) (t : Nat) (r : Run) : Prop where
  len : r.bs.length = t + 1
  low : Low b r.D t
  bnd : ∀ s, s ≤ t → 0 ≤ r.D s ∧ r.D s ≤ M * s
  el : ∀ s i, s < t → b.need s ≠ 0 → (∀ v, s ≤ v → v < t → b.need v ≠ 0 → b.can i v = true) → (r.E i).cost ≤ r.D s + b.fare i + T (b.g i) s t
  ea : ∀ i, (r.E i = ⟨never, 0, 0⟩ ∧ ∀ v, v < t → b.need v ≠ 0 → b.can i v = false) ∨
    ∃ s m, s ≤ m ∧ m < t ∧ (r.E i).first = s ∧ (r.E i).day = i ∧ b.need s ≠ 0 ∧ b.can i s = true ∧ b.can i m = true ∧ (r.E i).cost = r.D s + b.fare i + T (b.g i) s (m + 1) ∧ ∀ v, m < v → v < t → b.need v ≠ 0 → b.can i v = false
  bs : ∀ q, q < t → (b.need q = 0 → r.bs.getD (q + 1) default = ⟨r.D q, 0, q⟩) ∧
    (b.need q ≠ 0 → ∃ i s, r.bs.getD (q + 1) default = ⟨r.D s + b.fare i + T (b.g i) s (q + 1), i, s⟩ ∧ s ≤ q ∧ b.need s ≠ 0 ∧ ∀ v, s ≤ v → v ≤ q → b.can i v = true)
  mono : ∀ q, q < t → r.D q ≤ r.D (q + 1)

theorem getD_app {l : List Cs} {x : Cs} {i : Nat} (h : i < l.length) : (l ++ [x]).getD i default = l.getD i default := by
  simp [List.getD, List.getElem?_append_left h]
theorem getD_last {l : List Cs} {x : Cs} {i : Nat} (h : i = l.length) : (l ++ [x]).getD i default = x := by
  subst h; simp [List.getD]

theorem run_ok {b : Barn} (ok : b.Ok) {M : Int} {N : Nat} (hb : Bnd b M N) : ∀ (t : Nat) (r : Run), t ≤ N → run b t = some r → RunOk b M t r
  | 0, r, _, h => by
    cases h
    refine ⟨rfl, ⟨by show (0 : Int) ≤ 0; omega, fun t ht => by omega, fun s t i _ ht => by omega⟩, fun s hs => ?_, fun s i hs => by omega, fun i => .inl ⟨rfl, fun v hv => by omega⟩, fun q hq => by omega, fun q hq => by omega⟩
    obtain rfl : s = 0 := by omega
    show (0 : Int) ≤ 0 ∧ (0 : Int) ≤ M * (0 : Nat)
    simp
  | t + 1, r', hN, h => by
    unfold run at h
    cases hr : run b t with
    | none => rw [hr] at h; cases h
    | some r =>
      have R := run_ok ok hb t r (by omega) hr
      rw [hr] at h
      have hlen := R.len
      by_cases hn : b.need t = 0
      · have h : (if b.need t = 0 then some (⟨r.bs ++ [⟨(r.bs.getD t default).cost, 0, t⟩], r.E⟩ : Run) else _) = some r' := h
        rw [if_pos hn] at h
        cases h
        have hD : ∀ s, s ≤ t → (⟨r.bs ++ [⟨(r.bs.getD t default).cost, 0, t⟩], r.E⟩ : Run).D s = r.D s := fun s hs => by unfold Run.D; rw [getD_app (by omega)]
        have hDt : (⟨r.bs ++ [⟨(r.bs.getD t default).cost, 0, t⟩], r.E⟩ : Run).D (t + 1) = r.D t := by unfold Run.D; rw [getD_last (by omega)]
        generalize hR : (⟨r.bs ++ [⟨(r.bs.getD t default).cost, 0, t⟩], r.E⟩ : Run) = r1 at *
        have hE : r1.E = r.E := by rw [← hR]
        have hgt : ∀ i, T (b.g i) (t) (t + 1) = 0 := fun i => by rw [T_succ, T_self, ok.g0 i t hn]; rfl
        refine ⟨by rw [← hR]; simp [hlen], ⟨by rw [hD 0 (by omega)]; exact R.low.zero, fun q hq h0 => ?_, fun s q i h1 h2 h3 h4 h5 => ?_⟩, fun s hs => ?_, fun s i hs h1 h2 => ?_, fun i => ?_, fun q hq => ?_, fun q hq => ?_⟩
        · by_cases e : q = t
          · subst e; rw [hDt, hD q (by omega)]; exact Int.le_refl _
          · rw [hD (q + 1) (by omega), hD q (by omega)]; exact R.low.none q (by omega) h0
        · have e : q ≠ t := fun e => h3 (by rw [e]; exact hn)
          rw [hD (q + 1) (by omega), hD s (by omega)]
          exact R.low.run s q i h1 (by omega) h3 h4 h5
        · by_cases e : s = t + 1
          · subst e
            rw [hDt]
            have := R.bnd t (by omega)
            refine ⟨this.1, ?_⟩
            have h2 : M * (t : Int) ≤ M * ((t + 1 : Nat) : Int) := Int.mul_le_mul_of_nonneg_left (by omega) hb.M0
            omega
          · rw [hD s (by omega)]; exact R.bnd s (by omega)
        · have hst : s ≠ t := fun e => h1 (by rw [e]; exact hn)
          rw [hE, hD s (by omega), T_succ, ok.g0 i t hn, Int.add_zero]
          exact R.el s i (by omega) h1 fun v q1 q2 => h2 v q1 (by omega)
        · rw [hE]
          rcases R.ea i with ⟨q1, q2⟩ | ⟨s, m, q1, q2, q3, q4, q5, q6, q7, q8, q9⟩
          · refine .inl ⟨q1, fun v hv h0 => ?_⟩
            have e : v ≠ t := fun e => h0 (by rw [e]; exact hn)
            exact q2 v (by omega) h0
          · refine .inr ⟨s, m, q1, by omega, q3, q4, q5, q6, q7, by rw [hD s (by omega)]; exact q8, fun v h1 h2 h0 => ?_⟩
            have e : v ≠ t := fun e => h0 (by rw [e]; exact hn)
            exact q9 v h1 (by omega) h0
        · by_cases e : q = t
          · subst e
            refine ⟨fun _ => ?_, fun h0 => absurd hn h0⟩
            rw [hD q (by omega), ← hR]
            exact getD_last (by omega)
          · obtain ⟨g1, g2⟩ := R.bs q (by omega)
            have e2 : r1.bs.getD (q + 1) default = r.bs.getD (q + 1) default := by rw [← hR]; exact getD_app (by omega)
            rw [e2, hD q (by omega)]
            refine ⟨g1, fun h0 => ?_⟩
            obtain ⟨i, s, q1, q2, q3, q4⟩ := g2 h0
            exact ⟨i, s, by rw [hD s (by omega)]; exact q1, q2, q3, q4⟩
        · by_cases e : q = t
          · subst e; rw [hDt, hD q (by omega)]; exact Int.le_refl _
          · rw [hD (q + 1) (by omega), hD q (by omega)]; exact R.mono q (by omega)
      · have h : (match pickL (step b t (r.bs.getD t default).cost r.E) (srcs b t) with
            | none => none
            | some i => some (⟨r.bs ++ [step b t (r.bs.getD t default).cost r.E i], step b t (r.bs.getD t default).cost r.E⟩ : Run)) = some r' := by rw [← h]; exact (if_neg hn).symm
        cases hp : pickL (step b t (r.bs.getD t default).cost r.E) (srcs b t) with
        | none => rw [hp] at h; cases h
        | some i0 =>
          rw [hp] at h
          have h : some (⟨r.bs ++ [step b t (r.bs.getD t default).cost r.E i0], step b t (r.bs.getD t default).cost r.E⟩ : Run) = some r' := h
          obtain ⟨p1, p2⟩ := pick_mem hp
          have p1 := (src_iff ok).1 p1
          have hd : (r.bs.getD t default).cost = r.D t := rfl
          rw [hd] at h p2
          generalize hE' : step b t (r.D t) r.E = E' at *
          cases h
          have hD : ∀ s, s ≤ t → (⟨r.bs ++ [E' i0], E'⟩ : Run).D s = r.D s := fun s hs => by unfold Run.D; rw [getD_app (by omega)]
          have hDt : (⟨r.bs ++ [E' i0], E'⟩ : Run).D (t + 1) = (E' i0).cost := by unfold Run.D; rw [getD_last (by omega)]
          have hBt : (⟨r.bs ++ [E' i0], E'⟩ : Run).bs.getD (t + 1) default = E' i0 := getD_last (by omega)
          have hBq : ∀ q, q ≤ t → (⟨r.bs ++ [E' i0], E'⟩ : Run).bs.getD q default = r.bs.getD q default := fun q hq => getD_app (by omega)
          have hlen1 : (⟨r.bs ++ [E' i0], E'⟩ : Run).bs.length = t + 2 := by show (r.bs ++ [E' i0]).length = _; simp [hlen]
          have hE1 : (⟨r.bs ++ [E' i0], E'⟩ : Run).E = E' := rfl
          generalize (⟨r.bs ++ [E' i0], E'⟩ : Run) = r1 at *
          have hDt0 := R.bnd t (by omega)
          -- one source's course
          have stp : ∀ i, b.can i t = true → (E' i).cost ≤ r.D t + b.fare i + b.g i t ∧ (E' i).cost ≤ (r.E i).cost + b.g i t := fun i hc => by
            rw [← hE']; unfold step; rw [if_pos hc]
            have e : (upd b t (r.D t) r.E i).cost = (if r.D t + b.fare i < (r.E i).cost then r.D t + b.fare i else (r.E i).cost) + b.g i t := rfl
            rw [e]
            by_cases h : r.D t + b.fare i < (r.E i).cost
            · rw [if_pos h]; omega
            · rw [if_neg h]; omega
          have hel : ∀ s i, s < t + 1 → b.need s ≠ 0 → (∀ v, s ≤ v → v < t + 1 → b.need v ≠ 0 → b.can i v = true) → (E' i).cost ≤ r1.D s + b.fare i + T (b.g i) s (t + 1) := fun s i hs h1 h2 => by
            have hc := h2 t (by omega) (by omega) hn
            rw [hD s (by omega), T_succ]
            by_cases e : s = t
            · subst e; rw [T_self]; have := (stp i hc).1; omega
            · have := R.el s i (by omega) h1 fun v q1 q2 => h2 v q1 (by omega)
              have := (stp i hc).2
              omega
          have hea : ∀ i, b.can i t = true → ∃ s, s ≤ t ∧ (E' i).first = s ∧ (E' i).day = i ∧ b.need s ≠ 0 ∧ b.can i s = true ∧ (E' i).cost = r.D s + b.fare i + T (b.g i) s (t + 1) := fun i hc => by
            have hfresh : r.D t + b.fare i < never := by
              have h1 := hb.le i t (ok.le _ _ hc) (by omega)
              have h2 := hb.g0 i t (ok.le _ _ hc)
              have h3 := hb.small
              have h4 : M * (t : Int) ≤ M * (N : Int) := Int.mul_le_mul_of_nonneg_left (by omega) hb.M0
              have h5 : M * ((N : Int) + 1) = M * N + M := by rw [Int.mul_add, Int.mul_one]
              omega
            rw [← hE']; unfold step; rw [if_pos hc]
            unfold upd
            by_cases hlt : r.D t + b.fare i < (r.E i).cost
            · refine ⟨t, by omega, by simp [hlt], by simp [hlt], hn, hc, ?_⟩
              rw [T_succ, T_self]
              simp only [hlt, if_true]
              rw [Int.zero_add]
            · rcases R.ea i with ⟨q1, q2⟩ | ⟨s, m, q1, q2, q3, q4, q5, q6, q7, q8, q9⟩
              · rw [q1] at hlt
                exact absurd hfresh hlt
              · have hT : T (b.g i) s (t + 1) = T (b.g i) s (m + 1) + b.g i t := by
                  rw [T_succ]
                  have : ∀ k, m + 1 + k ≤ t → T (b.g i) s (m + 1 + k) = T (b.g i) s (m + 1) := by
                    intro k
                    induction k with
                    | zero => intro _; rfl
                    | succ k ih =>
                      intro hk
                      rw [show m + 1 + (k + 1) = (m + 1 + k) + 1 by omega, T_succ, ih (by omega)]
                      have hcv := ok.mid i t (m + 1 + k) hc (by have := ok.le _ _ q7; omega) (by omega)
                      have : b.need (m + 1 + k) = 0 := by
                        by_cases h0 : b.need (m + 1 + k) = 0
                        · exact h0
                        · have := q9 (m + 1 + k) (by omega) (by omega) h0
                          rw [hcv] at this; cases this
                      rw [ok.g0 i _ this]; omega
                  have := this (t - (m + 1)) (by omega)
                  rw [show m + 1 + (t - (m + 1)) = t by omega] at this
                  rw [this]
                refine ⟨s, by omega, by simp [hlt, q3], by simp [hlt, q4], q5, q6, ?_⟩
                rw [hT]
                simp only [hlt, if_false]
                rw [q8]; omega
          have hEge : ∀ i, b.can i t = true → r.D t ≤ (E' i).cost := fun i hc => by
            obtain ⟨s, q1, q2, q3, q4, q5, q6⟩ := hea i hc
            have hcan : ∀ v, s ≤ v → v ≤ t → b.can i v = true := fun v h1 h2 => ok.mid i t v hc (by have := ok.le _ _ q5; omega) h2
            have hTn : 0 ≤ T (b.g i) t (t + 1) := by rw [T_succ, T_self]; have := hb.g0 i t (ok.le _ _ hc); omega
            have hf := ok.fare0 i
            rw [T_succ] at q6
            have hgt := hb.g0 i t (ok.le _ _ hc)
            by_cases e : s = t
            · subst e; rw [T_self] at q6; omega
            · -- the days before t: no less than what they cost
              have key : ∀ k, s + k ≤ t → r.D (s + k) ≤ r.D s + b.fare i + T (b.g i) s (s + k) := by
                intro k
                induction k with
                | zero => intro _; rw [Nat.add_zero, T_self]; omega
                | succ k ih =>
                  intro hk
                  have h1 := ih (by omega)
                  by_cases h0 : b.need (s + k) = 0
                  · have h2 := R.low.none (s + k) (by omega) h0
                    rw [show s + (k + 1) = (s + k) + 1 by omega, T_succ, ok.g0 i _ h0]; omega
                  · exact R.low.run s (s + k) i (by omega) (by omega) h0 q4 fun v v1 v2 _ => hcan v v1 (by omega)
              have := key (t - s) (by omega)
              rw [show s + (t - s) = t by omega] at this
              omega
          refine ⟨hlen1, ⟨by rw [hD 0 (by omega)]; exact R.low.zero, fun q hq h0 => ?_, fun s q i h1 h2 h3 h4 h5 => ?_⟩, fun s hs => ?_, by rw [hE1]; exact hel, fun i => ?_, fun q hq => ?_, fun q hq => ?_⟩
          · have e : q ≠ t := fun e => hn (by rw [← e]; exact h0)
            rw [hD (q + 1) (by omega), hD q (by omega)]; exact R.low.none q (by omega) h0
          · by_cases e : q = t
            · subst e
              rw [hDt]
              have hc := h5 q (by omega) (by omega) hn
              have := p2 i ((src_iff ok).2 hc)
              have := hel s i (by omega) h4 fun v q1 q2 => h5 v q1 (by omega)
              omega
            · rw [hD (q + 1) (by omega), hD s (by omega)]
              exact R.low.run s q i h1 (by omega) h3 h4 h5
          · by_cases e : s = t + 1
            · subst e
              rw [hDt]
              have h1 := hEge i0 p1
              have h2 := (stp i0 p1).1
              have h3 := hb.le i0 t (ok.le _ _ p1) (by omega)
              have h4 : M * ((t + 1 : Nat) : Int) = M * (t : Int) + M := by push_cast; rw [Int.mul_add, Int.mul_one]
              omega
            · rw [hD s (by omega)]; exact R.bnd s (by omega)
          · rw [hE1]
            by_cases hc : b.can i t = true
            · obtain ⟨s, q1, q2, q3, q4, q5, q6⟩ := hea i hc
              exact .inr ⟨s, t, q1, by omega, q2, q3, q4, q5, hc, by rw [hD s (by omega)]; exact q6, fun v h1 h2 => by omega⟩
            · have hEi : E' i = r.E i := by rw [← hE']; unfold step; rw [if_neg hc]
              rw [hEi]
              rcases R.ea i with ⟨q1, q2⟩ | ⟨s, m, q1, q2, q3, q4, q5, q6, q7, q8, q9⟩
              · refine .inl ⟨q1, fun v hv h0 => ?_⟩
                by_cases e : v = t
                · subst e; simpa using hc
                · exact q2 v (by omega) h0
              · refine .inr ⟨s, m, q1, by omega, q3, q4, q5, q6, q7, by rw [hD s (by omega)]; exact q8, fun v h1 h2 h0 => ?_⟩
                by_cases e : v = t
                · subst e; simpa using hc
                · exact q9 v h1 (by omega) h0
          · by_cases e : q = t
            · subst e
              refine ⟨fun h0 => absurd h0 hn, fun _ => ?_⟩
              obtain ⟨s, q1, q2, q3, q4, q5, q6⟩ := hea i0 p1
              refine ⟨i0, s, ?_, q1, q4, fun v h1 h2 => ok.mid i0 q v p1 (by have := ok.le _ _ q5; omega) h2⟩
              rw [hBt, hD s (by omega), ← q6]
              cases hx : E' i0 with
              | mk c d f => rw [hx] at q2 q3; simp only at q2 q3; rw [q2, q3]
            · obtain ⟨g1, g2⟩ := R.bs q (by omega)
              rw [hBq (q + 1) (by omega), hD q (by omega)]
              refine ⟨g1, fun h0 => ?_⟩
              obtain ⟨i, s, q1, q2, q3, q4⟩ := g2 h0
              exact ⟨i, s, by rw [hD s (by omega)]; exact q1, q2, q3, q4⟩
          · by_cases e : q = t
            · subst e; rw [hDt, hD q (by omega)]; exact hEge i0 p1
            · rw [hD (q + 1) (by omega), hD q (by omega)]; exact R.mono q (by omega)
end Go.Proofs.YtolgomkmilbkgaaGreat.Gr

set_option autoImplicit false
set_option linter.unusedVariables false
set_option linter.unusedSimpArgs false
namespace Go.Proofs.YtolgomkmilbkgaaGreat.Gr

/-! # The way that courses lead to -/
theorem T_split (f : Nat → Int) (a b c : Nat) : T f a c = T f a b + T f b c := by unfold T; omega
theorem S_T (f : Nat → Int) (s n : Nat) : S f n = S f s + T f s n := by unfold T; omega
theorem cost_up {b : Barn} (ok : b.Ok) {w : Nat → Option Nat} {n s i : Nat} (hs : s < n) (hw : Way b w s) (hi : ∀ v, s ≤ v → v < n → b.need v ≠ 0 → w v = some i) (h0 : ∀ v, s ≤ v → v < n → b.need v = 0 → w v = none) (hin : i < n) :
    cost b w n ≤ cost b w s + b.fare i + T (b.g i) s n := by
  have e1 : T (gw b w) s n = T (b.g i) s n := T_congr (by omega) fun v h1 h2 => by
    by_cases hn : b.need v = 0
    · unfold gw; rw [h0 v h1 h2 hn, ok.g0 i v hn]
    · unfold gw; rw [hi v h1 h2 hn]
  have e2 : S (fw b w n) n ≤ S (fw b w s) s + b.fare i := by
    have h1 : S (fun k => (if k < s then fw b w s k else 0) + (if k = i then b.fare i else 0)) n = S (fw b w s) s + b.fare i := by
      rw [S_add, S_cut _ s _ (by omega), S_one, if_pos hin]
    rw [← h1]
    refine S_le fun k hk => ?_
    by_cases hu : used w n k = true
    · obtain ⟨t, ht, hwt⟩ := used_iff.1 hu
      have hf : fw b w n k = b.fare k := by unfold fw; rw [if_pos hu]
      by_cases hts : t < s
      · have h3 := way_le ok hw hts hwt
        have h4 : fw b w s k = b.fare k := by unfold fw; rw [if_pos (used_iff.2 ⟨t, hts, hwt⟩)]
        have h5 := ok.fare0 i
        rw [if_pos (by omega)]
        split <;> omega
      · by_cases hn : b.need t = 0
        · rw [h0 t (by omega) ht hn] at hwt; cases hwt
        · have := hi t (by omega) ht hn
          rw [hwt] at this
          have hki : k = i := Option.some.inj this
          have h6 := fw0 ok w s k
          rw [if_pos hki]
          subst hki
          split <;> omega
    · have hf : fw b w n k = 0 := by unfold fw; rw [if_neg hu]
      have h5 := ok.fare0 i
      have h6 := fw0 ok w s k
      split <;> split <;> omega
  show S (gw b w) n + S (fw b w n) n ≤ S (gw b w) s + S (fw b w s) s + b.fare i + T (b.g i) s n
  rw [S_T (gw b w) s n]
  omega
theorem cost_congr {b : Barn} {w w' : Nat → Option Nat} {n : Nat} (h : ∀ t, t < n → w t = w' t) : cost b w n = cost b w' n := by
  have hu : ∀ i, used w n i = used w' n i := fun i => by
    rw [Bool.eq_iff_iff, used_iff, used_iff]
    constructor
    · rintro ⟨t, ht, e⟩; exact ⟨t, ht, by rw [← h t ht]; exact e⟩
    · rintro ⟨t, ht, e⟩; exact ⟨t, ht, by rw [h t ht]; exact e⟩
  unfold cost
  rw [S_congr (f := gw b w) (g := gw b w') fun t ht => by unfold gw; rw [h t ht], S_congr (f := fw b w n) (g := fw b w' n) fun i _ => by unfold fw; rw [hu]]
theorem way_congr {b : Barn} {w w' : Nat → Option Nat} {n : Nat} (h : ∀ t, t < n → w t = w' t) (hw : Way b w n) : Way b w' n := fun t ht => by rw [← h t ht]; exact hw t ht

/-- The days of one course. -/
def mark (b : Barn) (c : Cs) (n : Nat) (w : Nat → Option Nat) : Nat → Option Nat := fun t => if c.first ≤ t ∧ t < n ∧ b.need t ≠ 0 then some c.day else w t
def back (b : Barn) (bs : List Cs) : Nat → Nat → (Nat → Option Nat) → Nat → Option Nat
  | 0, _, w => w
  | f + 1, n, w => if n = 0 then w else back b bs f (bs.getD n default).first (mark b (bs.getD n default) n w)
theorem back_ok {b : Barn} (ok : b.Ok) {M : Int} {N : Nat} {r : Run} (R : RunOk b M N r) : ∀ (f n : Nat) (w : Nat → Option Nat), n ≤ f → n ≤ N → (∀ t, t < n → w t = none) →
    (∀ t, n ≤ t → back b r.bs f n w t = w t) ∧ Way b (back b r.bs f n w) n ∧ cost b (back b r.bs f n w) n ≤ r.D n
  | 0, n, w, hf, hN, hw => by
    obtain rfl : n = 0 := by omega
    refine ⟨fun t _ => rfl, fun t ht => by omega, ?_⟩
    have := (R.bnd 0 (by omega)).1
    show (0 : Int) + 0 ≤ _
    omega
  | f + 1, n, w, hf, hN, hw => by
    unfold back
    by_cases hn : n = 0
    · subst hn
      rw [if_pos rfl]
      refine ⟨fun t _ => rfl, fun t ht => by omega, ?_⟩
      have := (R.bnd 0 (by omega)).1
      show (0 : Int) + 0 ≤ _
      omega
    · rw [if_neg hn]
      obtain ⟨q, rfl⟩ : ∃ q, n = q + 1 := ⟨n - 1, by omega⟩
      obtain ⟨g1, g2⟩ := R.bs q (by omega)
      by_cases h0 : b.need q = 0
      · rw [g1 h0]
        have hm : ∀ t, mark b ⟨r.D q, 0, q⟩ (q + 1) w t = w t := fun t => by
          unfold mark
          rw [if_neg]
          rintro ⟨h1, h2, h3⟩
          have h1 : q ≤ t := h1
          obtain rfl : t = q := by omega
          exact h3 h0
        obtain ⟨i1, i2, i3⟩ := back_ok ok R f q (mark b ⟨r.D q, 0, q⟩ (q + 1) w) (by omega) (by omega) fun t ht => by rw [hm]; exact hw t (by omega)
        have hq : back b r.bs f q (mark b ⟨r.D q, 0, q⟩ (q + 1) w) q = none := by rw [i1 q (by omega), hm]; exact hw q (by omega)
        have hway : Way b (back b r.bs f q (mark b ⟨r.D q, 0, q⟩ (q + 1) w)) (q + 1) := fun t ht => by
          by_cases e : t = q
          · subst e; exact ⟨fun _ => hq, fun h => absurd h0 h⟩
          · exact i2 t (by omega)
        refine ⟨fun t ht => by rw [i1 t (by omega), hm], hway, ?_⟩
        rw [cost_none ok hway hq]
        have := R.mono q (by omega)
        omega
      · obtain ⟨i, s, e, hs, hns, hc⟩ := g2 h0
        rw [e]
        dsimp only
        have hD : r.D (q + 1) = r.D s + b.fare i + T (b.g i) s (q + 1) := by show (r.bs.getD (q + 1) default).cost = _; rw [e]
        have hm1 : ∀ t, s ≤ t → t < q + 1 → b.need t ≠ 0 → mark b ⟨r.D s + b.fare i + T (b.g i) s (q + 1), i, s⟩ (q + 1) w t = some i := fun t h1 h2 h3 => by
          unfold mark; rw [if_pos ⟨h1, h2, h3⟩]
        have hm2 : ∀ t, (t < s ∨ q + 1 ≤ t ∨ b.need t = 0) → mark b ⟨r.D s + b.fare i + T (b.g i) s (q + 1), i, s⟩ (q + 1) w t = w t := fun t h => by
          unfold mark
          rw [if_neg]
          rintro ⟨h1, h2, h3⟩
          have h1 : s ≤ t := h1
          rcases h with h | h | h
          · omega
          · omega
          · exact h3 h
        obtain ⟨i1, i2, i3⟩ := back_ok ok R f s (mark b ⟨r.D s + b.fare i + T (b.g i) s (q + 1), i, s⟩ (q + 1) w) (by omega) (by omega) fun t ht => by rw [hm2 t (.inl ht)]; exact hw t (by omega)
        have k1 : ∀ v, s ≤ v → v < q + 1 → b.need v ≠ 0 → back b r.bs f s (mark b ⟨r.D s + b.fare i + T (b.g i) s (q + 1), i, s⟩ (q + 1) w) v = some i := fun v h1 h2 h3 => by rw [i1 v h1, hm1 v h1 h2 h3]
        have k2 : ∀ v, s ≤ v → v < q + 1 → b.need v = 0 → back b r.bs f s (mark b ⟨r.D s + b.fare i + T (b.g i) s (q + 1), i, s⟩ (q + 1) w) v = none := fun v h1 h2 h3 => by rw [i1 v h1, hm2 v (.inr (.inr h3))]; exact hw v h2
        refine ⟨fun t ht => by rw [i1 t (by omega), hm2 t (.inr (.inl ht))], fun t ht => ?_, ?_⟩
        · by_cases hts : t < s
          · exact i2 t hts
          · exact ⟨fun h => k2 t (by omega) ht h, fun h => ⟨i, k1 t (by omega) ht h, hc t (by omega) (by omega)⟩⟩
        · have := cost_up ok (w := back b r.bs f s (mark b ⟨r.D s + b.fare i + T (b.g i) s (q + 1), i, s⟩ (q + 1) w)) (n := q + 1) (s := s) (i := i) (by omega) i2 k1 k2 (by have := ok.le _ _ (hc s (by omega) hs); omega)
          omega
/-- What courses tell is what their way costs. -/
theorem back_cost {b : Barn} (ok : b.Ok) {M : Int} {N : Nat} {r : Run} (R : RunOk b M N r) : Way b (back b r.bs N N fun _ => none) N ∧ cost b (back b r.bs N N fun _ => none) N = r.D N := by
  obtain ⟨_, h1, h2⟩ := back_ok ok R N N (fun _ => none) (by omega) (by omega) fun _ _ => rfl
  exact ⟨h1, Int.le_antisymm h2 (lower ok N R.low _ h1)⟩
/-- There is none if there is no way. -/
theorem run_none {b : Barn} (ok : b.Ok) : ∀ {t : Nat}, run b t = none → ∃ v, v < t ∧ b.need v ≠ 0 ∧ ∀ i, b.can i v = false
  | 0, h => by cases h
  | t + 1, h => by
    unfold run at h
    cases hr : run b t with
    | none =>
      obtain ⟨v, h1, h2⟩ := run_none ok hr
      exact ⟨v, by omega, h2⟩
    | some r =>
      rw [hr] at h
      by_cases hn : b.need t = 0
      · have h : (if b.need t = 0 then some _ else _) = none := h
        rw [if_pos hn] at h; cases h
      · have h : (if b.need t = 0 then some _ else (match pickL (step b t (r.bs.getD t default).cost r.E) (srcs b t) with
            | none => none
            | some i => some (⟨r.bs ++ [step b t (r.bs.getD t default).cost r.E i], step b t (r.bs.getD t default).cost r.E⟩ : Run))) = none := h
        rw [if_neg hn] at h
        cases hp : pickL (step b t (r.bs.getD t default).cost r.E) (srcs b t) with
        | some i => rw [hp] at h; cases h
        | none =>
          have := pick_none hp
          refine ⟨t, by omega, hn, fun i => ?_⟩
          cases hc : b.can i t with
          | false => rfl
          | true =>
            have := (src_iff ok).2 hc
            rw [pick_none hp] at this; simp at this
theorem no_way {b : Barn} (ok : b.Ok) {t n : Nat} (h : run b t = none) (hn : t ≤ n) (w : Nat → Option Nat) : ¬ Way b w n := by
  intro hw
  obtain ⟨v, h1, h2, h3⟩ := run_none ok h
  obtain ⟨i, _, hc⟩ := (hw v (by omega)).2 h2
  rw [h3 i] at hc; cases hc

/-! # Prices -/
/-- What is saved, day after day. -/
def undL (fare : Int) (f : Nat → Int) : Int → List Nat → Bool
  | _, [] => false
  | sv, t :: l => if fare < max sv 0 + f t then true else undL fare f (max sv 0 + f t) l
theorem und_false {fare : Int} {f : Nat → Int} : ∀ {k a : Nat} {sv : Int}, undL fare f sv (List.range' a k) = false → (∀ t, t < k → max sv 0 + T f a (a + t + 1) ≤ fare) ∧ ∀ s t, s ≤ t → t < k → T f (a + s) (a + t + 1) ≤ fare
  | 0, a, sv, _ => ⟨fun t ht => by omega, fun s t _ ht => by omega⟩
  | k + 1, a, sv, h => by
    rw [List.range'_succ] at h
    unfold undL at h
    by_cases hf : fare < max sv 0 + f a
    · rw [if_pos hf] at h; cases h
    · rw [if_neg hf] at h
      obtain ⟨h1, h2⟩ := und_false h
      have hp : ∀ t, t < k + 1 → max sv 0 + T f a (a + t + 1) ≤ fare := fun t ht => by
        cases t with
        | zero => rw [Nat.add_zero, T_succ, T_self]; omega
        | succ t =>
          have := h1 t (by omega)
          rw [T_split f a (a + 1), T_succ, T_self, show a + (t + 1) + 1 = a + 1 + t + 1 by omega]
          omega
      refine ⟨hp, fun s t hst ht => ?_⟩
      cases s with
      | zero => have := hp t ht; rw [Nat.add_zero]; omega
      | succ s =>
        obtain ⟨t, rfl⟩ : ∃ q, t = q + 1 := ⟨t - 1, by omega⟩
        have := h2 s t (by omega) (by omega)
        rw [show a + (s + 1) = a + 1 + s by omega, show a + (t + 1) + 1 = a + 1 + t + 1 by omega]
        exact this
theorem und_of {fare : Int} {f : Nat → Int} : ∀ {k a : Nat} {sv : Int}, (∀ t, t < k → max sv 0 + T f a (a + t + 1) ≤ fare) → (∀ s t, s ≤ t → t < k → T f (a + s) (a + t + 1) ≤ fare) → undL fare f sv (List.range' a k) = false
  | 0, a, sv, _, _ => rfl
  | k + 1, a, sv, h1, h2 => by
    rw [List.range'_succ]
    unfold undL
    have h0 := h1 0 (by omega)
    rw [Nat.add_zero, T_succ, T_self] at h0
    rw [if_neg (by omega)]
    refine und_of (fun t ht => ?_) fun s t hst ht => ?_
    · have q1 := h1 (t + 1) (by omega)
      have q2 := h2 1 (t + 1) (by omega) (by omega)
      rw [T_split f a (a + 1), T_succ, T_self, show a + (t + 1) + 1 = a + 1 + t + 1 by omega] at q1
      rw [show a + (t + 1) + 1 = a + 1 + t + 1 by omega] at q2
      omega
    · have := h2 (s + 1) (t + 1) (by omega) (by omega)
      rw [show a + (s + 1) = a + 1 + s by omega, show a + (t + 1) + 1 = a + 1 + t + 1 by omega] at this
      exact this
theorem T_sub (f g : Nat → Int) (s : Nat) : ∀ n, s ≤ n → T (fun v => f v - g v) s n = T f s n - T g s n
  | 0, h => by obtain rfl : s = 0 := by omega
               rw [T_self, T_self, T_self]; rfl
  | n + 1, h => by
    by_cases e : s = n + 1
    · subst e; rw [T_self, T_self, T_self]; rfl
    · rw [T_succ, T_succ, T_succ, T_sub f g s n (by omega)]; omega
theorem T_diff (D : Nat → Int) (s : Nat) : ∀ n, s ≤ n → T (fun v => D (v + 1) - D v) s n = D n - D s
  | 0, h => by obtain rfl : s = 0 := by omega
               rw [T_self]; omega
  | n + 1, h => by
    by_cases e : s = n + 1
    · subst e; rw [T_self]; omega
    · rw [T_succ, T_diff D s n (by omega)]; omega
/-- Days one after the other cost no less by their prices. -/
theorem low_run {b : Barn} (ok : b.Ok) {D : Nat → Int} {n : Nat} (h : Low b D n) {i : Nat} : ∀ (k s : Nat), s + k ≤ n → (∀ v, s ≤ v → v < s + k → b.can i v = true) → D (s + k) - D s - T (b.g i) s (s + k) ≤ b.fare i
  | 0, s, _, _ => by
    have := ok.fare0 i
    rw [Nat.add_zero, T_self]; omega
  | k + 1, s, hn, hc => by
    by_cases h0 : b.need (s + k) = 0
    · have h1 := low_run ok h k s (by omega) fun v q1 q2 => hc v q1 (by omega)
      have h2 := h.none (s + k) (by omega) h0
      rw [show s + (k + 1) = (s + k) + 1 by omega, T_succ, ok.g0 i _ h0]; omega
    · by_cases hs : b.need s = 0
      · cases k with
        | zero => exact absurd hs h0
        | succ k =>
          have h1 := low_run ok h (k + 1) (s + 1) (by omega) fun v q1 q2 => hc v (by omega) (by omega)
          have h2 := h.none s (by omega) hs
          rw [T_split (b.g i) s (s + 1), T_succ, T_self, ok.g0 i s hs]
          rw [show s + (k + 1 + 1) = s + 1 + (k + 1) by omega]
          omega
      · have := h.run s (s + k) i (by omega) (by omega) h0 hs fun v q1 q2 _ => hc v q1 (by omega)
        rw [show s + (k + 1) = (s + k) + 1 by omega]
        omega
termination_by k s => k
/-- Prices that nothing undercuts. -/
theorem low_of {b : Barn} (ok : b.Ok) {p : Nat → Int} {n : Nat} (h0 : ∀ t, t < n → b.need t = 0 → p t = 0) (h : ∀ i s t, s ≤ t → t < n → (∀ v, s ≤ v → v ≤ t → b.can i v = true) → T (fun v => p v - b.g i v) s (t + 1) ≤ b.fare i) : Low b (S p) n := by
  refine ⟨by show (0 : Int) ≤ 0; omega, fun t ht hn => ?_, fun s t i hst ht hnt hns hc => ?_⟩
  · show S p t + p t ≤ S p t
    rw [h0 t ht hn]; omega
  · have hcs := hc s (by omega) hst hns
    have hct := hc t hst (by omega) hnt
    have := h i s t hst ht fun v h1 h2 => ok.mid i t v hct (by have := ok.le _ _ hcs; omega) h2
    rw [T_sub _ _ _ _ (by omega)] at this
    rw [S_T p s (t + 1)]
    omega
end Go.Proofs.YtolgomkmilbkgaaGreat.Gr

