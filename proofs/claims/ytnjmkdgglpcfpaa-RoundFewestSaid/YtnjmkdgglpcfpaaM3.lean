import Derived.Test.YtnjmkdgglpcfpaaA49
import Derived.Test.YtnjmkdgglpcfpaaC1
namespace Go.Proofs.Ytnjmkdgglpcfpaa
set_option linter.unusedVariables false

/-- what every house keeps -/
structure Dims (C B F : Int) : Prop where
  c1 : 1 ≤ C
  b0 : 0 ≤ B
  f0 : 0 ≤ F
  bf : F < C - B
theorem emod_of {C c k x : Int} (h0 : 0 ≤ c) (h1 : c < C) (h : x = c + C * k) : x % C = c := by
  rw [h, Int.add_mul_emod_self_left, Int.emod_eq_of_lt h0 h1]
theorem mod3 {C x : Int} (h0 : -C ≤ x) (h1 : x < 2 * C) : x % C = if x < 0 then x + C else if x < C then x else x - C := by
  split
  · exact emod_of (k := -1) (by omega) (by omega) (by omega)
  · split
    · exact Int.emod_eq_of_lt (by omega) (by omega)
    · exact emod_of (k := 1) (by omega) (by omega) (by omega)
/-- how far to the right of a stand a column lies -/
def offs (C s x : Int) : Int := (x - s) % C
/-- x is a column behind what s reaches -/
structure Bh (C B F s x : Int) : Prop where
  lo : 0 ≤ x
  hi : x < C
  right : F + 1 ≤ offs C s x
  left : offs C s x ≤ C - B - 1
theorem rch_iff {C B F s c : Int} : rch C B F s c = true ↔ (c + (B - s)) % C ≤ B + F := by simp [rch]
theorem bh_iff {C B F s x : Int} (h : Dims C B F) (s0 : 0 ≤ s) (s1 : s < C) (x0 : 0 ≤ x) (x1 : x < C) : Bh C B F s x ↔ rch C B F s x = false := by
  obtain ⟨h1, h2, h3, h4⟩ := h
  have e : rch C B F s x = false ↔ ¬ (x + (B - s)) % C ≤ B + F := by rw [← rch_iff]; simp
  rw [e, mod3 (by omega) (by omega)]
  have ho : offs C s x = _ := mod3 (C := C) (x := x - s) (by omega) (by omega)
  constructor
  · rintro ⟨_, _, h5, h6⟩
    rw [ho] at h5 h6
    revert h5 h6
    split <;> split <;> (try split) <;> (try split) <;> omega
  · intro h5
    refine ⟨x0, x1, ?_, ?_⟩ <;> rw [ho] <;> revert h5 <;> split <;> split <;> (try split) <;> (try split) <;> omega
/-- what lies further behind s is that much further from any stand that reaches what lies before it -/
theorem between {C B F s a b t : Int} (h : Dims C B F) (ha : Bh C B F s a) (hb : Bh C B F s b) (hab : offs C s a ≤ offs C s b) (hr : rch C B F t a = true) :
    (b + (B - t)) % C = (a + (B - t)) % C + (offs C s b - offs C s a) := by
  obtain ⟨h1, h2, h3, h4⟩ := h
  have hr := rch_iff.1 hr
  have a1 := ha.right
  have b1 := hb.left
  have n0 := Int.emod_nonneg (a + (B - t)) (b := C) (by omega)
  have e1 := Int.emod_add_mul_ediv (a + (B - t)) C
  have e2 := Int.emod_add_mul_ediv (a - s) C
  have e3 := Int.emod_add_mul_ediv (b - s) C
  unfold offs at *
  refine emod_of (k := (a + (B - t)) / C + ((b - s) / C - (a - s) / C)) (by omega) (by omega) ?_
  rw [Int.mul_add, Int.mul_sub]
  omega
theorem between_rch {C B F s a b c t : Int} (h : Dims C B F) (ha : Bh C B F s a) (hb : Bh C B F s b) (hc : Bh C B F s c) (hab : offs C s a ≤ offs C s b) (hbc : offs C s b ≤ offs C s c)
    (h5 : rch C B F t a = true) (h6 : rch C B F t c = true) : rch C B F t b = true := by
  have e1 := between h ha hb hab h5
  have e2 := between h ha hc (Int.le_trans hab hbc) h5
  rw [rch_iff] at *
  omega

theorem farN_spec (C : Int) (p : Nat → Bool) (c : Int) : ∀ (k : Nat) (n : Int), n - k ≤ farN C p c n k ∧ farN C p c n k ≤ n ∧ (∀ m, farN C p c n k < m → m ≤ n → p ((c + m) % C).toNat = true) ∧ (farN C p c n k = n - k ∨ p ((c + farN C p c n k) % C).toNat = false)
  | 0, n => by simp [farN]; omega
  | k + 1, n => by
    unfold farN
    obtain ⟨h1, h2, h3, h4⟩ := farN_spec C p c k (n - 1)
    split
    · rename_i hp
      refine ⟨by omega, by omega, fun m hm hn => ?_, ?_⟩
      · by_cases hmn : m = n
        · rw [hmn]; exact hp
        · exact h3 m hm (by omega)
      · rcases h4 with h4 | h4
        · exact .inl (by omega)
        · exact .inr h4
    · rename_i hp
      exact ⟨by omega, by omega, fun m hm hn => by omega, .inr (by simpa using hp)⟩
/-- a stand, open -/
structure Op (C : Int) (p : Nat → Bool) (t : Int) : Prop where
  lo : 0 ≤ t
  hi : t < C
  open' : p t.toNat = false
theorem far_spec {C B F c t : Int} {p : Nat → Bool} (h : Dims C B F) (_c0 : 0 ≤ c) (_c1 : c < C) (ht : Op C p t) (hr : rch C B F t c = true) :
    Op C p (far C B F p c) ∧ (c + (B - far C B F p c)) % C ≤ (c + (B - t)) % C := by
  obtain ⟨h1, h2, h3, h4⟩ := h
  have hr := rch_iff.1 hr
  have n0 := Int.emod_nonneg (c + (B - t)) (b := C) (by omega)
  obtain ⟨f1, f2, f3, f4⟩ := farN_spec C p c (B + F).toNat B
  have hD : ∃ D, D = (c + (B - t)) % C := ⟨_, rfl⟩
  obtain ⟨D, hD⟩ := hD
  have ht' : (c + (B - D)) % C = t := by
    have e1 := Int.emod_add_mul_ediv (c + (B - t)) C
    exact emod_of (k := (c + (B - t)) / C) ht.lo ht.hi (by omega)
  have hf : B - D ≤ farN C p c B (B + F).toNat := by
    apply Classical.byContradiction
    intro hn
    have := f3 (B - D) (by omega) (by omega)
    rw [ht', ht.open'] at this
    cases this
  unfold far
  generalize farN C p c B (B + F).toNat = f at *
  have g0 := Int.emod_nonneg (c + f) (b := C) (by omega)
  have g1 := Int.emod_lt_of_pos (c + f) (b := C) (by omega)
  have e2 := Int.emod_add_mul_ediv (c + f) C
  have hfar : (c + (B - (c + f) % C)) % C = B - f := emod_of (k := (c + f) / C) (by omega) (by omega) (by omega)
  refine ⟨⟨g0, g1, ?_⟩, by omega⟩
  rcases f4 with f4 | f4
  · have : f = B - D := by omega
    rw [this, ht', ht.open']
  · exact f4
/-- the farthest reaches all that any other one reaches behind -/
theorem far_max {C B F s c x t : Int} {p : Nat → Bool} (h : Dims C B F) (hc : Bh C B F s c) (hx : Bh C B F s x) (hcx : offs C s c ≤ offs C s x) (ht : Op C p t) (hr : rch C B F t c = true) (hrx : rch C B F t x = true) :
    rch C B F (far C B F p c) x = true := by
  obtain ⟨h1, h2⟩ := far_spec h hc.lo hc.hi ht hr
  have hfc : rch C B F (far C B F p c) c = true := rch_iff.2 (Int.le_trans h2 (rch_iff.1 hr))
  have e1 := between h hc hx hcx hr
  have e2 := between h hc hx hcx hfc
  rw [rch_iff] at *
  omega

/-- things each of which needs another one of S -/
theorem pigeon {α : Type} (R : Int → α → Prop) : ∀ (ch : List α) (S : List Int), (∀ c ∈ ch, ∃ t ∈ S, R t c) → ch.Pairwise (fun c c' => ∀ t ∈ S, ¬ (R t c ∧ R t c')) → ch.length ≤ S.length
  | [], _, _, _ => by simp
  | c :: ch, S, h1, h2 => by
    obtain ⟨t, ht, hR⟩ := h1 c (by simp)
    have h2' := List.pairwise_cons.1 h2
    have := pigeon R ch (S.erase t) (fun c' hc' => by
      obtain ⟨u, hu, hRu⟩ := h1 c' (by simp [hc'])
      refine ⟨u, (List.mem_erase_of_ne ?_).2 hu, hRu⟩
      rintro rfl
      exact h2'.1 c' hc' u ht ⟨hR, hRu⟩) (h2'.2.imp fun hcc u hu => hcc u (List.mem_of_mem_erase hu))
    have hl := List.length_erase_of_mem ht
    have : 0 < S.length := List.length_pos_of_mem ht
    simp only [List.length_cons]
    omega

/-- no open stand reaches both -/
def Apart (C B F : Int) (p : Nat → Bool) (a b : Int) : Prop := ∀ t, Op C p t → ¬ (rch C B F t a = true ∧ rch C B F t b = true)

theorem greedy {C B F s : Int} {p : Nat → Bool} (h : Dims C B F) : ∀ (r pre : List Int), r.reverse = pre → (∀ x ∈ pre, Bh C B F s x) → pre.Pairwise (fun a b => offs C s a ≤ offs C s b) → (∀ x ∈ pre, ∃ t, Op C p t ∧ rch C B F t x = true) →
    ∃ ch, ch.length = (pre.foldl (aft C B F p) []).length ∧ (∀ c ∈ ch, c ∈ pre) ∧ (∀ t ∈ pre.foldl (aft C B F p) [], Op C p t) ∧ (∀ x ∈ pre, ∃ t ∈ pre.foldl (aft C B F p) [], rch C B F t x = true) ∧ ch.Pairwise (Apart C B F p) ∧
      ((pre.foldl (aft C B F p) [] = [] ∧ ch = []) ∨ ∃ c, c ∈ ch ∧ (∀ a ∈ ch, offs C s a ≤ offs C s c) ∧ (pre.foldl (aft C B F p) []).getLast? = some (far C B F p c))
  | [], pre, e, _, _, _ => by
    subst e
    exact ⟨[], by simp⟩
  | x :: r, pre, e, hb, ho, hop => by
    rw [List.reverse_cons] at e
    subst e
    have ho' := List.pairwise_append.1 ho
    obtain ⟨ch, i1, i2, i3, i4, i5, i6⟩ := greedy h r r.reverse rfl (fun y hy => hb y (by simp at hy ⊢; exact .inl hy)) ho'.1 (fun y hy => hop y (by simp at hy ⊢; exact .inl hy))
    rw [List.foldl_append, List.foldl_cons, List.foldl_nil]
    generalize r.reverse.foldl (aft C B F p) [] = st at *
    have hx := hb x (by simp)
    obtain ⟨t, ht, htr⟩ := hop x (by simp)
    obtain ⟨k1, k2⟩ := far_spec h hx.lo hx.hi ht htr
    have k3 : rch C B F (far C B F p x) x = true := rch_iff.2 (Int.le_trans k2 (rch_iff.1 htr))
    have hpx : ∀ y ∈ r.reverse, offs C s y ≤ offs C s x := fun y hy => ho'.2.2 y hy x (by simp)
    -- a new stand is taken
    have new : ch.Pairwise (Apart C B F p) → (∀ a ∈ ch, Apart C B F p a x) → ∃ ch', ch'.length = (st ++ [far C B F p x]).length ∧ (∀ c ∈ ch', c ∈ r.reverse ++ [x]) ∧ (∀ t ∈ st ++ [far C B F p x], Op C p t) ∧ (∀ y ∈ r.reverse ++ [x], ∃ t ∈ st ++ [far C B F p x], rch C B F t y = true) ∧ ch'.Pairwise (Apart C B F p) ∧
      ((st ++ [far C B F p x] = [] ∧ ch' = []) ∨ ∃ c, c ∈ ch' ∧ (∀ a ∈ ch', offs C s a ≤ offs C s c) ∧ (st ++ [far C B F p x]).getLast? = some (far C B F p c)) := fun j1 j2 => by
      refine ⟨ch ++ [x], by simp [i1], ?_, ?_, ?_, ?_, .inr ⟨x, by simp, ?_, by simp⟩⟩
      · intro c hc
        rcases List.mem_append.1 hc with hc | hc
        · exact List.mem_append.2 (.inl (i2 c hc))
        · exact List.mem_append.2 (.inr hc)
      · intro t ht
        rcases List.mem_append.1 ht with ht | ht
        · exact i3 t ht
        · rw [List.mem_singleton.1 ht]; exact k1
      · intro y hy
        rcases List.mem_append.1 hy with hy | hy
        · obtain ⟨t, h1, h2⟩ := i4 y hy
          exact ⟨t, List.mem_append.2 (.inl h1), h2⟩
        · rw [List.mem_singleton.1 hy]; exact ⟨_, List.mem_append.2 (.inr (by simp)), k3⟩
      · rw [List.pairwise_append]
        exact ⟨j1, List.pairwise_singleton _ _, fun a ha b hb => by rw [List.mem_singleton.1 hb]; exact j2 a ha⟩
      · intro a ha
        rcases List.mem_append.1 ha with ha | ha
        · exact hpx a (i2 a ha)
        · rw [List.mem_singleton.1 ha]; exact Int.le_refl _
    rcases i6 with ⟨rfl, rfl⟩ | ⟨c, hc, hcl, hl⟩
    · have : aft C B F p [] x = [] ++ [far C B F p x] := rfl
      rw [this]
      exact new i5 (by simp)
    · have ea : aft C B F p st x = if rch C B F (far C B F p c) x then st else st ++ [far C B F p x] := by unfold aft; rw [hl]
      rw [ea]
      have hcb := hb c (List.mem_append.2 (.inl (i2 c hc)))
      by_cases hr : rch C B F (far C B F p c) x = true
      · rw [if_pos hr]
        refine ⟨ch, i1, fun a ha => List.mem_append.2 (.inl (i2 a ha)), i3, ?_, i5, .inr ⟨c, hc, hcl, hl⟩⟩
        intro y hy
        rcases List.mem_append.1 hy with hy | hy
        · exact i4 y hy
        · rw [List.mem_singleton.1 hy]
          exact ⟨_, List.mem_of_getLast? hl, hr⟩
      · rw [if_neg hr]
        refine new i5 fun a ha t ht ⟨h1, h2⟩ => hr ?_
        have hab := hb a (List.mem_append.2 (.inl (i2 a ha)))
        have hcx := hpx c (i2 c hc)
        have h3 := between_rch h hab hcb hx (hcl a ha) hcx h1 h2
        exact far_max h hcb hx hcx ht h3 h2
theorem offs_at {C F s : Int} {j : Int} (h0 : 0 ≤ F + 1 + j) (h1 : F + 1 + j < C) : offs C s ((s + (F + 1 + j)) % C) = F + 1 + j := by
  unfold offs
  rw [Int.emod_sub_emod, show s + (F + 1 + j) - s = F + 1 + j by omega]
  exact Int.emod_eq_of_lt h0 h1
theorem bhTo_mem {C B F s x : Int} {q : Nat → Bool} (h : Dims C B F) : x ∈ bhTo C F q s (bhK C B F) ↔ Bh C B F s x ∧ q x.toNat = true := by
  obtain ⟨h1, h2, h3, h4⟩ := h
  unfold bhTo bhK
  simp only [List.mem_filter, List.mem_map, List.mem_range]
  constructor
  · rintro ⟨⟨j, hj, rfl⟩, hq⟩
    refine ⟨⟨Int.emod_nonneg _ (by omega), Int.emod_lt_of_pos _ (by omega), ?_, ?_⟩, hq⟩ <;> rw [offs_at (by omega) (by omega)] <;> omega
  · rintro ⟨⟨x0, x1, x2, x3⟩, hq⟩
    refine ⟨⟨(offs C s x - F - 1).toNat, by omega, ?_⟩, hq⟩
    have e := Int.emod_add_mul_ediv (x - s) C
    refine emod_of (k := -((x - s) / C)) x0 x1 ?_
    unfold offs at *
    rw [Int.mul_neg]
    omega
theorem bhTo_ord {C B F s : Int} {q : Nat → Bool} (h : Dims C B F) : (bhTo C F q s (bhK C B F)).Pairwise (fun a b => offs C s a ≤ offs C s b) := by
  obtain ⟨h1, h2, h3, h4⟩ := h
  unfold bhTo bhK
  refine List.Pairwise.filter _ ?_
  rw [List.pairwise_map]
  refine List.Pairwise.imp_of_mem ?_ List.pairwise_lt_range
  intro i j hi hj hij
  have := List.mem_range.1 hi
  have := List.mem_range.1 hj
  rw [offs_at (by omega) (by omega), offs_at (by omega) (by omega)]
  omega
/-- what the greedy walk behind s has -/
theorem afters_spec {C B F s : Int} {p q : Nat → Bool} (h : Dims C B F) (hop : ∀ x, Bh C B F s x → q x.toNat = true → ∃ t, Op C p t ∧ rch C B F t x = true) :
    ∃ ch : List Int, ch.length = (afters C B F p q s).length ∧ (∀ c ∈ ch, Bh C B F s c ∧ q c.toNat = true) ∧ (∀ t ∈ afters C B F p q s, Op C p t) ∧ (∀ x, Bh C B F s x → q x.toNat = true → ∃ t ∈ afters C B F p q s, rch C B F t x = true) ∧ ch.Pairwise (Apart C B F p) := by
  obtain ⟨ch, i1, i2, i3, i4, i5, _⟩ := greedy (s := s) (p := p) h _ (bhTo C F q s (bhK C B F)) (List.reverse_reverse _) (fun x hx => ((bhTo_mem h).1 hx).1) (bhTo_ord h) (fun x hx => hop x ((bhTo_mem h).1 hx).1 ((bhTo_mem h).1 hx).2)
  exact ⟨ch, i1, fun c hc => (bhTo_mem h).1 (i2 c hc), i3, fun x hx hq => i4 x ((bhTo_mem h).2 ⟨hx, hq⟩), i5⟩
/-- fewer don't reach what lies behind -/
theorem afters_least {C B F s : Int} {p q : Nat → Bool} (h : Dims C B F) (S : List Int) (hS : ∀ t ∈ S, Op C p t) (hc : ∀ x, Bh C B F s x → q x.toNat = true → ∃ t ∈ S, rch C B F t x = true) : (afters C B F p q s).length ≤ S.length := by
  obtain ⟨ch, i1, i2, i3, i4, i5⟩ := afters_spec (p := p) (q := q) h (s := s) fun x hx hq => by
    obtain ⟨t, ht, hr⟩ := hc x hx hq
    exact ⟨t, hS t ht, hr⟩
  rw [← i1]
  refine pigeon (fun t c => rch C B F t c = true) ch S (fun c hc' => hc c (i2 c hc').1 (i2 c hc').2) ?_
  exact i5.imp fun hab t ht => hab t (hS t ht)
/-- stands that reach all that is wanted -/
structure Cov (C B F : Int) (p q : Nat → Bool) (S : List Int) : Prop where
  op : ∀ t ∈ S, Op C p t
  all : ∀ x : Int, 0 ≤ x → x < C → q x.toNat = true → ∃ t ∈ S, rch C B F t x = true
theorem cov_after {C B F s : Int} {p q : Nat → Bool} (h : Dims C B F) {S : List Int} (hc : Cov C B F p q S) (hs : s ∈ S) : 1 + (afters C B F p q s).length ≤ S.length := by
  have hso := hc.op s hs
  have := afters_least (s := s) (p := p) (q := q) h (S.erase s) (fun t ht => hc.op t (List.mem_of_mem_erase ht)) fun x hx hq => by
    obtain ⟨t, ht, hr⟩ := hc.all x hx.lo hx.hi hq
    refine ⟨t, (List.mem_erase_of_ne ?_).2 ht, hr⟩
    rintro rfl
    have := (bh_iff h hso.lo hso.hi hx.lo hx.hi).1 hx
    rw [hr] at this
    cases this
  have hl := List.length_erase_of_mem hs
  have : 0 < S.length := List.length_pos_of_mem hs
  omega
theorem after_cov {C B F s : Int} {p q : Nat → Bool} (h : Dims C B F) (hs : Op C p s) (hop : ∀ x : Int, 0 ≤ x → x < C → q x.toNat = true → ∃ t, Op C p t ∧ rch C B F t x = true) : Cov C B F p q (afters C B F p q s ++ [s]) := by
  obtain ⟨ch, i1, i2, i3, i4, i5⟩ := afters_spec (s := s) (p := p) (q := q) h fun x hx hq => hop x hx.lo hx.hi hq
  refine ⟨fun t ht => ?_, fun x x0 x1 hq => ?_⟩
  · rcases List.mem_append.1 ht with ht | ht
    · exact i3 t ht
    · rw [List.mem_singleton.1 ht]; exact hs
  · cases hr : rch C B F s x with
    | true => exact ⟨s, by simp, hr⟩
    | false =>
      obtain ⟨t, ht, hr⟩ := i4 x ((bh_iff h hs.lo hs.hi x0 x1).2 hr) hq
      exact ⟨t, List.mem_append.2 (.inl ht), hr⟩
theorem opens_iff {C B F c t : Int} {p : Nat → Bool} : t ∈ opens C B F p c ↔ Op C p t ∧ rch C B F t c = true := by
  unfold opens
  rw [colsTo_mem]
  constructor
  · rintro ⟨i, hi, hp, rfl⟩
    simp only [Bool.and_eq_true, Bool.not_eq_true'] at hp
    exact ⟨⟨by omega, by omega, by simpa using hp.1⟩, hp.2⟩
  · rintro ⟨⟨h1, h2, h3⟩, h4⟩
    refine ⟨t.toNat, by omega, ?_, by omega⟩
    rw [Int.toNat_of_nonneg h1, h3, h4]
    rfl
theorem cols_iff {q : Nat → Bool} {C x : Int} (h2 : C ≤ 120) (hq : ∀ i, q i = true → (i : Int) < C) : x ∈ cols q ↔ 0 ≤ x ∧ x < C ∧ q x.toNat = true := by
  unfold cols
  rw [colsTo_mem]
  constructor
  · rintro ⟨i, hi, hp, rfl⟩
    exact ⟨by omega, hq i hp, by simpa using hp⟩
  · rintro ⟨h1, h3, h4⟩
    exact ⟨x.toNat, by omega, h4, by omega⟩
theorem leastGo_le (cost : Int → Int) : ∀ (l : List Int) (best low : Int), low = cost best → cost (leastGo cost best low l) ≤ low ∧ ∀ x ∈ l, cost (leastGo cost best low l) ≤ cost x
  | [], best, low, h => by simp [leastGo, h]
  | t :: l, best, low, h => by
    unfold leastGo
    split
    · obtain ⟨h1, h2⟩ := leastGo_le cost l t (cost t) rfl
      refine ⟨by omega, fun x hx => ?_⟩
      rcases List.mem_cons.1 hx with rfl | hx
      · exact h1
      · exact h2 x hx
    · obtain ⟨h1, h2⟩ := leastGo_le cost l best low h
      refine ⟨h1, fun x hx => ?_⟩
      rcases List.mem_cons.1 hx with rfl | hx
      · omega
      · exact h2 x hx
theorem leastOf_le (cost : Int → Int) {l : List Int} {x : Int} (h : x ∈ l) : cost (leastOf cost l) ≤ cost x := by
  match l, h with
  | y :: l, h =>
    obtain ⟨h1, h2⟩ := leastGo_le cost l y (cost y) rfl
    rcases List.mem_cons.1 h with rfl | h
    · exact h1
    · exact h2 x h
/-- a fewest round: it reaches all, it rises, and no round has fewer stands -/
structure Best (C B F : Int) (p q : Nat → Bool) (L : List Int) : Prop where
  cov : Cov C B F p q L
  rise : L.Pairwise (· < ·)
  least : ∀ S, Cov C B F p q S → L.length ≤ S.length
theorem few_none {C B F : Int} {p q : Nat → Bool} (h2 : C ≤ 120) (hq : ∀ i, q i = true → (i : Int) < C) (hf : fewL C B F p q = none) (S : List Int) : ¬ Cov C B F p q S := by
  intro hS
  unfold fewL at hf
  split at hf
  · cases hf
  · rename_i c l hcl
    split at hf
    · cases hf
    · rename_i hn
      apply hn
      rw [List.all_eq_true]
      intro x hx
      rw [← hcl, cols_iff h2 hq] at hx
      obtain ⟨t, ht, hr⟩ := hS.all x hx.1 hx.2.1 hx.2.2
      have : t ∈ opens C B F p x := opens_iff.2 ⟨hS.op t ht, hr⟩
      cases ho : opens C B F p x with
      | nil => rw [ho] at this; cases this
      | cons a b => rfl
/-- the first column that is wanted, and what a fewest round is there -/
theorem few_first {C B F c : Int} {p q : Nat → Bool} {l L : List Int} (h : Dims C B F) (h2 : C ≤ 120) (hq : ∀ i, q i = true → (i : Int) < C) (hc : cols q = c :: l) (hf : fewL C B F p q = some L) :
    (∀ x : Int, 0 ≤ x → x < C → q x.toNat = true → ∃ t, Op C p t ∧ rch C B F t x = true) ∧ (0 ≤ c ∧ c < C ∧ q c.toNat = true) ∧ L = srt (rawOf C B F p q c) ∧ firstOf C B F p q c ∈ opens C B F p c ∧ Cov C B F p q (rawOf C B F p q c) ∧ (∀ S, Cov C B F p q S → (rawOf C B F p q c).length ≤ S.length) := by
  unfold fewL at hf
  rw [hc] at hf
  simp only at hf
  split at hf
  · rename_i hall
    rw [List.all_eq_true] at hall
    have hop : ∀ x : Int, 0 ≤ x → x < C → q x.toNat = true → ∃ t, Op C p t ∧ rch C B F t x = true := by
      intro x x0 x1 hx
      have hm : x ∈ c :: l := by rw [← hc]; exact (cols_iff h2 hq).2 ⟨x0, x1, hx⟩
      have := hall x hm
      cases ho : opens C B F p x with
      | nil => rw [ho] at this; cases this
      | cons a b => exact ⟨a, opens_iff.1 (by rw [ho]; simp)⟩
    have hcm : 0 ≤ c ∧ c < C ∧ q c.toNat = true := (cols_iff h2 hq).1 (by rw [hc]; simp)
    have hne : opens C B F p c ≠ [] := by
      obtain ⟨t, ht, hr⟩ := hop c hcm.1 hcm.2.1 hcm.2.2
      intro e
      have : t ∈ opens C B F p c := opens_iff.2 ⟨ht, hr⟩
      rw [e] at this
      cases this
    have hfm : firstOf C B F p q c ∈ opens C B F p c := leastOf_mem _ hne
    refine ⟨hop, hcm, (Option.some.inj hf).symm, hfm, after_cov h (opens_iff.1 hfm).1 hop, fun S hS => ?_⟩
    obtain ⟨t, ht, hr⟩ := hS.all c hcm.1 hcm.2.1 hcm.2.2
    have h5 := cov_after h hS ht
    have h6 := leastOf_le (costOf C B F p q) (opens_iff.2 ⟨hS.op t ht, hr⟩)
    have h7 : costOf C B F p q (firstOf C B F p q c) ≤ costOf C B F p q t := h6
    unfold costOf at h7
    unfold rawOf
    rw [List.length_append, List.length_singleton]
    omega
  · cases hf
theorem cov_perm {C B F : Int} {p q : Nat → Bool} {S T : List Int} (hS : Cov C B F p q S) (h : ∀ x, x ∈ S ↔ x ∈ T) : Cov C B F p q T :=
  ⟨fun t ht => hS.op t ((h t).2 ht), fun x x0 x1 hx => by obtain ⟨t, ht, hr⟩ := hS.all x x0 x1 hx; exact ⟨t, (h t).1 ht, hr⟩⟩
theorem erase_dup {l : List Int} (h : ¬ l.Nodup) : ∃ m : List Int, m.length < l.length ∧ ∀ x, x ∈ l ↔ x ∈ m := by
  induction l with
  | nil => exact absurd List.nodup_nil h
  | cons a l ih =>
    by_cases ha : a ∈ l
    · exact ⟨l, by simp, fun x => by simp only [List.mem_cons]; exact ⟨fun h => h.elim (fun e => e ▸ ha) id, .inr⟩⟩
    · obtain ⟨m, h1, h2⟩ := ih fun hn => h (List.nodup_cons.2 ⟨ha, hn⟩)
      exact ⟨a :: m, by simp; exact h1, fun x => by simp [h2 x]⟩
theorem few_some {C B F : Int} {p q : Nat → Bool} {L : List Int} (h : Dims C B F) (h2 : C ≤ 120) (hq : ∀ i, q i = true → (i : Int) < C) (hf : fewL C B F p q = some L) : Best C B F p q L := by
  cases hc : cols q with
  | nil =>
    have : L = [] := by unfold fewL at hf; rw [hc] at hf; simpa using hf.symm
    subst this
    refine ⟨⟨by simp, fun x x0 x1 hx => ?_⟩, List.Pairwise.nil, fun S _ => by simp⟩
    have : x ∈ cols q := (cols_iff h2 hq).2 ⟨x0, x1, hx⟩
    rw [hc] at this
    cases this
  | cons c l =>
    obtain ⟨hop, hcm, rfl, hfm, hcov, hmin⟩ := few_first h h2 hq hc hf
    have hp := srt_perm (rawOf C B F p q c)
    refine ⟨cov_perm hcov fun x => (hp.mem_iff).symm, srt_rise ?_, fun S hS => by rw [srt_len]; exact hmin S hS⟩
    apply Classical.byContradiction
    intro hn
    obtain ⟨m, h3, h4⟩ := erase_dup hn
    have := hmin m (cov_perm hcov h4)
    omega
end Go.Proofs.Ytnjmkdgglpcfpaa

namespace Go.Proofs.Ytnjmkdgglpcfpaa
set_option linter.unusedVariables false
set_option linter.unusedSimpArgs false

theorem op_shut {C x t : Int} {p : Nat → Bool} : Op C (fun i => if (i : Int) = x then true else p i) t ↔ Op C p t ∧ t ≠ x := by
  constructor
  · rintro ⟨h1, h2, h3⟩
    by_cases hx : ((t.toNat : Nat) : Int) = x
    · rw [if_pos hx] at h3; cases h3
    · rw [if_neg hx] at h3
      exact ⟨⟨h1, h2, h3⟩, by omega⟩
  · rintro ⟨⟨h1, h2, h3⟩, h4⟩
    refine ⟨h1, h2, ?_⟩
    rw [if_neg (by omega)]
    exact h3
theorem cov_shut {C B F x : Int} {p q : Nat → Bool} {S : List Int} : Cov C B F (fun i => if (i : Int) = x then true else p i) q S ↔ Cov C B F p q S ∧ x ∉ S := by
  constructor
  · rintro ⟨h1, h2⟩
    exact ⟨⟨fun t ht => (op_shut.1 (h1 t ht)).1, h2⟩, fun hx => (op_shut.1 (h1 x hx)).2 rfl⟩
  · rintro ⟨⟨h1, h2⟩, h3⟩
    exact ⟨fun t ht => op_shut.2 ⟨h1 t ht, fun e => h3 (e ▸ ht)⟩, h2⟩
theorem best_len {C B F : Int} {p q : Nat → Bool} {L M : List Int} (h1 : Best C B F p q L) (h2 : Best C B F p q M) : L.length = M.length :=
  Nat.le_antisymm (h1.least _ h2.cov) (h2.least _ h1.cov)

theorem needed_iff {C B F x : Int} {p q : Nat → Bool} {L : List Int} (h : Dims C B F) (h2 : C ≤ 120) (hq : ∀ i, q i = true → (i : Int) < C) (hf : fewL C B F p q = some L) :
    x ∈ L.filter (neededP C B F p q L.length) ↔ ∀ S, Cov C B F p q S → S.length ≤ L.length → x ∈ S := by
  have hb := few_some h h2 hq hf
  rw [List.mem_filter]
  constructor
  · rintro ⟨hx, hn⟩ S hS hl
    apply Classical.byContradiction
    intro hxS
    have hc := (cov_shut (x := x)).2 ⟨hS, hxS⟩
    unfold neededP at hn
    split at hn
    · rename_i hno
      exact few_none h2 hq hno S hc
    · rename_i l hso
      have := (few_some h h2 hq hso).least S hc
      have := of_decide_eq_true hn
      omega
  · intro hall
    refine ⟨hall L hb.cov (Nat.le_refl _), ?_⟩
    unfold neededP
    split
    · rfl
    · rename_i l hso
      have hl := cov_shut.1 (few_some h h2 hq hso).cov
      refine decide_eq_true ?_
      apply Classical.byContradiction
      intro hn
      exact hl.2 (hall l hl.1 (by omega))
theorem useful_iff {C B F x : Int} {p q : Nat → Bool} {L : List Int} (h : Dims C B F) (h2 : C ≤ 120) (hq : ∀ i, q i = true → (i : Int) < C) (hf : fewL C B F p q = some L) :
    x ∈ colsTo (usefulP C B F p q L.length) C.toNat ↔ ∃ S, Cov C B F p q S ∧ S.length = L.length ∧ x ∈ S := by
  have hb := few_some h h2 hq hf
  rw [colsTo_mem]
  constructor
  · rintro ⟨i, hi, hu, rfl⟩
    unfold usefulP at hu
    simp only [Bool.and_eq_true, Bool.not_eq_true'] at hu
    have ho : Op C p (i : Int) := ⟨by omega, by omega, by simpa using hu.1⟩
    refine ⟨_, after_cov h ho fun y y0 y1 hy => ?_, ?_, by simp⟩
    · obtain ⟨t, ht, hr⟩ := hb.cov.all y y0 y1 hy
      exact ⟨t, hb.cov.op t ht, hr⟩
    · have := of_decide_eq_true hu.2
      rw [List.length_append, List.length_singleton]
      omega
  · rintro ⟨S, hS, hl, hx⟩
    have ho := hS.op x hx
    have h3 := ho.lo
    have h4 := ho.hi
    refine ⟨x.toNat, by omega, ?_, by omega⟩
    unfold usefulP
    rw [ho.open', Int.toNat_of_nonneg h3]
    have h5 := cov_after h hS hx
    have h6 := hb.least _ (after_cov (q := q) h ho fun y y0 y1 hy => by
      obtain ⟨t, ht, hr⟩ := hb.cov.all y y0 y1 hy
      exact ⟨t, hb.cov.op t ht, hr⟩)
    rw [List.length_append, List.length_singleton] at h6
    simp only [Bool.not_false, Bool.true_and]
    exact decide_eq_true (by omega)
/-- the columns without one of them -/
theorem less_lt {C x : Int} {q : Nat → Bool} (hq : ∀ i, q i = true → (i : Int) < C) : ∀ i : Nat, (fun i : Nat => if (i : Int) = x then false else q i) i = true → (i : Int) < C := by
  intro i hi
  dsimp only at hi
  split at hi
  · cases hi
  · exact hq i hi
theorem saves_iff {C B F x : Int} {p q : Nat → Bool} {L : List Int} (h : Dims C B F) (h2 : C ≤ 120) (hq : ∀ i, q i = true → (i : Int) < C) :
    x ∈ (cols q).filter (savesP C B F p q L.length) ↔ (0 ≤ x ∧ x < C ∧ q x.toNat = true) ∧ ∃ S, Cov C B F p (fun i => if (i : Int) = x then false else q i) S ∧ S.length < L.length := by
  rw [List.mem_filter, cols_iff h2 hq]
  refine and_congr_right fun _ => ?_
  unfold savesP
  constructor
  · intro hs
    split at hs
    · cases hs
    · rename_i l hso
      exact ⟨l, (few_some h h2 (less_lt hq) hso).cov, of_decide_eq_true hs⟩
  · rintro ⟨S, hS, hl⟩
    split
    · rename_i hno
      exact absurd hS (few_none h2 (less_lt hq) hno S)
    · rename_i l hso
      have := (few_some h h2 (less_lt hq) hso).least S hS
      exact decide_eq_true (by omega)

/-! turning -/
theorem rot_in {C n x : Int} (h : 1 ≤ C) : 0 ≤ (x + n) % C ∧ (x + n) % C < C := ⟨Int.emod_nonneg _ (by omega), Int.emod_lt_of_pos _ (by omega)⟩
theorem rot_rch {C B F n t x : Int} : rch C B F ((t + n) % C) ((x + n) % C) = rch C B F t x := by
  unfold rch
  have e : ((x + n) % C + (B - (t + n) % C)) % C = (x + (B - t)) % C := by
    have e1 := Int.emod_add_mul_ediv (x + n) C
    have e2 := Int.emod_add_mul_ediv (t + n) C
    have : (x + n) % C + (B - (t + n) % C) = x + (B - t) + C * ((t + n) / C - (x + n) / C) := by rw [Int.mul_sub]; omega
    rw [this, Int.add_mul_emod_self_left]
  rw [e]
/-- marks, turned by n -/
def RotM (C n : Int) (p p' : Nat → Bool) : Prop := ∀ x : Int, 0 ≤ x → x < C → p' ((x + n) % C).toNat = p x.toNat
theorem RotM.back {C n : Int} {p p' : Nat → Bool} (hC : 1 ≤ C) (h : RotM C n p p') : RotM C (-n) p' p := by
  intro y y0 y1
  obtain ⟨h0, h1⟩ := rot_in (C := C) (n := -n) (x := y) hC
  rw [← h _ h0 h1]
  have := mod_back (C := C) (x := y) (y := -n) (by omega) y0 y1
  rw [Int.neg_neg] at this
  rw [this]
theorem cov_rot {C B F n : Int} {p q p' q' : Nat → Bool} {S : List Int} (hC : 1 ≤ C) (hp : RotM C n p p') (hq : RotM C n q q') (hS : Cov C B F p q S) : Cov C B F p' q' (S.map fun x => (x + n) % C) := by
  refine ⟨fun t ht => ?_, fun y y0 y1 hy => ?_⟩
  · obtain ⟨s, hs, rfl⟩ := List.mem_map.1 ht
    have ho := hS.op s hs
    obtain ⟨h0, h1⟩ := rot_in (C := C) (n := n) (x := s) hC
    exact ⟨h0, h1, by rw [hp s ho.lo ho.hi]; exact ho.open'⟩
  · obtain ⟨h0, h1⟩ := rot_in (C := C) (n := -n) (x := y) hC
    have hb := hq.back hC y y0 y1
    rw [← hb] at hy
    obtain ⟨t, ht, hr⟩ := hS.all _ h0 h1 hy
    refine ⟨_, List.mem_map.2 ⟨t, ht, rfl⟩, ?_⟩
    have := mod_back (C := C) (x := y) (y := -n) (by omega) y0 y1
    rw [Int.neg_neg] at this
    rw [← rot_rch (n := n), this] at hr
    exact hr
theorem rot_back {C n x : Int} (hC : 1 ≤ C) (h0 : 0 ≤ x) (h1 : x < C) : ((x + n) % C + -n) % C = x := mod_back (by omega) h0 h1
theorem rot_forth {C n x : Int} (hC : 1 ≤ C) (h0 : 0 ≤ x) (h1 : x < C) : ((x + -n) % C + n) % C = x := by
  have := mod_back (C := C) (x := x) (y := -n) (by omega) h0 h1
  rwa [Int.neg_neg] at this
theorem few_rot {C B F n : Int} {p q p' q' : Nat → Bool} (h : Dims C B F) (h2 : C ≤ 120) (hp : RotM C n p p') (hq : RotM C n q q') (k : ∀ i, q i = true → (i : Int) < C) (k' : ∀ i, q' i = true → (i : Int) < C) :
    (fewL C B F p q = none ∧ fewL C B F p' q' = none) ∨ ∃ L L', fewL C B F p q = some L ∧ fewL C B F p' q' = some L' ∧ L.length = L'.length := by
  cases h3 : fewL C B F p q with
  | none =>
    cases h4 : fewL C B F p' q' with
    | none => exact .inl ⟨rfl, rfl⟩
    | some L' => exact absurd (cov_rot h.c1 (hp.back h.c1) (hq.back h.c1) (few_some h h2 k' h4).cov) (few_none h2 k h3 _)
  | some L =>
    cases h4 : fewL C B F p' q' with
    | none => exact absurd (cov_rot h.c1 hp hq (few_some h h2 k h3).cov) (few_none h2 k' h4 _)
    | some L' =>
      refine .inr ⟨L, L', rfl, rfl, ?_⟩
      have b1 := few_some h h2 k h3
      have b2 := few_some h h2 k' h4
      have e1 := b1.least _ (cov_rot h.c1 (hp.back h.c1) (hq.back h.c1) b2.cov)
      have e2 := b2.least _ (cov_rot h.c1 hp hq b1.cov)
      rw [List.length_map] at e1 e2
      omega
/-- lists of columns that rise, one the other one turned -/
theorem alike_of {C n : Int} {a b : List Int} (hC : 1 ≤ C) (ha : a.Pairwise (· < ·)) (hb : b.Pairwise (· < ·)) (ha1 : ∀ x ∈ a, 0 ≤ x ∧ x < C) (hb1 : ∀ x ∈ b, 0 ≤ x ∧ x < C)
    (hab : ∀ x, x ∈ a → (x + n) % C ∈ b) (hba : ∀ x, x ∈ b → (x + -n) % C ∈ a) : alikeB C n a b = true := by
  unfold alikeB
  rw [Bool.and_eq_true, List.all_eq_true]
  refine ⟨fun x hx => decide_eq_true (hab x hx), decide_eq_true ?_⟩
  have nd : ∀ {l : List Int}, l.Pairwise (· < ·) → l.Nodup := fun hl => hl.imp fun hxy => by omega
  have inj : ∀ {l m : List Int} {n : Int}, l.Nodup → (∀ x ∈ l, 0 ≤ x ∧ x < C) → (∀ x, x ∈ l → (x + n) % C ∈ m) → l.length ≤ m.length := by
    intro l m n hl hl1 hlm
    have hs : (l.map fun x => (x + n) % C).Nodup := by
      unfold List.Nodup
      rw [List.pairwise_map]
      refine List.Pairwise.imp_of_mem ?_ hl
      intro x y hx hy hxy e
      have h1 := rot_back (n := n) hC (hl1 x hx).1 (hl1 x hx).2
      have h2 := rot_back (n := n) hC (hl1 y hy).1 (hl1 y hy).2
      rw [e] at h1
      exact hxy (h1.symm.trans h2)
    have := hs.length_le_of_subset (l₂ := m) fun y hy => by
      obtain ⟨x, hx, rfl⟩ := List.mem_map.1 hy
      exact hlm x hx
    rwa [List.length_map] at this
  have h1 := inj (nd ha) ha1 hab
  have h2 := inj (nd hb) hb1 hba
  omega

end Go.Proofs.Ytnjmkdgglpcfpaa

namespace Go.Proofs.Ytnjmkdgglpcfpaa
set_option linter.unusedVariables false
set_option linter.unusedSimpArgs false

theorem Ok.dims {C R B F : Int} {cl : List Int} (h : Ok C R B F cl) : Dims C B F := ⟨by have := h.c3; omega, h.b0, h.f0, h.bf⟩
/-- a hole, turned -/
def mvf (C n x : Int) : Int := x / C * C + (x % C + n) % C
def mvs (C n : Int) (l : List Int) : List Int := l.map (mvf C n)
theorem mvs_len (C n : Int) (l : List Int) : (mvs C n l).length = l.length := by simp [mvs]
theorem mvf_in {C R n x : Int} (hC : 1 ≤ C) (h0 : 0 ≤ x) (h1 : x < C * R) (hR : C * R ≤ 1920) : 0 ≤ x / C * C ∧ x / C * C ≤ 1920 ∧ 0 ≤ mvf C n x ∧ mvf C n x < C * R ∧ mvf C n x % C = (x % C + n) % C := by
  obtain ⟨k0, k1⟩ := rot_in (C := C) (n := n) (x := x % C) hC
  have hd0 : 0 ≤ x / C := Int.ediv_nonneg h0 (by omega)
  have hd1 : x / C < R := Int.ediv_lt_of_lt_mul (by omega) (by rw [Int.mul_comm]; exact h1)
  have hp0 : 0 ≤ x / C * C := Int.mul_nonneg hd0 (by omega)
  have hp1 : x / C * C ≤ (R - 1) * C := Int.mul_le_mul_of_nonneg_right (by omega) (by omega)
  have hp2 : (R - 1) * C = C * R - C := by rw [Int.sub_mul, Int.mul_comm R C]; omega
  unfold mvf
  refine ⟨hp0, by omega, by omega, by omega, ?_⟩
  exact emod_of (k := x / C) k0 k1 (by rw [Int.mul_comm]; omega)
theorem turned_ok {C R B F n : Int} {cl : List Int} (h : Ok C R B F cl) : Ok C R B F (turnedL C cl n) := by
  have k1 := h.c3
  refine ⟨h.c3, h.c120, h.r1, h.r16, h.b0, h.f0, h.bf, ?_, ?_, ?_⟩
  · unfold turnedL; rw [srt_len, List.length_map]; exact h.len
  · rw [turned_same n h]; exact colsTo_rise _ _
  · intro y hy
    unfold turnedL at hy
    rw [(srt_perm _).mem_iff] at hy
    obtain ⟨c, hc, rfl⟩ := List.mem_map.1 hy
    exact rot_in (by omega)
theorem isIn_int {l : List Int} {x : Int} (h : 0 ≤ x) : isIn l x.toNat = decide (x ∈ l) := by
  unfold isIn
  rw [Int.toNat_of_nonneg h]
theorem rot_isIn {C n : Int} {l m : List Int} (hC : 1 ≤ C) (hl : ∀ x ∈ l, 0 ≤ x ∧ x < C) (h : ∀ y, y ∈ m ↔ ∃ c ∈ l, (c + n) % C = y) : RotM C n (isIn l) (isIn m) := by
  intro x x0 x1
  obtain ⟨k0, k1⟩ := rot_in (C := C) (n := n) (x := x) hC
  rw [isIn_int k0, isIn_int x0, decide_eq_decide, h]
  constructor
  · rintro ⟨c, hc, e⟩
    have e1 := rot_back (n := n) hC (hl c hc).1 (hl c hc).2
    rw [e, rot_back hC x0 x1] at e1
    rw [e1]
    exact hc
  · intro hx
    exact ⟨x, hx, rfl⟩
theorem turned_rot {C R B F n : Int} {cl : List Int} (h : Ok C R B F cl) : RotM C n (isIn cl) (isIn (turnedL C cl n)) := by
  have k1 := h.c3
  refine rot_isIn (by omega) h.rise.2 fun y => ?_
  unfold turnedL
  rw [(srt_perm _).mem_iff, List.mem_map]
theorem mvs_ok {C R B F n : Int} {cl l : List Int} (h : HolesOk C R B F cl l) : HolesOk C R B F (turnedL C cl n) (mvs C n l) := by
  refine ⟨turned_ok h.ok, by rw [mvs_len]; exact h.len, ?_⟩
  intro y hy
  obtain ⟨x, hx, rfl⟩ := List.mem_map.1 hy
  obtain ⟨_, _, h3, h4, _⟩ := mvf_in (n := n) (by have := h.ok.c3; omega) (h.all x hx).1 (h.all x hx).2 h.ok.holes
  exact ⟨h3, h4⟩
theorem colm_rot {C R B F n : Int} {cl l : List Int} (h : HolesOk C R B F cl l) : RotM C n (isIn (colm C l)) (isIn (colm C (mvs C n l))) := by
  have k1 := h.ok.c3
  refine rot_isIn (by omega) h.cols fun y => ?_
  unfold colm mvs
  rw [List.map_map, List.mem_map]
  simp only [List.mem_map, Function.comp_apply]
  constructor
  · rintro ⟨x, hx, rfl⟩
    obtain ⟨_, _, _, _, h5⟩ := mvf_in (n := n) (by omega) (h.all x hx).1 (h.all x hx).2 h.ok.holes
    exact ⟨_, ⟨x, hx, rfl⟩, h5.symm⟩
  · rintro ⟨c, ⟨x, hx, rfl⟩, rfl⟩
    obtain ⟨_, _, _, _, h5⟩ := mvf_in (n := n) (by omega) (h.all x hx).1 (h.all x hx).2 h.ok.holes
    exact ⟨x, hx, h5⟩
theorem isIn_lt {C : Int} {l : List Int} (h : ∀ x ∈ l, 0 ≤ x ∧ x < C) (i : Nat) (hi : isIn l i = true) : (i : Int) < C := (h _ (of_decide_eq_true hi)).2
/-- what 'find' finds, in words -/
theorem find_words {C R B F : Int} {cl l : List Int} (h : HolesOk C R B F cl l) :
    (fewL C B F (isIn cl) (isIn (colm C l)) = none ∧ findErr C R B F cl l = 5 ∧ findL C R B F cl l = []) ∨
    (fewL C B F (isIn cl) (isIn (colm C l)) = some (findL C R B F cl l) ∧ findErr C R B F cl l = 0) := by
  cases hf : fewL C B F (isIn cl) (isIn (colm C l)) with
  | none => exact .inl ⟨rfl, findErr_none h hf⟩
  | some L =>
    obtain ⟨e1, e2⟩ := findErr_some h hf
    exact .inr ⟨by rw [e2], e1⟩
/-- the lists that Needed, Useful and Saves hand back -/
def nedL (C R B F : Int) (cl l : List Int) : List Int := if findErr C R B F cl l = 0 then (findL C R B F cl l).filter (neededP C B F (isIn cl) (isIn (colm C l)) (findL C R B F cl l).length) else []
def useL (C R B F : Int) (cl l : List Int) : List Int := if findErr C R B F cl l = 0 then colsTo (usefulP C B F (isIn cl) (isIn (colm C l)) (findL C R B F cl l).length) C.toNat else []
def savL (C R B F : Int) (cl l : List Int) : List Int := if findErr C R B F cl l = 0 then (cols (isIn (colm C l))).filter (savesP C B F (isIn cl) (isIn (colm C l)) (findL C R B F cl l).length) else []
theorem need_lists {C R B F : Int} {cl l : List Int} (h : HolesOk C R B F cl l) (he : findErr C R B F cl l = 0) :
    (∀ x, x ∈ nedL C R B F cl l ↔ ∀ S, Cov C B F (isIn cl) (isIn (colm C l)) S → S.length ≤ (findL C R B F cl l).length → x ∈ S) ∧
    (∀ x, x ∈ useL C R B F cl l ↔ ∃ S, Cov C B F (isIn cl) (isIn (colm C l)) S ∧ S.length = (findL C R B F cl l).length ∧ x ∈ S) ∧
    (∀ x, x ∈ savL C R B F cl l ↔ (0 ≤ x ∧ x < C ∧ isIn (colm C l) x.toNat = true) ∧ ∃ S, Cov C B F (isIn cl) (fun i => if (i : Int) = x then false else isIn (colm C l) i) S ∧ S.length < (findL C R B F cl l).length) ∧
    Best C B F (isIn cl) (isIn (colm C l)) (findL C R B F cl l) := by
  rcases find_words h with ⟨_, e, _⟩ | ⟨hf, _⟩
  · rw [he] at e; cases e
  · unfold nedL useL savL
    rw [if_pos he, if_pos he, if_pos he]
    have hq := isIn_lt h.cols
    exact ⟨fun x => needed_iff h.ok.dims h.ok.c120 hq hf, fun x => useful_iff h.ok.dims h.ok.c120 hq hf, fun x => saves_iff h.ok.dims h.ok.c120 hq, few_some h.ok.dims h.ok.c120 hq hf⟩
theorem need_rise {C R B F : Int} {cl l : List Int} (h : HolesOk C R B F cl l) (he : findErr C R B F cl l = 0) :
    ((nedL C R B F cl l).Pairwise (· < ·) ∧ ∀ x ∈ nedL C R B F cl l, 0 ≤ x ∧ x < C) ∧ ((useL C R B F cl l).Pairwise (· < ·) ∧ ∀ x ∈ useL C R B F cl l, 0 ≤ x ∧ x < C) ∧ ((savL C R B F cl l).Pairwise (· < ·) ∧ ∀ x ∈ savL C R B F cl l, 0 ≤ x ∧ x < C) := by
  obtain ⟨h1, h2, h3, hb⟩ := need_lists h he
  refine ⟨⟨?_, fun x hx => ?_⟩, ⟨?_, fun x hx => ?_⟩, ⟨?_, fun x hx => ((h3 x).1 hx).1.imp_right And.left⟩⟩
  · unfold nedL; rw [if_pos he]; exact hb.rise.filter _
  · have := hb.cov.op x ((h1 x).1 hx _ hb.cov (Nat.le_refl _))
    exact ⟨this.lo, this.hi⟩
  · unfold useL; rw [if_pos he]; exact colsTo_rise _ _
  · obtain ⟨S, hS, _, hx⟩ := (h2 x).1 hx
    exact ⟨(hS.op x hx).lo, (hS.op x hx).hi⟩
  · unfold savL; rw [if_pos he]; exact (colsTo_rise _ _).filter _
theorem less_rot {C n x : Int} {q q' : Nat → Bool} (hC : 1 ≤ C) (h : RotM C n q q') (x0 : 0 ≤ x) (x1 : x < C) : RotM C n (fun i => if (i : Int) = x then false else q i) (fun i => if (i : Int) = (x + n) % C then false else q' i) := by
  intro y y0 y1
  obtain ⟨k0, k1⟩ := rot_in (C := C) (n := n) (x := y) hC
  dsimp only
  rw [Int.toNat_of_nonneg k0, Int.toNat_of_nonneg y0, h y y0 y1]
  by_cases e : y = x
  · rw [if_pos e, if_pos (by rw [e])]
  · rw [if_neg e, if_neg]
    intro e1
    have h1 := rot_back (n := n) hC y0 y1
    rw [e1, rot_back hC x0 x1] at h1
    exact e h1.symm
/-- needed, useful and saved are turned, where fewest rounds are as long -/
theorem need_turn {C R B F n : Int} {cl l cl' l' : List Int} (h : HolesOk C R B F cl l) (h' : HolesOk C R B F cl' l') (he : findErr C R B F cl l = 0) (he' : findErr C R B F cl' l' = 0) (hp : RotM C n (isIn cl) (isIn cl')) (hq : RotM C n (isIn (colm C l)) (isIn (colm C l')))
    (hn : (findL C R B F cl l).length = (findL C R B F cl' l').length) :
    (∀ x, x ∈ nedL C R B F cl l → (x + n) % C ∈ nedL C R B F cl' l') ∧ (∀ x, x ∈ useL C R B F cl l → (x + n) % C ∈ useL C R B F cl' l') ∧ (∀ x, x ∈ savL C R B F cl l → (x + n) % C ∈ savL C R B F cl' l') := by
  have hC := h.ok.dims.c1
  obtain ⟨a1, a2, a3, ab⟩ := need_lists h he
  obtain ⟨b1, b2, b3, bb⟩ := need_lists h' he'
  refine ⟨fun x hx => (b1 _).2 fun S hS hl => ?_, fun x hx => ?_, fun x hx => ?_⟩
  · have hT := cov_rot hC (hp.back hC) (hq.back hC) hS
    have hm := (a1 x).1 hx _ hT (by rw [List.length_map]; omega)
    obtain ⟨y, hy, e⟩ := List.mem_map.1 hm
    have ho := hS.op y hy
    rw [← e, rot_forth hC ho.lo ho.hi]
    exact hy
  · obtain ⟨S, hS, hl, hxS⟩ := (a2 x).1 hx
    exact (b2 _).2 ⟨_, cov_rot hC hp hq hS, by rw [List.length_map]; omega, List.mem_map.2 ⟨x, hxS, rfl⟩⟩
  · obtain ⟨⟨x0, x1, x2⟩, S, hS, hl⟩ := (a3 x).1 hx
    obtain ⟨k0, k1⟩ := rot_in (C := C) (n := n) (x := x) hC
    exact (b3 _).2 ⟨⟨k0, k1, by rw [hq x x0 x1]; exact x2⟩, _, cov_rot hC hp (less_rot hC hq x0 x1) hS, by rw [List.length_map]; omega⟩
theorem turned_all {C R B F n : Int} {cl l : List Int} (h : HolesOk C R B F cl l) :
    findErr C R B F (turnedL C cl n) (mvs C n l) = findErr C R B F cl l ∧ (findL C R B F (turnedL C cl n) (mvs C n l)).length = (findL C R B F cl l).length ∧
    (findErr C R B F cl l = 0 → alikeB C n (nedL C R B F cl l) (nedL C R B F (turnedL C cl n) (mvs C n l)) = true ∧ alikeB C n (useL C R B F cl l) (useL C R B F (turnedL C cl n) (mvs C n l)) = true ∧ alikeB C n (savL C R B F cl l) (savL C R B F (turnedL C cl n) (mvs C n l)) = true) := by
  have h' := mvs_ok (n := n) h
  have hp := turned_rot (n := n) h.ok
  have hq := colm_rot (n := n) h
  have hC := h.ok.dims.c1
  have hr := few_rot (n := n) h.ok.dims h.ok.c120 hp hq (isIn_lt h.cols) (isIn_lt h'.cols)
  rcases find_words h with ⟨f1, e1, g1⟩ | ⟨f1, e1⟩ <;> rcases find_words h' with ⟨f2, e2, g2⟩ | ⟨f2, e2⟩
  · exact ⟨by rw [e1, e2], by rw [g1, g2], fun he => by rw [e1] at he; cases he⟩
  · rcases hr with ⟨_, r⟩ | ⟨L, L', r, _⟩
    · rw [f2] at r; cases r
    · rw [f1] at r; cases r
  · rcases hr with ⟨r, _⟩ | ⟨L, L', _, r, _⟩
    · rw [f1] at r; cases r
    · rw [f2] at r; cases r
  · have hlen : (findL C R B F (turnedL C cl n) (mvs C n l)).length = (findL C R B F cl l).length := by
      rcases hr with ⟨r, _⟩ | ⟨L, L', r1, r2, r3⟩
      · rw [f1] at r; cases r
      · rw [f1] at r1
        rw [f2] at r2
        cases r1
        cases r2
        exact r3.symm
    refine ⟨by rw [e1, e2], hlen, fun _ => ?_⟩
    obtain ⟨m1, m2, m3⟩ := need_turn h h' e1 e2 hp hq hlen.symm
    obtain ⟨w1, w2, w3⟩ := need_turn (n := -n) h' h e2 e1 (hp.back hC) (hq.back hC) hlen
    obtain ⟨⟨r1, s1⟩, ⟨r2, s2⟩, ⟨r3, s3⟩⟩ := need_rise h e1
    obtain ⟨⟨t1, u1⟩, ⟨t2, u2⟩, ⟨t3, u3⟩⟩ := need_rise h' e2
    exact ⟨alike_of hC r1 t1 s1 u1 m1 w1, alike_of hC r2 t2 s2 u2 m2 w2, alike_of hC r3 t3 s3 u3 m3 w3⟩
theorem need_len {C R B F : Int} {cl l : List Int} : (nedL C R B F cl l).length ≤ 1000 ∧ (useL C R B F cl l).length ≤ C.toNat ∧ (savL C R B F cl l).length ≤ 120 := by
  refine ⟨?_, ?_, ?_⟩
  · unfold nedL
    by_cases he : findErr C R B F cl l = 0
    · rw [if_pos he]
      have hk := findErr_ok he
      have := fewL_len hk.ok.dims.c1 hk.ok.c120 hk.ok.b0 hk.ok.f0 (findL_good he)
      have := List.length_filter_le (neededP C B F (isIn cl) (isIn (colm C l)) (findL C R B F cl l).length) (findL C R B F cl l)
      omega
    · rw [if_neg he]; simp
  · unfold useL
    split
    · exact colsTo_len _ _
    · simp
  · unfold savL
    split
    · exact Nat.le_trans (List.length_filter_le _ _) (cols_len _)
    · simp

end Go.Proofs.Ytnjmkdgglpcfpaa

namespace Go.Proofs.Ytnjmkdgglpcfpaa
open Go.RowKit
/-! The contracts of what looks for rounds, with their arguments named. -/
section
variable (C R B F : Int) (A : Option Addr) (cap : Nat) (cl : List Int) (D : Option Addr) (dap : Nat) (l : List Int) (hB : B ≤ 9223372036854775807) (hcl : cl.length ≤ 9223372036854775807) (hll : l.length ≤ 9223372036854775807)
  (W : World) (hr : Ints W W.heap.size A cl) (hl : Ints W W.heap.size D l)
include hB hcl hll hr hl
theorem count37 : Calls Try.prog 37 #[.agg #[.int .i64 C, .int .i64 R, .int .i64 B, .int .i64 F, .slice A cl.length cap], .slice D l.length dap] W fun e w' => e = .returned (.tuple #[.int .i64 (findL C R B F cl l).length, .int .i64 (findErr C R B F cl l)]) ∧ Below W.heap.size W w' := count_any W hB hcl hr hl hll
theorem needed43 : Calls Try.prog 43 #[.agg #[.int .i64 C, .int .i64 R, .int .i64 B, .int .i64 F, .slice A cl.length cap], .slice D l.length dap] W (RetInts2 W (nedL C R B F cl l) (findErr C R B F cl l)) := needed_any W hB hcl hr hl hll
theorem useful45 : Calls Try.prog 45 #[.agg #[.int .i64 C, .int .i64 R, .int .i64 B, .int .i64 F, .slice A cl.length cap], .slice D l.length dap] W (RetInts2 W (useL C R B F cl l) (findErr C R B F cl l)) := useful_any W hB hcl hr hl hll
theorem saves47 : Calls Try.prog 47 #[.agg #[.int .i64 C, .int .i64 R, .int .i64 B, .int .i64 F, .slice A cl.length cap], .slice D l.length dap] W (RetInts2 W (savL C R B F cl l) (findErr C R B F cl l)) := saves_any W hB hcl hr hl hll
end
end Go.Proofs.Ytnjmkdgglpcfpaa

