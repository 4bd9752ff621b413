import Derived.Test.YtnjmkdgglpcfpaaM8
import Derived.Test.YtnjmkdgglpcfpaaC14
namespace Go.Proofs.Ytnjmkdgglpcfpaa
set_option linter.unusedVariables false

/- Plain mathematics of cuts: the greedy columns (RoundProves). -/
/-- the columns at which the greedy walk takes a stand -/
def tk (C B F : Int) (p : Nat → Bool) (st : List Int) (c : Int) : List Int :=
  match st.getLast? with
  | none => [c]
  | some d => if rch C B F (far C B F p d) c then st else st ++ [c]
theorem aft_tk {C B F : Int} {p : Nat → Bool} : ∀ (r pre : List Int), r.reverse = pre → pre.foldl (aft C B F p) [] = (pre.foldl (tk C B F p) []).map (far C B F p)
  | [], pre, e => by subst e; rfl
  | x :: r, pre, e => by
    rw [List.reverse_cons] at e
    subst e
    rw [List.foldl_append, List.foldl_append, aft_tk r r.reverse rfl]
    generalize r.reverse.foldl (tk C B F p) [] = T
    simp only [List.foldl_cons, List.foldl_nil]
    unfold aft tk
    rw [List.getLast?_map]
    cases T.getLast? with
    | none => rfl
    | some d =>
      simp only [Option.map_some]
      split
      · rfl
      · rw [List.map_append]; rfl
theorem tog_iff {C B F a b : Int} {p : Nat → Bool} : tog C B F p a b = true ↔ ∃ t, Op C p t ∧ rch C B F t a = true ∧ rch C B F t b = true := by
  unfold tog
  rw [List.any_eq_true]
  constructor
  · rintro ⟨t, ht, hr⟩
    exact ⟨t, (opens_iff.1 ht).1, (opens_iff.1 ht).2, hr⟩
  · rintro ⟨t, h1, h2, h3⟩
    exact ⟨t, opens_iff.2 ⟨h1, h2⟩, h3⟩
theorem tk_sub {C B F : Int} {p : Nat → Bool} : ∀ (r pre : List Int), r.reverse = pre → (pre.foldl (tk C B F p) []).Sublist pre
  | [], pre, e => by subst e; exact List.Sublist.refl _
  | x :: r, pre, e => by
    rw [List.reverse_cons] at e
    subst e
    have ih := tk_sub (C := C) (B := B) (F := F) (p := p) r r.reverse rfl
    rw [List.foldl_append]
    generalize r.reverse.foldl (tk C B F p) [] = T at *
    simp only [List.foldl_cons, List.foldl_nil]
    unfold tk
    split
    · exact List.sublist_append_right _ _
    · split
      · exact ih.trans (List.sublist_append_left _ _)
      · exact ih.append (List.Sublist.refl _)
theorem tk_cut {C B F s : Int} {p : Nat → Bool} (h : Dims C B F) (m : Nat) : ∀ (r pre : List Int), r.reverse = pre → (∀ x ∈ pre, Bh C B F s x) → pre.Pairwise (fun a b => offs C s a ≤ offs C s b) → (∀ x ∈ pre, ∃ t, Op C p t ∧ rch C B F t x = true) →
    pre.foldl (cutF C B F p m) [] = (pre.foldl (tk C B F p) []).take m ∧ (pre.foldl (tk C B F p) []).Pairwise (fun y x => tog C B F p x y = false)
  | [], pre, e, _, _, _ => by subst e; simp
  | x :: r, pre, e, hb, ho, hop => by
    rw [List.reverse_cons] at e
    subst e
    have ho' := List.pairwise_append.1 ho
    obtain ⟨i1, i2⟩ := tk_cut h m r r.reverse rfl (fun y hy => hb y (by simp at hy ⊢; exact .inl hy)) ho'.1 (fun y hy => hop y (by simp at hy ⊢; exact .inl hy))
    have hsub := tk_sub (C := C) (B := B) (F := F) (p := p) r r.reverse rfl
    rw [List.foldl_append, List.foldl_append, i1]
    generalize r.reverse.foldl (tk C B F p) [] = T at *
    simp only [List.foldl_cons, List.foldl_nil]
    have hx := hb x (by simp)
    have hTb : ∀ y ∈ T, Bh C B F s y ∧ offs C s y ≤ offs C s x := fun y hy => by
      have hm := hsub.subset hy
      exact ⟨hb y (List.mem_append.2 (.inl hm)), ho'.2.2 y hm x (by simp)⟩
    have hTo : T.Pairwise (fun a b => offs C s a ≤ offs C s b) := ho'.1.sublist hsub
    cases hl : T.getLast? with
    | none =>
      have hT : T = [] := List.getLast?_eq_none_iff.1 hl
      subst hT
      have : tk C B F p [] x = [x] := rfl
      rw [this]
      refine ⟨?_, List.pairwise_singleton _ _⟩
      unfold cutF
      by_cases h0 : m = 0
      · subst h0; simp
      · rw [if_neg (by simp; omega)]
        obtain ⟨k, rfl⟩ : ∃ k, m = k + 1 := ⟨m - 1, by omega⟩
        simp
    | some d =>
      have hd : d ∈ T := List.mem_of_getLast? hl
      have hdb := hTb d hd
      have hdl : ∀ y ∈ T, offs C s y ≤ offs C s d := fun y hy => by
        obtain ⟨T0, hT0⟩ := List.getLast?_eq_some_iff.1 hl
        rw [hT0] at hy hTo
        rcases List.mem_append.1 hy with hy | hy
        · exact (List.pairwise_append.1 hTo).2.2 y hy d (by simp)
        · rw [List.mem_singleton.1 hy]; exact Int.le_refl _
      obtain ⟨t, ht, htr⟩ := hop d (List.mem_append.2 (.inl (hsub.subset hd)))
      obtain ⟨f1, f2⟩ := far_spec h hdb.1.lo hdb.1.hi ht htr
      have f3 : rch C B F (far C B F p d) d = true := rch_iff.2 (Int.le_trans f2 (rch_iff.1 htr))
      have etk : tk C B F p T x = if rch C B F (far C B F p d) x then T else T ++ [x] := by unfold tk; rw [hl]
      rw [etk]
      by_cases hr : rch C B F (far C B F p d) x = true
      · rw [if_pos hr]
        refine ⟨?_, i2⟩
        unfold cutF
        by_cases hm : ((T.take m).length : Int) = m
        · rw [if_pos hm]
        · rw [if_neg hm]
          have hlt : T.length ≤ m := by rw [List.length_take] at hm; omega
          rw [List.take_of_length_le hlt, if_pos]
          rw [List.any_eq_true]
          exact ⟨d, hd, tog_iff.2 ⟨_, f1, hr, f3⟩⟩
      · rw [if_neg hr]
        have hno : ∀ y ∈ T, tog C B F p x y = false := fun y hy => by
          cases htg : tog C B F p x y with
          | false => rfl
          | true =>
            obtain ⟨u, u1, u2, u3⟩ := tog_iff.1 htg
            have u4 := between_rch h (hTb y hy).1 hdb.1 hx (hdl y hy) hdb.2 u3 u2
            exact absurd (far_max h hdb.1 hx hdb.2 u1 u4 u2) hr
        refine ⟨?_, List.pairwise_append.2 ⟨i2, List.pairwise_singleton _ _, fun a ha b hb' => by rw [List.mem_singleton.1 hb']; exact hno a ha⟩⟩
        unfold cutF
        by_cases hm : ((T.take m).length : Int) = m
        · rw [if_pos hm]
          have : m ≤ T.length := by rw [List.length_take] at hm; omega
          rw [List.take_append_of_le_length this]
        · rw [if_neg hm]
          have hlt : T.length < m := by rw [List.length_take] at hm; omega
          rw [List.take_of_length_le (Nat.le_of_lt hlt), if_neg, List.take_of_length_le (by simp; omega)]
          rw [List.any_eq_true]
          rintro ⟨y, hy, hty⟩
          rw [hno y hy] at hty
          cases hty
theorem bhTo_lt {C B F s : Int} {q : Nat → Bool} (h : Dims C B F) : (bhTo C F q s (bhK C B F)).Pairwise (fun a b => offs C s a < offs C s b) := by
  obtain ⟨h1, h2, h3, h4⟩ := h
  unfold bhTo bhK
  refine List.Pairwise.filter _ ?_
  rw [List.pairwise_map]
  refine List.Pairwise.imp_of_mem ?_ List.pairwise_lt_range
  intro i j hi hj hij
  have := List.mem_range.1 hi
  have := List.mem_range.1 hj
  rw [offs_at (by omega) (by omega), offs_at (by omega) (by omega)]
  omega
/-- behind a stand that reaches the first column, all lies in its order -/
theorem offs_first {C B F s c0 x : Int} (h : Dims C B F) (hc0 : rch C B F s c0 = true) (hx : Bh C B F s x) (h0 : 0 ≤ c0) (hcx : c0 ≤ x) : offs C s x = (c0 + (B - s)) % C - B + (x - c0) := by
  obtain ⟨h1, h2, h3, h4⟩ := h
  have hr := rch_iff.1 hc0
  have n0 := Int.emod_nonneg (c0 + (B - s)) (b := C) (by omega)
  have e1 := Int.emod_add_mul_ediv (c0 + (B - s)) C
  have r1 := hx.right
  have r2 := hx.left
  have x1 := hx.hi
  generalize (c0 + (B - s)) % C = e at *
  generalize (c0 + (B - s)) / C = k0 at *
  by_cases hv0 : e - B + (x - c0) < 0
  · have : offs C s x = e - B + (x - c0) + C := emod_of (k := k0 - 1) (by omega) (by omega) (by rw [Int.mul_sub, Int.mul_one]; omega)
    omega
  · by_cases hv1 : e - B + (x - c0) < C
    · exact emod_of (k := k0) (by omega) hv1 (by omega)
    · have : offs C s x = e - B + (x - c0) - C := emod_of (k := k0 + 1) (by omega) (by omega) (by rw [Int.mul_add, Int.mul_one]; omega)
      omega
theorem cut_holds {C B F s c0 : Int} {p q : Nat → Bool} (h : Dims C B F) (hs : Op C p s) (h00 : 0 ≤ c0) (hc0 : rch C B F s c0 = true) (hfirst : ∀ x, 0 ≤ x → x < C → q x.toNat = true → c0 ≤ x) (hop : ∀ x : Int, 0 ≤ x → x < C → q x.toNat = true → ∃ t, Op C p t ∧ rch C B F t x = true) (m : Nat) (hm : m ≤ (afters C B F p q s).length) :
    (cutL C B F p q s m).length = m ∧ HoldsP C B F p q s (cutL C B F p q s m) := by
  have hmem := fun x => bhTo_mem (s := s) (x := x) (q := q) h
  obtain ⟨t1, t2⟩ := tk_cut (p := p) h m _ (bhTo C F q s (bhK C B F)) (List.reverse_reverse _) (fun x hx => ((hmem x).1 hx).1) (bhTo_ord h) (fun x hx => hop x ((hmem x).1 hx).1.lo ((hmem x).1 hx).1.hi ((hmem x).1 hx).2)
  have hsub := tk_sub (C := C) (B := B) (F := F) (p := p) _ (bhTo C F q s (bhK C B F)) (List.reverse_reverse _)
  have hlen : (afters C B F p q s).length = ((bhTo C F q s (bhK C B F)).foldl (tk C B F p) []).length := by
    unfold afters
    rw [aft_tk _ _ (List.reverse_reverse _), List.length_map]
  have hlt := (bhTo_lt (s := s) (q := q) h).sublist hsub
  have hcut : cutL C B F p q s m = ((bhTo C F q s (bhK C B F)).foldl (tk C B F p) []).take m := t1
  rw [hcut]
  generalize (bhTo C F q s (bhK C B F)).foldl (tk C B F p) [] = T at *
  have hT : ∀ x ∈ T, Bh C B F s x ∧ q x.toNat = true := fun x hx => (hmem x).1 (hsub.subset hx)
  refine ⟨by rw [List.length_take]; omega, ⟨⟨?_, fun x hx => ?_⟩, fun x hx => ?_, t2.sublist (List.take_sublist _ _)⟩⟩
  · refine List.Pairwise.imp_of_mem ?_ (hlt.sublist (List.take_sublist m T))
    intro a b ha hb hab
    have ha' := hT a (List.mem_of_mem_take ha)
    have hb' := hT b (List.mem_of_mem_take hb)
    have e1 := offs_first h hc0 ha'.1 h00 (hfirst a ha'.1.lo ha'.1.hi ha'.2)
    have e2 := offs_first h hc0 hb'.1 h00 (hfirst b hb'.1.lo hb'.1.hi hb'.2)
    omega
  · have := hT x (List.mem_of_mem_take hx)
    exact ⟨this.1.lo, this.1.hi⟩
  · have := hT x (List.mem_of_mem_take hx)
    exact ⟨this.2, (bh_iff h hs.lo hs.hi this.1.lo this.1.hi).1 this.1⟩

section
variable {C R B F : Int} {cl l st : List Int} {cuts : List (Int × List Int)}
theorem first_least (hk : HolesOk C R B F cl l) {c0 : Int} {cs0 : List Int} (hc : cols (isIn (colm C l)) = c0 :: cs0) : (0 ≤ c0 ∧ c0 < C ∧ isIn (colm C l) c0.toNat = true) ∧ ∀ x, 0 ≤ x → x < C → isIn (colm C l) x.toNat = true → c0 ≤ x := by
  have hq : ∀ i, isIn (colm C l) i = true → (i : Int) < C := fun i hi => (hk.cols _ (isIn_iff.1 hi)).2
  have hmem := fun x => cols_iff (x := x) (C := C) hk.ok.c120 hq
  refine ⟨(hmem c0).1 (by rw [hc]; simp), fun x x0 x1 hx => ?_⟩
  have hx' : x ∈ c0 :: cs0 := by rw [← hc]; exact (hmem x).2 ⟨x0, x1, hx⟩
  have hp := cols_rise (isIn (colm C l))
  rw [hc] at hp
  rcases List.mem_cons.1 hx' with rfl | hx'
  · exact Int.le_refl _
  · exact Int.le_of_lt ((List.pairwise_cons.1 hp).1 x hx')
/-- what Fewest hands back is shown -/
theorem shown_best (h : findErr C R B F cl l = 0) : ShownAll C B F (isIn cl) (isIn (colm C l)) (cutsOf C B F (isIn cl) (isIn (colm C l)) (findL C R B F cl l).length) (findL C R B F cl l).length := by
  have hk := find_holes h
  have hb := find_best h
  have hd := hk.dims
  unfold ShownAll cutsOf
  cases hc : cols (isIn (colm C l)) with
  | nil =>
    have hq : ∀ i, isIn (colm C l) i = true → (i : Int) < C := fun i hi => (hk.cols _ (isIn_iff.1 hi)).2
    have := hb.least [] ⟨by simp, fun x x0 x1 hx => by
      have : x ∈ cols (isIn (colm C l)) := (cols_iff hk.ok.c120 hq).2 ⟨x0, x1, hx⟩
      rw [hc] at this
      cases this⟩
    simp at this
    simp [this]
  | cons c0 cs0 =>
    obtain ⟨hc0, hfirst⟩ := first_least hk hc
    have hop : ∀ x : Int, 0 ≤ x → x < C → isIn (colm C l) x.toNat = true → ∃ t, Op C (isIn cl) t ∧ rch C B F t x = true := fun x x0 x1 hx => by
      obtain ⟨t, ht, hr⟩ := hb.cov.all x x0 x1 hx
      exact ⟨t, hb.cov.op t ht, hr⟩
    obtain ⟨t0, ht0, _⟩ := hb.cov.all c0 hc0.1 hc0.2.1 hc0.2.2
    have hpos : 0 < (findL C R B F cl l).length := List.length_pos_of_mem ht0
    refine ⟨by simp, fun k h1 h2 => ?_⟩
    simp only [List.getElem_map]
    obtain ⟨s, hs⟩ : ∃ s, (opens C B F (isIn cl) c0)[k] = s := ⟨_, rfl⟩
    rw [hs]
    obtain ⟨so, sr⟩ := opens_iff.1 (hs ▸ List.getElem_mem h2 : s ∈ opens C B F (isIn cl) c0)
    have hle := hb.least _ (after_cov hd so hop)
    rw [List.length_append, List.length_singleton] at hle
    have e : ((findL C R B F cl l).length : Int) - 1 = (((findL C R B F cl l).length - 1 : Nat) : Int) := by omega
    obtain ⟨c1, c2⟩ := cut_holds hd so hc0.1 sr hfirst hop ((findL C R B F cl l).length - 1) (by omega)
    rw [e]
    exact ⟨trivial, by rw [c1], c2⟩
/-- what is shown: no round has fewer stands -/
theorem shown_least (hk : HolesOk C R B F cl l) {n : Nat} (h : ShownAll C B F (isIn cl) (isIn (colm C l)) cuts n) {S : List Int} (hS : Cov C B F (isIn cl) (isIn (colm C l)) S) : n ≤ S.length := by
  unfold ShownAll at h
  cases hc : cols (isIn (colm C l)) with
  | nil =>
    rw [hc] at h
    have := h.1
    omega
  | cons c0 cs0 =>
    rw [hc] at h
    simp only at h
    obtain ⟨hc0, _⟩ := first_least hk hc
    obtain ⟨s, hs, hr⟩ := hS.all c0 hc0.1 hc0.2.1 hc0.2.2
    have hso := hS.op s hs
    have hm : s ∈ opens C B F (isIn cl) c0 := opens_iff.2 ⟨hso, hr⟩
    obtain ⟨k, hk2, hks⟩ := List.mem_iff_getElem.1 hm
    obtain ⟨e1, e2, e3⟩ := h.2 k (by rw [h.1]; exact hk2) hk2
    generalize cuts[k]'(by rw [h.1]; exact hk2) = ck at *
    obtain ⟨s', cc⟩ := ck
    simp only at e1 e2 e3
    rw [hks] at e1
    subst e1
    have hp := pigeon (fun t x => rch C B F t x = true) cc (S.erase s') (fun x hx => by
      obtain ⟨x0, x1⟩ := e3.rise.2 x hx
      obtain ⟨hq, hnr⟩ := e3.all x hx
      obtain ⟨t, ht, htr⟩ := hS.all x x0 x1 hq
      refine ⟨t, (List.mem_erase_of_ne ?_).2 ht, htr⟩
      rintro rfl
      rw [hnr] at htr
      cases htr) (e3.pair.imp fun {a b} hab t ht ⟨h1, h2⟩ => by
        have := tog_iff.2 ⟨t, hS.op t (List.mem_of_mem_erase ht), h2, h1⟩
        rw [hab] at this
        cases this)
    have hl := List.length_erase_of_mem hs
    have : 0 < S.length := List.length_pos_of_mem hs
    omega
theorem cov_of_left (hk : HolesOk C R B F cl l) (he : leftErr C R B F cl l st = 0) (hL : leftL C R B F cl l st = []) : Cov C B F (isIn cl) (isIn (colm C l)) st := by
  have hz := holesErr_zero.2 hk
  have hs : Rise C st ∧ ∀ x ∈ st, x ∉ cl := by
    unfold leftErr at he
    rw [if_neg (by simp [hz])] at he
    unfold standsErr at he
    split at he
    · cases he
    · split at he
      · assumption
      · cases he
  unfold leftL at hL
  rw [if_pos he] at hL
  refine ⟨fun t ht => ⟨(hs.1.2 t ht).1, (hs.1.2 t ht).2, ?_⟩, fun x x0 x1 hx => ?_⟩
  · cases hi : isIn cl t.toNat with
    | false => rfl
    | true => rw [isIn_iff, Int.toNat_of_nonneg (hs.1.2 t ht).1] at hi; exact absurd hi (hs.2 t ht)
  · rw [isIn_iff, Int.toNat_of_nonneg x0] at hx
    cases ha : anyR C B F st x with
    | true => exact (any_iff hk x0 x1).1 ha
    | false =>
      have := (left_mem hk (st := st) (x := x)).2 ⟨hx, ha⟩
      rw [hL] at this
      cases this
theorem left_of_best (h : findErr C R B F cl l = 0) : leftErr C R B F cl l (findL C R B F cl l) = 0 ∧ leftL C R B F cl l (findL C R B F cl l) = [] := by
  have hk := find_holes h
  have hb := find_best h
  have hr : Rise C (findL C R B F cl l) := ⟨hb.rise, fun x hx => ⟨(hb.cov.op x hx).lo, (hb.cov.op x hx).hi⟩⟩
  have hlen := rise_len hr
  have k2 := hk.ok.c120
  have hno : ∀ x ∈ findL C R B F cl l, x ∉ cl := fun x hx hc => by
    have h1 := (hb.cov.op x hx).open'
    have h2 : isIn cl x.toNat = true := by rw [isIn_iff, Int.toNat_of_nonneg (hb.cov.op x hx).lo]; exact hc
    rw [h2] at h1
    cases h1
  have he : leftErr C R B F cl l (findL C R B F cl l) = 0 := by
    unfold leftErr standsErr
    rw [if_neg (by simp [holesErr_zero.2 hk]), if_neg (by omega), if_pos ⟨hr, hno⟩]
  refine ⟨he, ?_⟩
  unfold leftL
  rw [if_pos he]
  apply List.eq_nil_iff_forall_not_mem.2
  intro x hx
  obtain ⟨h1, h2⟩ := (left_mem hk).1 hx
  obtain ⟨x0, x1⟩ := hk.cols x h1
  obtain ⟨t, ht, htr⟩ := hb.cov.all x x0 x1 (by rw [isIn_iff, Int.toNat_of_nonneg x0]; exact h1)
  rw [(any_iff hk x0 x1).2 ⟨t, ht, htr⟩] at h2
  cases h2
theorem cuts_short (h : findErr C R B F cl l = 0) : ¬ LongP (findL C R B F cl l) (cutsOf C B F (isIn cl) (isIn (colm C l)) (findL C R B F cl l).length) := by
  have hk := find_holes h
  have hb := find_best h
  have hr : Rise C (findL C R B F cl l) := ⟨hb.rise, fun x hx => ⟨(hb.cov.op x hx).lo, (hb.cov.op x hx).hi⟩⟩
  have hlen := rise_len hr
  have k2 := hk.ok.c120
  have hsh := shown_best h
  unfold LongP
  rintro (h1 | h1 | ⟨c, hc, h1⟩)
  · omega
  · unfold ShownAll at hsh
    unfold cutsOf at h1
    split at h1
    · simp at h1
    · rename_i c0 cs0 hc
      rw [List.length_map] at h1
      have : (opens C B F (isIn cl) c0).length ≤ C.toNat := colsTo_len _ _
      omega
  · obtain ⟨k, hkk, rfl⟩ := List.mem_iff_getElem.1 hc
    unfold ShownAll at hsh
    cases hc0 : cols (isIn (colm C l)) with
    | nil => rw [hc0] at hsh; have := hsh.2; omega
    | cons c0 cs0 =>
      rw [hc0] at hsh
      have := (hsh.2 k hkk (by rw [← hsh.1]; exact hkk)).2.1
      omega
end
end Go.Proofs.Ytnjmkdgglpcfpaa
