import Derived.Test.YtnjmkdgglpcfpaaM3
import Derived.Test.YtnjmkdgglpcfpaaC2
namespace Go.Proofs.Ytnjmkdgglpcfpaa
set_option linter.unusedVariables false
set_option linter.unusedSimpArgs false

theorem cmpt_iff {zs : List Int} {x : Int} : x ∈ cmpt zs ↔ x ∈ zs := by
  refine ⟨mem_cmpt, fun hx => ?_⟩
  unfold cmpt Lib.compact Lib.compactUpTo
  obtain ⟨i, hi, rfl⟩ := List.mem_iff_getElem.1 hx
  clear hx
  induction i with
  | zero =>
    refine List.mem_map.2 ⟨0, List.mem_filter.2 ⟨List.mem_range.2 hi, by simp [Lib.keeps]⟩, ?_⟩
    simp [hi]
  | succ i ih =>
    by_cases hk : Lib.keeps zs.toArray (i + 1) = true
    · refine List.mem_map.2 ⟨i + 1, List.mem_filter.2 ⟨List.mem_range.2 hi, hk⟩, ?_⟩
      simp [hi]
    · have he : zs[i + 1] = zs[i] := by
        have h2 : i < zs.length := by omega
        simpa [Lib.keeps, hi, h2] using hk
      rw [he]
      exact ih (by omega)
theorem cmpt_rise {zs : List Int} (h : zs.Pairwise (· ≤ ·)) : (cmpt zs).Pairwise (· < ·) := by
  unfold cmpt Lib.compact Lib.compactUpTo
  rw [List.pairwise_map]
  refine List.Pairwise.imp_of_mem ?_ (List.pairwise_lt_range.filter _)
  intro i j hi hj hij
  obtain ⟨hi1, hi2⟩ := List.mem_filter.1 hi
  obtain ⟨hj1, hj2⟩ := List.mem_filter.1 hj
  have h1 := List.mem_range.1 hi1
  have h2 := List.mem_range.1 hj1
  have h3 : j - 1 < zs.length := by omega
  have hp := List.pairwise_iff_getElem.1 h
  have e1 : zs[i] ≤ zs[j - 1] := by
    by_cases e : i = j - 1
    · subst e; exact Int.le_refl _
    · exact hp i (j - 1) h1 h3 (by omega)
  have e2 : zs[j - 1] ≤ zs[j] := hp (j - 1) j h3 h2 (by omega)
  have e3 : zs[j] ≠ zs[j - 1] := by
    have : j ≠ 0 := by omega
    simpa [Lib.keeps, this, h2, h3] using hj2
  simp only [List.size_toArray, h1, h2, getElem!_pos, List.getElem_toArray]
  omega
theorem clL_iff {cl st : List Int} {x : Int} : x ∈ clL cl st ↔ x ∈ cl ∨ x ∈ st := by
  unfold clL
  rw [cmpt_iff, (srt_perm _).mem_iff, List.mem_append]
theorem clL_rise (cl st : List Int) : (clL cl st).Pairwise (· < ·) := cmpt_rise (srt_sorted _)
/-- a list of columns that rises is no longer than the house is wide -/
theorem rise_len {C : Int} {l : List Int} (h : Rise C l) : l.length ≤ C.toNat := by
  have hn : l.Nodup := h.1.imp fun hxy => by omega
  have := hn.length_le_of_subset (l₂ := (List.range C.toNat).map fun i : Nat => (i : Int)) fun x hx => by
    have := h.2 x hx
    exact List.mem_map.2 ⟨x.toNat, List.mem_range.2 (by omega), by omega⟩
  simpa using this
theorem clL_ok {C R B F : Int} {cl st : List Int} (h : Ok C R B F cl) (hs : ∀ x ∈ st, 0 ≤ x ∧ x < C) : Ok C R B F (clL cl st) := by
  have hr : Rise C (clL cl st) := ⟨clL_rise cl st, fun x hx => (clL_iff.1 hx).elim (h.rise.2 x) (hs x)⟩
  have := rise_len hr
  have := h.c120
  exact ⟨h.c3, h.c120, h.r1, h.r16, h.b0, h.f0, h.bf, by omega, hr⟩
/-- stands that are open in a house in which more are closed -/
theorem cov_closed {C B F : Int} {cl st : List Int} {q : Nat → Bool} {S : List Int} : Cov C B F (isIn (clL cl st)) q S ↔ Cov C B F (isIn cl) q S ∧ ∀ x ∈ S, x ∉ st := by
  constructor
  · rintro ⟨h1, h2⟩
    refine ⟨⟨fun t ht => ?_, h2⟩, fun x hx hst => ?_⟩
    · obtain ⟨a, b, c⟩ := h1 t ht
      refine ⟨a, b, ?_⟩
      rw [isIn_int a] at c ⊢
      have := of_decide_eq_false c
      exact decide_eq_false fun h => this (clL_iff.2 (.inl h))
    · obtain ⟨a, b, c⟩ := h1 x hx
      rw [isIn_int a] at c
      exact of_decide_eq_false c (clL_iff.2 (.inr hst))
  · rintro ⟨⟨h1, h2⟩, h3⟩
    refine ⟨fun t ht => ?_, h2⟩
    obtain ⟨a, b, c⟩ := h1 t ht
    refine ⟨a, b, ?_⟩
    rw [isIn_int a] at c ⊢
    have := of_decide_eq_false c
    exact decide_eq_false fun h => (clL_iff.1 h).elim this (h3 t ht)
/-- a greater reach -/
theorem rch_more {C B F B' F' s c : Int} (h : Dims C B F) (h' : Dims C B' F') (hb : B ≤ B') (hf : F ≤ F') (hr : rch C B F s c = true) : rch C B' F' s c = true := by
  rw [rch_iff] at *
  obtain ⟨c1, b0, f0, bf⟩ := h
  obtain ⟨_, b0', f0', bf'⟩ := h'
  have n0 := Int.emod_nonneg (c + (B - s)) (b := C) (by omega)
  have e1 := Int.emod_add_mul_ediv (c + (B - s)) C
  have : (c + (B' - s)) % C = (c + (B - s)) % C + (B' - B) := emod_of (k := (c + (B - s)) / C) (by omega) (by omega) (by omega)
  omega
theorem cov_more {C B F B' F' : Int} {p q : Nat → Bool} {S : List Int} (h : Dims C B F) (h' : Dims C B' F') (hb : B ≤ B') (hf : F ≤ F') (hS : Cov C B F p q S) : Cov C B' F' p q S :=
  ⟨hS.op, fun x x0 x1 hx => by
    obtain ⟨t, ht, hr⟩ := hS.all x x0 x1 hx
    exact ⟨t, ht, rch_more h h' hb hf hr⟩⟩
/-- the number of stands that Count tells, in words: there is a round, and this is the least number that one has -/
theorem find_some {C R B F : Int} {cl l : List Int} (h : HolesOk C R B F cl l) (he : findErr C R B F cl l = 0) : Best C B F (isIn cl) (isIn (colm C l)) (findL C R B F cl l) := by
  rcases find_words h with ⟨_, e, _⟩ | ⟨hf, _⟩
  · rw [he] at e; cases e
  · exact few_some h.ok.dims h.ok.c120 (isIn_lt h.cols) hf
theorem find_none {C R B F : Int} {cl l : List Int} (h : HolesOk C R B F cl l) (he : findErr C R B F cl l ≠ 0) : findErr C R B F cl l = 5 ∧ findL C R B F cl l = [] ∧ ∀ S, ¬ Cov C B F (isIn cl) (isIn (colm C l)) S := by
  rcases find_words h with ⟨f, e, g⟩ | ⟨_, e⟩
  · exact ⟨e, g, few_none h.ok.c120 (isIn_lt h.cols) f⟩
  · exact absurd e he
/-- where there is a round, Count tells its least number of stands -/
theorem find_of_cov {C R B F : Int} {cl l S : List Int} (h : HolesOk C R B F cl l) (hS : Cov C B F (isIn cl) (isIn (colm C l)) S) : findErr C R B F cl l = 0 ∧ (findL C R B F cl l).length ≤ S.length := by
  have he : findErr C R B F cl l = 0 := Classical.byContradiction fun hn => (find_none h hn).2.2 S hS
  exact ⟨he, (find_some h he).least S hS⟩
theorem find_bad_err {C R B F : Int} {cl l : List Int} (h : ¬ HolesOk C R B F cl l) : findErr C R B F cl l = holesErr C R B F cl l ∧ findL C R B F cl l = [] ∧ findErr C R B F cl l ≠ 0 ∧ findErr C R B F cl l ≠ 5 := by
  obtain ⟨h1, h2⟩ := findErr_bad h
  refine ⟨h1, h2, ?_, ?_⟩
  · rw [h1]; exact fun e => h (holesErr_zero.1 e)
  · rw [h1]
    unfold holesErr
    split
    · unfold chk riseI
      repeat' split
      all_goals decide
    · repeat' split
      all_goals decide
end Go.Proofs.Ytnjmkdgglpcfpaa
