import Derived.Test.YtnjmkdgglpcfpaaM7
import Derived.Test.YtnjmkdgglpcfpaaC8
namespace Go.Proofs.Ytnjmkdgglpcfpaa
set_option linter.unusedVariables false

/- Plain mathematics of one stand (RoundStands). -/
section
variable {C R B F : Int} {cl l : List Int} {s : Int}
theorem ned_iff (h : findErr C R B F cl l = 0) {x : Int} : x ∈ nedL C R B F cl l ↔ ∀ S, Cov C B F (isIn cl) (isIn (colm C l)) S → S.length ≤ (findL C R B F cl l).length → x ∈ S := (need_lists (find_holes h) h).1 x
theorem use_iff (h : findErr C R B F cl l = 0) {x : Int} : x ∈ useL C R B F cl l ↔ ∃ S, Cov C B F (isIn cl) (isIn (colm C l)) S ∧ S.length = (findL C R B F cl l).length ∧ x ∈ S := (need_lists (find_holes h) h).2.1 x
theorem stands_shut (h : findErr C R B F cl l = 0) (hs : 0 ≤ s ∧ s < C) :
    (findErr C R B F (clL cl [s]) l = 0 → (findL C R B F cl l).length ≤ (findL C R B F (clL cl [s]) l).length) ∧ (findErr C R B F (clL cl [s]) l = 0 ∨ findErr C R B F (clL cl [s]) l = 5) ∧
    ((findErr C R B F (clL cl [s]) l = 5 ∨ (findErr C R B F (clL cl [s]) l = 0 ∧ (findL C R B F cl l).length < (findL C R B F (clL cl [s]) l).length)) ↔ s ∈ nedL C R B F cl l) ∧ (s ∈ nedL C R B F cl l → s ∈ useL C R B F cl l) := by
  have hk := find_holes h
  have hb := find_best h
  have hk' : HolesOk C R B F (clL cl [s]) l := ⟨clL_ok hk.ok (by simpa using hs), hk.len, hk.all⟩
  have hcov : ∀ S, Cov C B F (isIn (clL cl [s])) (isIn (colm C l)) S ↔ Cov C B F (isIn cl) (isIn (colm C l)) S ∧ s ∉ S := fun S => by
    rw [cov_closed]
    refine and_congr_right fun _ => ⟨fun hx hs' => hx s hs' (by simp), fun hx y hy hys => hx (by rw [List.mem_singleton] at hys; exact hys ▸ hy)⟩
  have hz : findErr C R B F (clL cl [s]) l = 0 → (findL C R B F cl l).length ≤ (findL C R B F (clL cl [s]) l).length := fun h0 => hb.least _ ((hcov _).1 (find_best h0).cov).1
  refine ⟨hz, ?_, ?_, fun hn => ?_⟩
  · by_cases h0 : findErr C R B F (clL cl [s]) l = 0
    · exact .inl h0
    · exact .inr (find_none hk' h0).1
  · rw [ned_iff h]
    constructor
    · rintro hor S hS hl
      apply Classical.byContradiction
      intro hn
      obtain ⟨h0, h1⟩ := find_of_cov hk' ((hcov S).2 ⟨hS, hn⟩)
      rcases hor with h5 | ⟨_, h5⟩
      · rw [h0] at h5; cases h5
      · omega
    · intro hall
      by_cases h0 : findErr C R B F (clL cl [s]) l = 0
      · right
        refine ⟨h0, ?_⟩
        have hc := (hcov _).1 (find_best h0).cov
        apply Classical.byContradiction
        intro hn
        exact hc.2 (hall _ hc.1 (by omega))
      · exact .inl (find_none hk' h0).1
  · rw [use_iff h]
    exact ⟨_, hb.cov, rfl, (ned_iff h).1 hn _ hb.cov (Nat.le_refl _)⟩
theorem use_open (h : findErr C R B F cl l = 0) (hs : s ∈ useL C R B F cl l) : s ∉ cl := by
  obtain ⟨S, hS, _, hx⟩ := (use_iff h).1 hs
  have ho := hS.op s hx
  intro hc
  have h1 := ho.open'
  have h2 : isIn cl s.toNat = true := by rw [isIn_iff, Int.toNat_of_nonneg ho.lo]; exact hc
  rw [h2] at h1
  cases h1
theorem left_mem {st : List Int} (hk : HolesOk C R B F cl l) {x : Int} : x ∈ cols (leftP C B F (isIn (colm C l)) st) ↔ x ∈ colm C l ∧ anyR C B F st x = false := by
  have hb := hk.cols
  rw [cols_iff hk.ok.c120 (fun i hi => by unfold leftP at hi; rw [Bool.and_eq_true] at hi; exact (hb _ (isIn_iff.1 hi.1)).2)]
  unfold leftP
  constructor
  · rintro ⟨x0, x1, hx⟩
    rw [Int.toNat_of_nonneg x0, Bool.and_eq_true, isIn_iff, Int.toNat_of_nonneg x0] at hx
    exact ⟨hx.1, by simpa using hx.2⟩
  · rintro ⟨hx, hn⟩
    have := hb x hx
    refine ⟨this.1, this.2, ?_⟩
    rw [Int.toNat_of_nonneg this.1, Bool.and_eq_true, isIn_iff, Int.toNat_of_nonneg this.1]
    exact ⟨hx, by simp [hn]⟩
theorem any_iff {st : List Int} (hk : HolesOk C R B F cl l) {x : Int} (x0 : 0 ≤ x) (x1 : x < C) : anyR C B F st x = true ↔ ∃ t ∈ st, rch C B F t x = true := by
  have k1 := hk.ok.c3
  unfold anyR
  rw [List.any_eq_true]
  constructor
  · rintro ⟨t, ht, hr⟩
    exact ⟨t, ht, by rw [rch_same (by omega) hk.ok.b0 hk.ok.f0 hk.ok.bf x0 x1]; exact hr⟩
  · rintro ⟨t, ht, hr⟩
    exact ⟨t, ht, by rw [rch_same (by omega) hk.ok.b0 hk.ok.f0 hk.ok.bf x0 x1] at hr; exact hr⟩
/-- the holes that are left are holes -/
theorem left_ok' {st : List Int} (hk : HolesOk C R B F cl l) : HolesOk C R B F cl (cols (leftP C B F (isIn (colm C l)) st)) ∧ ∀ x, x ∈ colm C (cols (leftP C B F (isIn (colm C l)) st)) ↔ x ∈ colm C l ∧ anyR C B F st x = false := by
  have hb := hk.cols
  have k1 := hk.ok.c3
  have hR := hk.ok.r1
  have hCR : C ≤ C * R := by have := Int.mul_le_mul_of_nonneg_left hR (show 0 ≤ C by omega); omega
  have hlen : (cols (leftP C B F (isIn (colm C l)) st)).length ≤ 120 := colsTo_len _ _
  have hbd : ∀ x ∈ cols (leftP C B F (isIn (colm C l)) st), 0 ≤ x ∧ x < C := fun x hx => hb x ((left_mem hk).1 hx).1
  refine ⟨⟨hk.ok, by omega, fun x hx => by have := hbd x hx; omega⟩, fun x => ?_⟩
  have : colm C (cols (leftP C B F (isIn (colm C l)) st)) = cols (leftP C B F (isIn (colm C l)) st) := by
    unfold colm
    conv => rhs; rw [← List.map_id (cols _)]
    exact List.map_congr_left fun x hx => Int.emod_eq_of_lt (hbd x hx).1 (hbd x hx).2
  rw [this, left_mem hk]
/-- with a stand taken, and what it reaches left out -/
theorem stands_rest (h : findErr C R B F cl l = 0) (hs : 0 ≤ s ∧ s < C) (ho : s ∉ cl) :
    findErr C R B F cl (cols (leftP C B F (isIn (colm C l)) [s])) = 0 ∧
    ((0 < (findL C R B F cl l).length ∧ (findL C R B F cl (cols (leftP C B F (isIn (colm C l)) [s]))).length + 1 = (findL C R B F cl l).length) ↔ s ∈ useL C R B F cl l) := by
  have hk := find_holes h
  have hb := find_best h
  have hbc := hk.cols
  obtain ⟨hk', hm⟩ := left_ok' (st := [s]) hk
  have ha : ∀ x, 0 ≤ x → x < C → (anyR C B F [s] x = true ↔ rch C B F s x = true) := fun x x0 x1 => by rw [any_iff hk x0 x1]; simp
  have hop : Op C (isIn cl) s := ⟨hs.1, hs.2, by
    cases hi : isIn cl s.toNat with
    | false => rfl
    | true => rw [isIn_iff, Int.toNat_of_nonneg hs.1] at hi; exact absurd hi ho⟩
  have hsub : ∀ S, Cov C B F (isIn cl) (isIn (colm C l)) S → Cov C B F (isIn cl) (isIn (colm C (cols (leftP C B F (isIn (colm C l)) [s])))) S := fun S hS =>
    cov_mono (fun i hi => by rw [isIn_iff] at hi ⊢; exact ((hm _).1 hi).1) hS
  obtain ⟨h0, h1⟩ := find_of_cov hk' (hsub _ hb.cov)
  have hb' := find_best h0
  have hall : ∀ S, Cov C B F (isIn cl) (isIn (colm C (cols (leftP C B F (isIn (colm C l)) [s])))) S → Cov C B F (isIn cl) (isIn (colm C l)) (S ++ [s]) := fun S hS => by
    refine ⟨fun t ht => ?_, fun x x0 x1 hx => ?_⟩
    · rcases List.mem_append.1 ht with ht | ht
      · exact hS.op t ht
      · rw [List.mem_singleton.1 ht]; exact hop
    · cases hr : rch C B F s x with
      | true => exact ⟨s, by simp, hr⟩
      | false =>
        have hn : anyR C B F [s] x = false := by
          cases han : anyR C B F [s] x with
          | false => rfl
          | true => rw [(ha x x0 x1).1 han] at hr; cases hr
        obtain ⟨t, ht, hr⟩ := hS.all x x0 x1 (by rw [isIn_iff, Int.toNat_of_nonneg x0] at hx ⊢; exact (hm x).2 ⟨hx, hn⟩)
        exact ⟨t, List.mem_append.2 (.inl ht), hr⟩
  have h2 := hb.least _ (hall _ hb'.cov)
  rw [List.length_append, List.length_singleton] at h2
  refine ⟨h0, ?_⟩
  rw [use_iff h]
  constructor
  · rintro ⟨_, hl⟩
    exact ⟨_, hall _ hb'.cov, by rw [List.length_append, List.length_singleton]; exact hl, by simp⟩
  · rintro ⟨S, hS, hl, hx⟩
    have hpos : 0 < S.length := List.length_pos_of_mem hx
    have hle := List.length_erase_of_mem hx
    have h3 := hb'.least (S.erase s) ⟨fun t ht => hS.op t (List.mem_of_mem_erase ht), fun x x0 x1 hq => by
      have hq' : x ∈ colm C l ∧ anyR C B F [s] x = false := by
        rw [isIn_iff, Int.toNat_of_nonneg x0] at hq
        exact (hm x).1 hq
      obtain ⟨t, ht, hr⟩ := hS.all x x0 x1 (by rw [isIn_iff, Int.toNat_of_nonneg x0]; exact hq'.1)
      refine ⟨t, (List.mem_erase_of_ne ?_).2 ht, hr⟩
      rintro rfl
      have := (ha x x0 x1).2 hr
      rw [hq'.2] at this
      cases this⟩
    omega
end
end Go.Proofs.Ytnjmkdgglpcfpaa
