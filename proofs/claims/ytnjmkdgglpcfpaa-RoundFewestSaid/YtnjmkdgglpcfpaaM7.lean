import Derived.Test.YtnjmkdgglpcfpaaM4
namespace Go.Proofs.Ytnjmkdgglpcfpaa
set_option linter.unusedVariables false

/- Plain mathematics of two lists of holes (RoundMore) and of one stand (RoundStands). -/
theorem cov_mono {C B F : Int} {p q q' : Nat → Bool} {S : List Int} (h : ∀ i, q' i = true → q i = true) (hS : Cov C B F p q S) : Cov C B F p q' S :=
  ⟨hS.op, fun x x0 x1 hx => hS.all x x0 x1 (h _ hx)⟩
theorem cov_union {C B F : Int} {p q q1 q2 : Nat → Bool} {S T : List Int} (h : ∀ i, q i = true → q1 i = true ∨ q2 i = true) (h1 : Cov C B F p q1 S) (h2 : Cov C B F p q2 T) : Cov C B F p q (S ++ T) := by
  refine ⟨fun t ht => ?_, fun x x0 x1 hx => ?_⟩
  · rcases List.mem_append.1 ht with ht | ht
    · exact h1.op t ht
    · exact h2.op t ht
  · rcases h _ hx with hx | hx
    · obtain ⟨t, ht, hr⟩ := h1.all x x0 x1 hx
      exact ⟨t, List.mem_append.2 (.inl ht), hr⟩
    · obtain ⟨t, ht, hr⟩ := h2.all x x0 x1 hx
      exact ⟨t, List.mem_append.2 (.inr ht), hr⟩
theorem isIn_iff {l : List Int} {i : Nat} : isIn l i = true ↔ (i : Int) ∈ l := by simp [isIn]
theorem colm_append (C : Int) (l m : List Int) : colm C (l ++ m) = colm C l ++ colm C m := by simp [colm]
theorem find_holes {C R B F : Int} {cl l : List Int} (h : findErr C R B F cl l = 0) : HolesOk C R B F cl l := by
  apply Classical.byContradiction
  intro hn
  exact (find_bad_err hn).2.2.1 h
theorem HolesOk.dims {C R B F : Int} {cl l : List Int} (h : HolesOk C R B F cl l) : Dims C B F := by
  have := h.ok.c3
  exact ⟨by omega, h.ok.b0, h.ok.f0, h.ok.bf⟩
theorem find_best {C R B F : Int} {cl l : List Int} (h : findErr C R B F cl l = 0) : Best C B F (isIn cl) (isIn (colm C l)) (findL C R B F cl l) := find_some (find_holes h) h

section
variable {C R B F : Int} {cl l m : List Int}
theorem more_left (h : findErr C R B F cl (l ++ m) = 0) : findErr C R B F cl l = 0 ∧ (findL C R B F cl l).length ≤ (findL C R B F cl (l ++ m)).length := by
  have hk := find_holes h
  have hk1 : HolesOk C R B F cl l := ⟨hk.ok, by have := hk.len; rw [List.length_append] at this; omega, fun x hx => hk.all x (by simp [hx])⟩
  refine find_of_cov hk1 (cov_mono (fun i hi => ?_) (find_best h).cov)
  rw [isIn_iff] at hi ⊢
  rw [colm_append]
  exact List.mem_append.2 (.inl hi)
theorem more_right (h : findErr C R B F cl (l ++ m) = 0) : findErr C R B F cl m = 0 ∧ (findL C R B F cl m).length ≤ (findL C R B F cl (l ++ m)).length := by
  have hk := find_holes h
  have hk1 : HolesOk C R B F cl m := ⟨hk.ok, by have := hk.len; rw [List.length_append] at this; omega, fun x hx => hk.all x (by simp [hx])⟩
  refine find_of_cov hk1 (cov_mono (fun i hi => ?_) (find_best h).cov)
  rw [isIn_iff] at hi ⊢
  rw [colm_append]
  exact List.mem_append.2 (.inr hi)
theorem more_both (h1 : findErr C R B F cl l = 0) (h2 : findErr C R B F cl m = 0) (hl : l.length + m.length ≤ 200) : findErr C R B F cl (l ++ m) = 0 ∧ (findL C R B F cl (l ++ m)).length ≤ (findL C R B F cl l).length + (findL C R B F cl m).length := by
  have k1 := find_holes h1
  have k2 := find_holes h2
  have hk : HolesOk C R B F cl (l ++ m) := ⟨k1.ok, by rw [List.length_append]; omega, fun x hx => (List.mem_append.1 hx).elim (k1.all x) (k2.all x)⟩
  rw [← List.length_append]
  refine find_of_cov hk (cov_union (fun i hi => ?_) (find_best h1).cov (find_best h2).cov)
  rw [isIn_iff, colm_append] at hi
  rw [isIn_iff, isIn_iff]
  exact List.mem_append.1 hi
/-- one hole more -/
theorem more_one {x : Int} (h1 : findErr C R B F cl l = 0) (h2 : findErr C R B F cl (l ++ [x]) = 0) : (findL C R B F cl (l ++ [x])).length ≤ (findL C R B F cl l).length + 1 := by
  have hb := find_best h2
  have hk := find_holes h2
  have k3 := hk.ok.c3
  have m0 := Int.emod_nonneg x (b := C) (by omega)
  have m1 := Int.emod_lt_of_pos x (b := C) (by omega)
  obtain ⟨t, ht, hr⟩ := hb.cov.all (x % C) m0 m1 (by rw [isIn_iff, Int.toNat_of_nonneg m0, colm_append]; simp [colm])
  have := hb.least ((findL C R B F cl l) ++ [t]) (cov_union (q2 := isIn [x % C]) (fun i hi => ?_) (find_best h1).cov ⟨by simpa using hb.cov.op t ht, fun y y0 y1 hy => ⟨t, by simp, ?_⟩⟩)
  · simpa using this
  · rw [isIn_iff, colm_append] at hi
    rw [isIn_iff, isIn_iff]
    simpa [colm] using hi
  · rw [isIn_iff, Int.toNat_of_nonneg y0] at hy
    rw [List.mem_singleton.1 hy]
    exact hr
theorem more_err1 {x : Int} (hl : l.length ≤ 30) (hok : findErr C R B F cl l = 0) (h : findErr C R B F cl (l ++ [x]) ≠ 0) : findErr C R B F cl (l ++ [x]) = 1 ∨ findErr C R B F cl (l ++ [x]) = 5 := by
  have k1 := find_holes hok
  by_cases hk : HolesOk C R B F cl (l ++ [x])
  · exact .inr (find_none hk h).1
  · left
    rw [(find_bad_err hk).1, holesErr_ok _ k1.ok, if_neg (by simp; omega), if_neg]
    intro ha
    exact hk ⟨k1.ok, by simp; omega, ha⟩

/-- the columns without the one at k -/
def lessOf (cs : List Int) (k : Nat) : List Int := cs.take k ++ cs.drop (k + 1)
theorem less_mem {cs : List Int} (h : cs.Pairwise (· < ·)) {k : Nat} (hk : k < cs.length) {x : Int} : x ∈ lessOf cs k ↔ x ∈ cs ∧ x ≠ cs[k] := by
  have e : cs = cs.take k ++ cs[k] :: cs.drop (k + 1) := by rw [List.getElem_cons_drop, List.take_append_drop]
  have hp := h
  rw [e, List.pairwise_append] at hp
  have hp2 := List.pairwise_cons.1 hp.2.1
  have em : x ∈ cs ↔ x ∈ cs.take k ∨ x = cs[k] ∨ x ∈ cs.drop (k + 1) := by
    constructor
    · intro hx
      rw [e] at hx
      rcases List.mem_append.1 hx with hx | hx
      · exact .inl hx
      · exact .inr (List.mem_cons.1 hx)
    · intro hx
      rw [e]
      rcases hx with hx | hx
      · exact List.mem_append.2 (.inl hx)
      · exact List.mem_append.2 (.inr (List.mem_cons.2 hx))
  rw [em]
  unfold lessOf
  rw [List.mem_append]
  constructor
  · rintro (hx | hx)
    · exact ⟨.inl hx, fun e => by have := hp.2.2 x hx cs[k] List.mem_cons_self; omega⟩
    · exact ⟨.inr (.inr hx), fun e => by have := hp2.1 x hx; omega⟩
  · rintro ⟨hx | hx | hx, hne⟩
    · exact .inl hx
    · exact absurd hx hne
    · exact .inr hx
theorem cols_rise (p : Nat → Bool) : (cols p).Pairwise (· < ·) := colsTo_rise p 120
theorem cols_in {C : Int} (h2 : C ≤ 120) (h1 : 1 ≤ C) (l : List Int) {x : Int} : x ∈ cols (isIn (colm C l)) ↔ x ∈ colm C l := by
  have hb : ∀ y ∈ colm C l, 0 ≤ y ∧ y < C := fun y hy => by
    obtain ⟨z, _, rfl⟩ := List.mem_map.1 hy
    exact ⟨Int.emod_nonneg _ (by omega), Int.emod_lt_of_pos _ (by omega)⟩
  rw [cols_iff h2 (fun i hi => by rw [isIn_iff] at hi; exact (hb _ hi).2)]
  constructor
  · rintro ⟨x0, _, hx⟩
    rwa [isIn_iff, Int.toNat_of_nonneg x0] at hx
  · intro hx
    have := hb x hx
    exact ⟨this.1, this.2, by rwa [isIn_iff, Int.toNat_of_nonneg this.1]⟩
/-- one column less -/
theorem less_find (h : findErr C R B F cl l = 0) {k : Nat} (hk : k < (cols (isIn (colm C l))).length) :
    findErr C R B F cl (lessOf (cols (isIn (colm C l))) k) = 0 ∧
    (findL C R B F cl (lessOf (cols (isIn (colm C l))) k)).length ≤ (findL C R B F cl l).length ∧
    (findL C R B F cl l).length ≤ (findL C R B F cl (lessOf (cols (isIn (colm C l))) k)).length + 1 ∧
    ((findL C R B F cl (lessOf (cols (isIn (colm C l))) k)).length + 1 = (findL C R B F cl l).length ↔ (cols (isIn (colm C l)))[k] ∈ savL C R B F cl l) := by
  have hho := find_holes h
  have hb := find_best h
  have k1 := hho.ok.c3
  have k2 := hho.ok.c120
  have hci := fun x => cols_in (C := C) k2 (by omega) l (x := x)
  have hcb := hho.cols
  have hrise := cols_rise (isIn (colm C l))
  have hlen : (cols (isIn (colm C l))).length ≤ 120 := colsTo_len _ _
  generalize hcs : cols (isIn (colm C l)) = cs at *
  obtain ⟨xx, hxx⟩ : ∃ xx, cs[k] = xx := ⟨_, rfl⟩
  have hxc : xx ∈ colm C l := by rw [← hci, ← hxx]; exact List.getElem_mem hk
  have hlm : ∀ x, x ∈ lessOf cs k ↔ x ∈ cs ∧ x ≠ xx := fun x => by rw [less_mem hrise hk, hxx]
  have hll : (lessOf cs k).length ≤ 200 := by unfold lessOf; rw [List.length_append, List.length_take, List.length_drop]; omega
  have hR := hho.ok.r1
  have hbd : ∀ x ∈ lessOf cs k, 0 ≤ x ∧ x < C := fun x hx => hcb x ((hci x).1 ((hlm x).1 hx).1)
  have hCR : C ≤ C * R := by have := Int.mul_le_mul_of_nonneg_left hR (show 0 ≤ C by omega); omega
  have hle : HolesOk C R B F cl (lessOf cs k) := ⟨hho.ok, hll, fun x hx => by have := hbd x hx; omega⟩
  have hcm : colm C (lessOf cs k) = lessOf cs k := by
    unfold colm
    conv => rhs; rw [← List.map_id (lessOf cs k)]
    exact List.map_congr_left fun x hx => Int.emod_eq_of_lt (hbd x hx).1 (hbd x hx).2
  have hq : ∀ i : Nat, isIn (colm C (lessOf cs k)) i = (fun i : Nat => if (i : Int) = xx then false else isIn (colm C l) i) i := fun i => by
    rw [hcm]
    dsimp only
    rw [Bool.eq_iff_iff, isIn_iff, hlm, hci]
    by_cases hi : (i : Int) = xx
    · simp [hi]
    · simp [hi, isIn_iff]
  have hqq : isIn (colm C (lessOf cs k)) = fun i : Nat => if (i : Int) = xx then false else isIn (colm C l) i := funext hq
  have hcl : Cov C B F (isIn cl) (isIn (colm C (lessOf cs k))) (findL C R B F cl l) := cov_mono (fun i hi => by rw [hqq] at hi; dsimp only at hi; split at hi; cases hi; exact hi) hb.cov
  obtain ⟨e0, e1⟩ := find_of_cov hle hcl
  have hb' := find_best e0
  have hx0 := hcb xx hxc
  have e2 : (findL C R B F cl l).length ≤ (findL C R B F cl (lessOf cs k)).length + 1 := by
    obtain ⟨t, ht, hr⟩ := hb.cov.all xx hx0.1 hx0.2 (by rw [isIn_iff, Int.toNat_of_nonneg hx0.1]; exact hxc)
    have := hb.least ((findL C R B F cl (lessOf cs k)) ++ [t]) (cov_union (q2 := isIn [xx]) (fun i hi => ?_) hb'.cov ⟨by simpa using hb.cov.op t ht, fun y y0 y1 hy => ⟨t, by simp, ?_⟩⟩)
    · simpa using this
    · rw [hqq]
      by_cases hix : (i : Int) = xx
      · exact .inr (by rw [isIn_iff, hix]; simp)
      · exact .inl (by dsimp only; rw [if_neg hix]; exact hi)
    · rw [isIn_iff, Int.toNat_of_nonneg y0] at hy
      rw [List.mem_singleton.1 hy]
      exact hr
  refine ⟨e0, e1, e2, ?_⟩
  unfold savL
  rw [if_pos h, hxx, saves_iff (L := findL C R B F cl l) hho.dims k2 (fun i hi => (hcb _ (isIn_iff.1 hi)).2)]
  constructor
  · intro hlen'
    refine ⟨⟨hx0.1, hx0.2, by rw [isIn_iff, Int.toNat_of_nonneg hx0.1]; exact hxc⟩, _, by rw [← hqq]; exact hb'.cov, by omega⟩
  · rintro ⟨_, S, hS, hSl⟩
    rw [← hqq] at hS
    have := hb'.least S hS
    omega
end
end Go.Proofs.Ytnjmkdgglpcfpaa
