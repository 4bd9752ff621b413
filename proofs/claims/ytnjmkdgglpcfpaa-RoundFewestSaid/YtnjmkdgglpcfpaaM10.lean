import Derived.Test.YtnjmkdgglpcfpaaM8
namespace Go.Proofs.Ytnjmkdgglpcfpaa
set_option linter.unusedVariables false

/- Plain mathematics of the reference's line and fewest. -/
/-- stands that reach all columns of a list -/
structure CovL (C B F : Int) (p : Nat → Bool) (cols : List Int) (S : List Int) : Prop where
  op : ∀ t ∈ S, Op C p t
  all : ∀ x ∈ cols, ∃ t ∈ S, rch C B F t x = true
/-- how many stands reach all columns at least; -1 if none do -/
def LineP (C B F : Int) (p : Nat → Bool) (cols : List Int) (r : Int) : Prop :=
  (r = -1 ∧ ∃ x ∈ cols, ∀ t, Op C p t → rch C B F t x = false) ∨ (∃ S, CovL C B F p cols S ∧ (S.length : Int) = r ∧ ∀ S', CovL C B F p cols S' → S.length ≤ S'.length)
section
variable {C B F : Int} {p : Nat → Bool} {cols : List Int}
theorem LineP.nil : LineP C B F p [] 0 := .inr ⟨[], ⟨by simp, by simp⟩, rfl, fun _ _ => Nat.zero_le _⟩
theorem LineP.none {d : Int} (hd : d ∈ cols) (h : ∀ t, Op C p t → rch C B F t d = false) : LineP C B F p cols (-1) := .inl ⟨rfl, d, hd, h⟩
/-- a stand that reaches d is one of those that are gone through -/
theorem reach_at {d t : Int} (h : Dims C B F) (ht0 : 0 ≤ t) (ht1 : t < C) (hr : rch C B F t d = true) : ∃ j : Nat, (j : Int) ≤ B + F ∧ (d + (B - (j : Int))) % C = t := by
  have hr := rch_iff.1 hr
  have c1 := h.c1
  have n0 := Int.emod_nonneg (d + (B - t)) (b := C) (by omega)
  have e1 := Int.emod_add_mul_ediv (d + (B - t)) C
  refine ⟨((d + (B - t)) % C).toNat, by omega, ?_⟩
  rw [Int.toNat_of_nonneg n0]
  exact emod_of (k := (d + (B - t)) / C) ht0 ht1 (by omega)
theorem far_at {d : Int} (h : Dims C B F) (d0 : 0 ≤ d) (d1 : d < C) (j : Nat) (hj : (j : Int) ≤ B + F) (hs : ∀ j' : Nat, j' < j → p ((d + (B - (j' : Int))) % C).toNat = true) (ho : p ((d + (B - (j : Int))) % C).toNat = false) : far C B F p d = (d + (B - (j : Int))) % C := by
  obtain ⟨h1, h2, h3, h4⟩ := h
  obtain ⟨f1, f2, f3, f4⟩ := farN_spec C p d (B + F).toNat B
  have e : farN C p d B (B + F).toNat = B - j := by
    have g1 : B - j ≤ farN C p d B (B + F).toNat := by
      apply Classical.byContradiction
      intro hn
      have := f3 (B - j) (by omega) (by omega)
      rw [ho] at this
      cases this
    apply Classical.byContradiction
    intro hn
    have hlt : B - j < farN C p d B (B + F).toNat := by omega
    generalize farN C p d B (B + F).toNat = f at *
    have hj' := hs (B - f).toNat (by omega)
    rw [Int.toNat_of_nonneg (by omega), show B - (B - f) = f by omega] at hj'
    rcases f4 with f4 | f4
    · omega
    · rw [hj'] at f4; cases f4
  unfold far
  rw [e]
/-- one stand taken -/
theorem LineP.step {s0 d s : Int} {rest : List Int} {r : Int} (h : Dims C B F) (hb : ∀ x ∈ cols, Bh C B F s0 x) (hd : d ∈ cols) (hdl : ∀ x ∈ cols, offs C s0 d ≤ offs C s0 x) (hs : Op C p s) (hsd : rch C B F s d = true) (hfar : far C B F p d = s)
    (hrest : ∀ x, x ∈ rest ↔ x ∈ cols ∧ rch C B F s x = false) (hr : LineP C B F p rest r) : (r < 0 → LineP C B F p cols (-1)) ∧ (0 ≤ r → LineP C B F p cols (r + 1)) := by
  rcases hr with ⟨rfl, x, hx, hno⟩ | ⟨S, hS, hl, hmin⟩
  · exact ⟨fun _ => .inl ⟨rfl, x, ((hrest x).1 hx).1, hno⟩, fun h => by omega⟩
  · refine ⟨fun h => by omega, fun _ => .inr ⟨S ++ [s], ⟨fun t ht => ?_, fun x hx => ?_⟩, by rw [List.length_append, List.length_singleton]; omega, fun S' hS' => ?_⟩⟩
    · rcases List.mem_append.1 ht with ht | ht
      · exact hS.op t ht
      · rw [List.mem_singleton.1 ht]; exact hs
    · cases hrx : rch C B F s x with
      | true => exact ⟨s, by simp, hrx⟩
      | false =>
        obtain ⟨t, ht, hr⟩ := hS.all x ((hrest x).2 ⟨hx, hrx⟩)
        exact ⟨t, List.mem_append.2 (.inl ht), hr⟩
    · obtain ⟨t, ht, htd⟩ := hS'.all d hd
      have hto := hS'.op t ht
      have := hmin (S'.erase t) ⟨fun u hu => hS'.op u (List.mem_of_mem_erase hu), fun x hx => by
        obtain ⟨hxc, hxn⟩ := (hrest x).1 hx
        obtain ⟨u, hu, hur⟩ := hS'.all x hxc
        refine ⟨u, (List.mem_erase_of_ne ?_).2 hu, hur⟩
        rintro rfl
        have := far_max h (hb d hd) (hb x hxc) (hdl x hxc) hto htd hur
        rw [hfar, hxn] at this
        cases this⟩
      have hl' := List.length_erase_of_mem ht
      have : 0 < S'.length := List.length_pos_of_mem ht
      rw [List.length_append, List.length_singleton]
      omega
theorem covL_each : ∀ cols : List Int, (∀ x ∈ cols, ∃ t, Op C p t ∧ rch C B F t x = true) → ∃ S, S.length = cols.length ∧ CovL C B F p cols S
  | [], _ => ⟨[], rfl, by simp, by simp⟩
  | x :: cols, h => by
    obtain ⟨S, h1, h2⟩ := covL_each cols fun y hy => h y (by simp [hy])
    obtain ⟨t, ht, hr⟩ := h x (by simp)
    refine ⟨t :: S, by simp [h1], fun u hu => ?_, fun y hy => ?_⟩
    · rcases List.mem_cons.1 hu with rfl | hu
      · exact ht
      · exact h2.op u hu
    · rcases List.mem_cons.1 hy with rfl | hy
      · exact ⟨t, by simp, hr⟩
      · obtain ⟨u, hu, hur⟩ := h2.all y hy
        exact ⟨u, List.mem_cons_of_mem _ hu, hur⟩
theorem LineP.le {r : Int} (h : LineP C B F p cols r) : r ≤ cols.length := by
  rcases h with ⟨rfl, _⟩ | ⟨S, h1, h2, h3⟩
  · omega
  · obtain ⟨S', e, h4⟩ := covL_each cols fun x hx => by
      obtain ⟨t, ht, hr⟩ := h1.all x hx
      exact ⟨t, h1.op t ht, hr⟩
    have := h3 S' h4
    omega
end
end Go.Proofs.Ytnjmkdgglpcfpaa
namespace Go.Proofs.Ytnjmkdgglpcfpaa
set_option linter.unusedVariables false
section
variable {C B F : Int} {p : Nat → Bool} {cols : List Int}
/-- how the search for a fewest round stands behind some first stands -/
def BestP (C B F : Int) (p : Nat → Bool) (cols : List Int) (fs : List Int) (rest : Int → List Int) (best : Int) : Prop :=
  (best = -1 ∧ ∀ s ∈ fs, ∀ S, ¬ CovL C B F p (rest s) S) ∨ (∃ S, CovL C B F p cols S ∧ (S.length : Int) = best ∧ ∀ s ∈ fs, ∀ S', CovL C B F p (rest s) S' → S.length ≤ S'.length + 1)
theorem LineP.no {r : Int} (h : LineP C B F p cols r) (hr : r < 0) {S : List Int} : ¬ CovL C B F p cols S := by
  intro hS
  rcases h with ⟨_, x, hx, hno⟩ | ⟨S', _, h2, _⟩
  · obtain ⟨t, ht, hr⟩ := hS.all x hx
    rw [hno t (hS.op t ht)] at hr
    cases hr
  · omega
theorem BestP.nil {rest : Int → List Int} : BestP C B F p cols [] rest (-1) := .inl ⟨rfl, by simp⟩
theorem BestP.skip {fs : List Int} {rest : Int → List Int} {best r s : Int} (h : BestP C B F p cols fs rest best) (hr : LineP C B F p (rest s) r) (hc : r < 0 ∨ (0 ≤ best ∧ best ≤ r + 1)) : BestP C B F p cols (fs ++ [s]) rest best := by
  have hle : ∀ S', CovL C B F p (rest s) S' → 0 ≤ best ∧ best ≤ S'.length + 1 := fun S' hS' => by
    rcases hc with hc | hc
    · exact absurd hS' (hr.no hc)
    · rcases hr with ⟨h1, x, hx, hno⟩ | ⟨S, _, h2, h3⟩
      · obtain ⟨t, ht, hrr⟩ := hS'.all x hx
        rw [hno t (hS'.op t ht)] at hrr
        cases hrr
      · have := h3 S' hS'
        omega
  rcases h with ⟨h1, h2⟩ | ⟨S, h1, h2, h3⟩
  · refine .inl ⟨h1, fun t ht S' hS' => ?_⟩
    rcases List.mem_append.1 ht with ht | ht
    · exact h2 t ht S' hS'
    · rw [List.mem_singleton.1 ht] at hS'
      have := hle S' hS'
      omega
  · refine .inr ⟨S, h1, h2, fun t ht S' hS' => ?_⟩
    rcases List.mem_append.1 ht with ht | ht
    · exact h3 t ht S' hS'
    · rw [List.mem_singleton.1 ht] at hS'
      have := hle S' hS'
      omega
theorem BestP.take {fs : List Int} {rest : Int → List Int} {best r s : Int} (h : BestP C B F p cols fs rest best) (hs : Op C p s) (hrest : ∀ x, x ∈ cols → rch C B F s x = false → x ∈ rest s) (hr : LineP C B F p (rest s) r) (h0 : 0 ≤ r) (hc : best < 0 ∨ r + 1 < best) : BestP C B F p cols (fs ++ [s]) rest (r + 1) := by
  rcases hr with ⟨h1, _⟩ | ⟨S, hS, hl, hmin⟩
  · omega
  · refine .inr ⟨S ++ [s], ⟨fun t ht => ?_, fun x hx => ?_⟩, by rw [List.length_append, List.length_singleton]; omega, fun t ht S' hS' => ?_⟩
    · rcases List.mem_append.1 ht with ht | ht
      · exact hS.op t ht
      · rw [List.mem_singleton.1 ht]; exact hs
    · cases hrx : rch C B F s x with
      | true => exact ⟨s, by simp, hrx⟩
      | false =>
        obtain ⟨t, ht, hr⟩ := hS.all x (hrest x hx hrx)
        exact ⟨t, List.mem_append.2 (.inl ht), hr⟩
    · rw [List.length_append, List.length_singleton]
      rcases List.mem_append.1 ht with ht | ht
      · rcases h with ⟨h1, h2⟩ | ⟨S0, _, h2, h3⟩
        · exact absurd hS' (h2 t ht S')
        · have := h3 t ht S' hS'
          omega
      · rw [List.mem_singleton.1 ht] at hS'
        have := hmin S' hS'
        omega
theorem BestP.done {fs : List Int} {rest : Int → List Int} {best c0 : Int} (h : BestP C B F p cols fs rest best) (hc0 : c0 ∈ cols) (hfs : ∀ t, Op C p t → rch C B F t c0 = true → t ∈ fs) (hrest : ∀ s x, x ∈ rest s → x ∈ cols ∧ rch C B F s x = false) : LineP C B F p cols best := by
  have key : ∀ S, CovL C B F p cols S → ∃ s ∈ fs, s ∈ S ∧ CovL C B F p (rest s) (S.erase s) := fun S hS => by
    obtain ⟨s, hs, hr⟩ := hS.all c0 hc0
    refine ⟨s, hfs s (hS.op s hs) hr, hs, fun t ht => hS.op t (List.mem_of_mem_erase ht), fun x hx => ?_⟩
    obtain ⟨h1, h2⟩ := hrest s x hx
    obtain ⟨t, ht, htr⟩ := hS.all x h1
    refine ⟨t, (List.mem_erase_of_ne ?_).2 ht, htr⟩
    rintro rfl
    rw [h2] at htr
    cases htr
  rcases h with ⟨h1, h2⟩ | ⟨S, h1, h2, h3⟩
  · subst h1
    apply Classical.byContradiction
    intro hn
    have hall : ∀ x ∈ cols, ∃ t, Op C p t ∧ rch C B F t x = true := fun x hx => by
      apply Classical.byContradiction
      intro hx2
      refine hn (.inl ⟨rfl, x, hx, fun t ht => ?_⟩)
      cases hr : rch C B F t x with
      | false => rfl
      | true => exact absurd ⟨t, ht, hr⟩ hx2
    obtain ⟨S, _, hS⟩ := covL_each cols hall
    obtain ⟨s, hs, _, hc⟩ := key S hS
    exact h2 s hs _ hc
  · refine .inr ⟨S, h1, h2, fun S' hS' => ?_⟩
    obtain ⟨s, hs, hm, hc⟩ := key S' hS'
    have := h3 s hs _ hc
    have hl := List.length_erase_of_mem hm
    have : 0 < S'.length := List.length_pos_of_mem hm
    omega
end
end Go.Proofs.Ytnjmkdgglpcfpaa
