import Derived.Test.YteoemmgelalcaaaGreatB
import Derived.Test.YteoemmgelalcaaaGreatH
import Derived.Test.YteoemmgelalcaaaGreatV42
set_option autoImplicit false
set_option maxRecDepth 100000
set_option linter.unusedSimpArgs false
set_option linter.unusedVariables false
namespace Go.Proofs.YteoemmgelalcaaaGreat
open Go.Proofs.YteoemmgelalcaaaGreat.Ev
theorem p3 (x : List Bool) (gs : List (List Int)) : PurOk Tryz.prog 3 [encB x, encG gs] (.bool true) := by
  refine pur_wp (cs := [c4 head4, c5, c6, c7]) (isP := isP) (keep := false) mixed ?_
  have K4 := @k4 head4 [c4 head4, c5, c6, c7] rfl
  have K5 := @k5 [c4 head4, c5, c6, c7] rfl x gs
  have K6 := @k6 [c4 head4, c5, c6, c7] rfl x gs
  have K7 := @k7 [c4 head4, c5, c6, c7] rfl x gs
  rw [e3]
  by_cases hx : (60 : Int) < x.length
  · simp -implicitDefEqProofs [K4, hx]
  by_cases hg : (70 : Int) < gs.length
  · simp -implicitDefEqProofs [K4, hx, hg]
  simp -implicitDefEqProofs [K4, hx, hg]
  refine loop_rule (isP := isP) (fun m a st => ∃ (i : Nat) (t : Regs), a = ⟨57, t, []⟩ ∧ st = S0 ∧
    gt t 0 = encB x ∧ gt t 1 = encG gs ∧ gt t 5 = .bool true ∧ gt t 6 = I64 i ∧ i ≤ gs.length ∧ m = gs.length - i ∧ ∀ j, j < i → (gs.getD j []).length ≤ 60) ?_ gs.length _ _ ⟨0, _, rfl, rfl, by simp, by simp, by simp, by simp, by simp, by simp, by simp⟩
  rintro m a st ⟨i, t, rfl, rfl, g0, g1, g5, g6, hi, rfl, hall⟩
  rw [e3_b0, g1, g5, g6]
  by_cases hlt : i < gs.length
  · have hw : IntKind.i64.wrap ((i : Int) + 1) = (i : Int) + 1 := wrap64 (by omega)
    have hi2 : (i : Int) < gs.length := by omega
    by_cases h60 : (60 : Int) < gs[i].length
    · simp -implicitDefEqProofs [hlt, hi2, hw, h60, o3]
    · simp -implicitDefEqProofs [hlt, hi2, hw, h60]
      refine ⟨_, by omega, g0, g1, g5, i + 1, by omega, by omega, rfl, fun j hj => ?_⟩
      by_cases hji : j < i
      · exact hall j hji
      · obtain rfl : j = i := by omega
        have : (gs[j]?.getD []) = gs[j] := by simp [hlt]
        rw [this]; omega
  · have hi2 : ¬ (i : Int) < gs.length := by omega
    obtain rfl : i = gs.length := by omega
    have hG : Gok gs := ⟨by omega, fun j => by
      by_cases hj : j < gs.length
      · have := hall j hj; omega
      · simp [List.getD, show gs.length ≤ j by omega]⟩
    have k5 := K5 (by omega) hG
    have k6 := K6 (by omega) hG
    have k7 := K7 hG
    simp -implicitDefEqProofs [hi2, e3_r0, o3, g0, g1, g5, k5, k6]
    unfold cutR
    by_cases hE : cutE x gs = 0
    · have hS : cutS x gs = encS x.length gs.length (cells x gs gs.length) := by rw [cutS, if_pos hE]
      rw [hS] at k7 ⊢
      unfold encS at k7 ⊢
      simp -implicitDefEqProofs [hE, push_obj, set_obj, k7]
    · have hS : cutS x gs = encS 0 0 [] := by rw [cutS, if_neg hE]
      rw [hS] at k7 ⊢
      unfold encS at k7 ⊢
      simp -implicitDefEqProofs [hE, push_obj, set_obj, k7]
end Go.Proofs.YteoemmgelalcaaaGreat

set_option autoImplicit false
set_option maxRecDepth 100000
set_option linter.unusedSimpArgs false
set_option linter.unusedVariables false
namespace Go.Proofs.YteoemmgelalcaaaGreat
open Go.Proofs.YteoemmgelalcaaaGreat.Ev
theorem cells4 : Tryz.prog.cellsOf 4 = 1 := by kernel_rfl
theorem cells3 : Tryz.prog.cellsOf 3 = 1 := by kernel_rfl
theorem cells25 : Tryz.prog.cellsOf 25 = 1 := by kernel_rfl
theorem sh_bools {d : Nat} {us : List Value} (h : Sh Tryz.prog (d + 2) 22 us) : ∃ l : List Bool, us = [encB l] := by
  unfold Sh at h
  simp only [Tryz.underlying22] at h
  obtain ⟨n, cs, rfl, _, h2, h3⟩ := h
  rw [cells4] at h2 h3
  obtain ⟨l, rfl, rfl, _⟩ := list_of1 (e := Value.bool) (Q := fun _ => True) h2 fun i hi => by
    have := h3 i hi
    unfold Sh at this
    simp only [Tryz.underlying4] at this
    obtain ⟨b, hb⟩ := this
    exact ⟨b, trivial, hb⟩
  exact ⟨l, rfl⟩
theorem sh_ints {d : Nat} {us : List Value} (h : Sh Tryz.prog (d + 2) 25 us) : ∃ l : List Int, us = [encI l] := by
  unfold Sh at h
  simp only [Tryz.underlying25] at h
  obtain ⟨n, cs, rfl, _, h2, h3⟩ := h
  rw [cells3] at h2 h3
  obtain ⟨l, rfl, rfl, _⟩ := list_of1 (e := Value.int .i64) (Q := fun _ => True) h2 fun i hi => by
    have := h3 i hi
    unfold Sh at this
    simp only [Tryz.underlying3] at this
    obtain ⟨b, hb, _⟩ := this
    exact ⟨b, trivial, hb⟩
  exact ⟨l, rfl⟩
theorem sh_groups {d : Nat} {us : List Value} (h : Sh Tryz.prog (d + 3) 23 us) : ∃ l : List (List Int), us = [encG l] := by
  unfold Sh at h
  simp only [Tryz.underlying23] at h
  obtain ⟨n, cs, rfl, _, h2, h3⟩ := h
  rw [cells25] at h2 h3
  obtain ⟨l, rfl, rfl, _⟩ := list_of1 (e := encI) (Q := fun _ => True) h2 fun i hi => by
    obtain ⟨b, hb⟩ := sh_ints (h3 i hi)
    exact ⟨b, trivial, hb⟩
  exact ⟨l, rfl⟩
theorem stickCuts_pur : ∀ us, ShAll Tryz.prog 3 [22, 23] us → PurOk Tryz.prog 3 us (.bool true) := by
  rintro us ⟨u0, us1, rfl, h0, u1, us2, rfl, h1, h2⟩
  have h2 : us2 = [] := h2
  subst h2
  unfold ShV at h0 h1
  simp only [Tryz.underlying22] at h0
  simp only [Tryz.underlying23] at h1
  obtain ⟨x, hx⟩ := sh_bools h0
  obtain ⟨gs, hg⟩ := sh_groups h1
  simp only [List.cons.injEq, and_true] at hx hg
  rw [hx, hg]
  exact p3 x gs
end Go.Proofs.YteoemmgelalcaaaGreat

