import Derived.Test.YtolgomkmilbkgaaGreatB
import Derived.Test.YtolgomkmilbkgaaGreatV45
set_option autoImplicit false
set_option maxRecDepth 100000
set_option linter.unusedSimpArgs false
set_option linter.unusedVariables false
namespace Go.Proofs.YtolgomkmilbkgaaGreat
open Go.Proofs.YtolgomkmilbkgaaGreat.Ev

/-! # isUndercut 121 -/
def fareP (b : Br) (i : Nat) : Int := match b.days[i]? with | some d => d.fare | none => 0
theorem fareP_at {b : Br} {i : Nat} (h : i < b.days.length) : fareP b i = b.days[i].fare := by unfold fareP; rw [List.getElem?_eq_getElem h]
theorem Good.fare {b : Br} (g : Good b) (i : Nat) : 0 ≤ fareP b i ∧ fareP b i ≤ 100000 := by
  unfold fareP
  by_cases h : i < b.days.length
  · rw [List.getElem?_eq_getElem h]; exact ⟨(g.at h).f0, (g.at h).f1⟩
  · rw [List.getElem?_eq_none (by omega)]; simp
def tgtN (b : Br) (i : Nat) : List Nat := (List.range' i (b.days.length - i)).takeWhile fun t => canI b (i : Int) t
theorem tgtL_eq (b : Br) (i : Nat) : tgtL b i i (b.days.length - i) = (tgtN b i).map fun (t : Nat) => [I64 (t : Int)] := rfl
theorem tgtN_mem {b : Br} {i t : Nat} (h : t ∈ tgtN b i) : i ≤ t ∧ t < b.days.length := by
  have := List.takeWhile_prefix (fun t : Nat => canI b (i : Int) t) |>.subset h
  rw [List.mem_range'_1] at this
  omega
def undB (b : Br) (m : Bool) (i : Nat) (l : List Int) : Bool := Gr.undL (fareP b i) (fun t => nth l t - grainP b m i t) 0 (tgtN b i)
/-- Prices that are not too great. -/
def Pr (l : List Int) : Prop := ∀ t, -1099511627776 ≤ nth l t ∧ nth l t ≤ 1099511627776
@[simp high] theorem boxN_I (l : List Int) (st : St) : boxN (encI l) st = .ok (ptr st.next 0) (st.push (rowOf [encI l] 0 true)) := by
  unfold encI fsl; exact boxN_fsl _ _ _
theorem max_zero (sv : Int) : minMaxA false [I64 sv, I64 0] = some (I64 (max sv 0)) := by
  show bsel (kEq .i64 .i64) (some (Value.int .i64 (bsel (ltI sv 0) 0 sv))) none = _
  have hk : kEq .i64 .i64 = true := rfl
  rw [hk, bsel_true, ltI_eq]
  by_cases h : sv < 0
  · rw [decide_eq_true h, bsel_true, show max sv 0 = 0 by omega]
  · rw [decide_eq_false h, show max sv 0 = sv by omega]; rfl
def UI (b : Br) (m : Bool) (i : Nat) (l : List Int) (ys : List (List Value)) (s : St) : Prop :=
  ∃ (sv : Int) (zs : List Nat), ys = zs.map (fun (t : Nat) => [I64 (t : Int)]) ∧ s.obj 0 = rowOf (encPl b m) 0 true ∧ s.obj 1 = rowOf [I64 (i : Int)] 0 true ∧ s.obj 2 = rowOf [encI l] 0 true ∧ s.obj 3 = rowOf [.bool false] 0 true ∧
    s.obj 4 = rowOf [I64 sv] 0 true ∧ s.obj 5 = .deferred ∧ 7 ≤ s.next ∧ (∀ z, z ∈ zs → z ∈ tgtN b i) ∧ -2199023255552 ≤ sv ∧ sv ≤ 100000 ∧ Gr.undL (fareP b i) (fun t => nth l t - grainP b m i t) sv zs = undB b m i l
theorem p121 (b : Br) (m : Bool) (i : Nat) (l : List Int) (g : Good b) (hi : i < b.days.length) (hl : l.length = b.days.length) (hp : Pr l) : PurOk Tryz.prog 121 [encP b m, I64 i, encI l] (.bool (undB b m i l)) := by
  refine pur_wp (cs := [c118, c119, c124]) (isP := isP) (keep := false) mixed ?_
  have K119 := @k119 [c118, c119, c124] rfl b m i
  have K124 := @k124 [c118, c119, c124] rfl b m i
  have hy := yields147 (cs := [c118, c119, c124]) rfl rfl b m i hi (by have := g.len; omega)
  rw [e121]
  simp -implicitDefEqProofs [push_obj, set_obj, K124]
  refine range_none (isP := isP) (k := 147) (first := []) (cap := [pN i, pP b m]) rfl (by show gt _ 11 = _; simp; rfl) (by kernel_rfl) hy (UI b m i l) ?_ ?_ ?_ ?_
  · rintro ys s s' e1 e2 ⟨sv, zs, h1, h2, h3, h4, h5, h6, h7, h8, h9, h10, h11, h12⟩
    have e2 : ∀ b, b ≠ 6 → s'.obj b = s.obj b := by simpa using e2
    exact ⟨sv, zs, h1, by rw [e2 0 (by omega), h2], by rw [e2 1 (by omega), h3], by rw [e2 2 (by omega), h4], by rw [e2 3 (by omega), h5], by rw [e2 4 (by omega), h6], by rw [e2 5 (by omega), h7], by omega, h9, h10, h11, h12⟩
  · intro s e1 e2 e3
    simp at e1 e2
    refine ⟨0, tgtN b i, tgtL_eq b i, ?_, ?_, ?_, ?_, ?_, e2, by omega, fun z h => h, by omega, by omega, rfl⟩
    · rw [e3 0 (by simp)]; simp [push_obj, set_obj]
    · rw [e3 1 (by simp)]; simp [push_obj, set_obj]
    · rw [e3 2 (by simp)]; simp [push_obj, set_obj]
    · rw [e3 3 (by simp)]; simp [push_obj, set_obj]
    · rw [e3 4 (by simp)]; simp [push_obj, set_obj]
  · rintro x rest s ⟨sv, zs, h1, h2, h3, h4, h5, h6, h7, h8, h9, h10, h11, h12⟩ hlp
    obtain ⟨z, zs, rfl, rfl, rfl⟩ : ∃ z zs', zs = z :: zs' ∧ x = [I64 z] ∧ rest = zs'.map (fun (i : Nat) => [I64 (i : Int)]) := by
      cases zs with
      | nil => simp at h1
      | cons z zs => simp at h1; exact ⟨z, zs, rfl, h1.1, h1.2⟩
    refine ⟨_, rfl, ?_⟩
    rw [e121_b0]
    refine ⟨rfl, rfl, fun s1' e1 e2 hl1 => ?_⟩
    have e2 : ∀ b, b ≠ 6 → s1'.obj b = s.obj b := by simpa using e2
    have o0 := (e2 0 (by omega)).trans h2
    have o1 := (e2 1 (by omega)).trans h3
    have o2 := (e2 2 (by omega)).trans h4
    have o3 := (e2 3 (by omega)).trans h5
    have o4 := (e2 4 (by omega)).trans h6
    have o5 := (e2 5 (by omega)).trans h7
    rw [e121_b1]
    obtain ⟨hz1, hz2⟩ := tgtN_mem (h9 z (by simp))
    have hzl : z < l.length := by omega
    have hgd : nth l z = l[z] := nth_at hzl
    have hpr := hp z
    have hgr := g.grain m hz1 hz2
    have hfr := g.fare i
    have hfe := fareP_at hi
    have w1 : IntKind.i64.wrap (max sv 0 + l[z]) = max sv 0 + l[z] := wrap64 (by omega)
    have hsum : max sv 0 + l[z] - grainP b m i z = max sv 0 + (nth l z - grainP b m i z) := by rw [hgd]; omega
    have w2 : IntKind.i64.wrap (max sv 0 + l[z] - grainP b m i z) = max sv 0 + (nth l z - grainP b m i z) := by rw [wrap64 (by omega), hsum]
    have K119z := K119 z g hz1 hz2
    have hund : undB b m i l = if fareP b i < max sv 0 + (nth l z - grainP b m i z) then true else Gr.undL (fareP b i) (fun t => nth l t - grainP b m i t) (max sv 0 + (nth l z - grainP b m i z)) zs := by rw [← h12]; rfl
    have n0 : 0 < s1'.next := by omega
    have n1 : 1 < s1'.next := by omega
    have n2 : 2 < s1'.next := by omega
    have n4 : 4 < s1'.next := by omega
    by_cases hgt : fareP b i < max sv 0 + (nth l z - grainP b m i z)
    · rw [if_pos hgt] at hund
      simp -implicitDefEqProofs [o0, o1, o2, o3, o4, set_obj, hi, hzl, max_zero, w1, w2, K119z, hfe.symm, hgt, n0, n1, n2, n4]
      intro s' q1 q2
      have q3 : s'.obj 3 = rowOf [.bool true] 0 true := by rw [q2 3 (by omega)]; simp [set_obj]
      have q5 : s'.obj 5 = .deferred := by rw [q2 5 (by omega)]; simp [set_obj, o5]
      simp -implicitDefEqProofs [od121]
      rw [leaveK_cons (by simpa using q5)]
      simp -implicitDefEqProofs [set_obj, q3, hund]
    · rw [if_neg hgt] at hund
      simp -implicitDefEqProofs [o0, o1, o2, o3, o4, set_obj, hi, hzl, max_zero, w1, w2, K119z, hfe.symm, hgt, n0, n1, n2, n4]
      refine ⟨_, zs, rfl, by simp [set_obj, o0], by simp [set_obj, o1], by simp [set_obj, o2], by simp [set_obj, o3], by simp [set_obj], by simp [set_obj, o5], by simp; omega, fun z' h => h9 z' (by simp [h]), by omega, by omega, hund.symm⟩
  · rintro s ⟨sv, zs, h1, h2, h3, h4, h5, h6, h7, h8, h9, h10, h11, h12⟩
    obtain rfl : zs = [] := by simpa using h1.symm
    have : undB b m i l = false := by rw [← h12]; rfl
    simp -implicitDefEqProofs [e121_r0, h5, set_obj, od121]
    rw [leaveK_cons (by simp [set_obj]; exact h7)]
    simp -implicitDefEqProofs [set_obj, this]
end Go.Proofs.YtolgomkmilbkgaaGreat

set_option autoImplicit false
set_option maxRecDepth 100000
set_option linter.unusedSimpArgs false
set_option linter.unusedVariables false
namespace Go.Proofs.YtolgomkmilbkgaaGreat
open Go.Proofs.YtolgomkmilbkgaaGreat.Ev

/-! # The barn as maths has it -/
def barn (b : Br) (m : Bool) : Gr.Barn := ⟨needP b m, fun i t => canI b i t && decide (t < b.days.length), grainP b m, fareP b, fun i => priceP b i - b.night * i⟩
theorem canI_le {b : Br} {i : Int} {t : Nat} (h : canI b i t = true) : 0 ≤ i ∧ i ≤ t := by
  unfold canI isF at h; simp at h; omega
theorem canI_iff {b : Br} {i t : Nat} : canI b i t = true ↔ i ≤ t ∧ (t : Int) - i ≤ b.keep ∧ ∃ h : i < b.days.length, b.days[i].closed = false := by
  unfold canI isF
  rw [Int.toNat_natCast]
  by_cases h : i < b.days.length
  · rw [List.getElem?_eq_getElem h]
    simp [h]
    constructor
    · rintro ⟨⟨h1, h2⟩, h3⟩; exact ⟨h1, h2, h3⟩
    · rintro ⟨h1, h2, h3⟩; exact ⟨⟨h1, h2⟩, h3⟩
  · rw [List.getElem?_eq_none (by omega)]
    simp [h]
theorem barn_ok {b : Br} (g : Good b) (m : Bool) : (barn b m).Ok where
  need0 t := (g.need m t).1
  fare0 i := (g.fare i).1
  le i t h := by
    have h : (canI b i t && decide (t < b.days.length)) = true := h
    rw [Bool.and_eq_true, canI_iff] at h
    exact h.1.1
  mid i t u h h1 h2 := by
    have h : (canI b i t && decide (t < b.days.length)) = true := h
    show (canI b i u && decide (u < b.days.length)) = true
    rw [Bool.and_eq_true, canI_iff, decide_eq_true_iff] at h ⊢
    obtain ⟨⟨a1, a2, a3⟩, a4⟩ := h
    exact ⟨⟨h1, by omega, a3⟩, by omega⟩
  on i j u v h h' h1 h2 := by
    have h : (canI b j u && decide (u < b.days.length)) = true := h
    have h' : (canI b i v && decide (v < b.days.length)) = true := h'
    show (canI b j v && decide (v < b.days.length)) = true
    rw [Bool.and_eq_true, canI_iff, decide_eq_true_iff] at h h' ⊢
    obtain ⟨⟨a1, a2, a3⟩, a4⟩ := h
    obtain ⟨⟨c1, c2, c3⟩, c4⟩ := h'
    exact ⟨⟨by omega, by omega, a3⟩, c4⟩
  g0 i t h := by
    have h : needP b m t = 0 := h
    show needP b m t * _ = 0
    rw [h, Int.zero_mul]
  gle i j t h := by
    have h : priceP b j - b.night * j ≤ priceP b i - b.night * i := h
    show needP b m t * _ ≤ needP b m t * _
    refine Int.mul_le_mul_of_nonneg_left ?_ (g.need m t).1
    rw [Int.mul_sub, Int.mul_sub]
    omega
/-- A list as a way. -/
def wOf (l : List Int) (t : Nat) : Option Nat := if nth l t < 0 then none else some (nth l t).toNat
theorem way_of {b : Br} {m : Bool} {l : List Int} (g : Good b) (h : isWayB b m l = true) : l.length = b.days.length ∧ Gr.Way (barn b m) (wOf l) b.days.length ∧ ∀ t, t < b.days.length → (needP b m t = 0 → nth l t = -1) ∧ (needP b m t ≠ 0 → canI b (nth l t) t = true) := by
  unfold isWayB at h
  rw [Bool.and_eq_true, decide_eq_true_iff] at h
  obtain ⟨h1, h2⟩ := h
  have h2 := AllTo.of h2
  have key : ∀ t, t < b.days.length → (needP b m t = 0 → nth l t = -1) ∧ (needP b m t ≠ 0 → canI b (nth l t) t = true) := fun t ht => by
    have := h2 t ht
    unfold okT at this
    refine ⟨fun h0 => ?_, fun h0 => ?_⟩
    · rw [if_pos h0] at this; simpa using this
    · rw [if_neg h0] at this; exact this
  refine ⟨h1, fun t ht => ⟨fun h0 => ?_, fun h0 => ?_⟩, key⟩
  · unfold wOf; rw [(key t ht).1 h0]; rfl
  · have hc := (key t ht).2 h0
    have := canI_le hc
    refine ⟨(nth l t).toNat, by unfold wOf; rw [if_neg (by omega)], ?_⟩
    show (canI b ((nth l t).toNat : Nat) t && decide (t < b.days.length)) = true
    rw [show (((nth l t).toNat : Nat) : Int) = nth l t by omega, hc, decide_eq_true ht]; rfl

/-! # cost 73 -/
def costP (b : Br) (m : Bool) (l : List Int) : Int := Gr.cost (barn b m) (wOf l) b.days.length
theorem cost_some {B : Gr.Barn} (ok : B.Ok) {w : Nat → Option Nat} {n i : Nat} (h : Gr.Way B w (n + 1)) (hw : w n = some i) : Gr.cost B w (n + 1) = Gr.cost B w n + B.g i n + (if Gr.used w n i = true then 0 else B.fare i) := by
  have hin := (Gr.way_le ok h (by omega) hw).2
  have hf : ∀ k, Gr.fw B w (n + 1) k = Gr.fw B w n k + (if k = i then (if Gr.used w n i = true then 0 else B.fare i) else 0) := fun k => by
    have hu : Gr.used w (n + 1) k = true ↔ Gr.used w n k = true ∨ k = i := by
      rw [Gr.used_iff, Gr.used_iff]
      constructor
      · rintro ⟨t, ht, hk⟩
        by_cases e : t = n
        · subst e; rw [hw] at hk; cases hk; exact .inr rfl
        · exact .inl ⟨t, by omega, hk⟩
      · rintro (⟨t, ht, hk⟩ | rfl)
        · exact ⟨t, by omega, hk⟩
        · exact ⟨n, by omega, hw⟩
    unfold Gr.fw
    by_cases h1 : Gr.used w n k = true
    · rw [if_pos (hu.2 (.inl h1)), if_pos h1]
      by_cases h2 : k = i
      · rw [if_pos h2, ← h2, if_pos h1]; omega
      · rw [if_neg h2]; omega
    · rw [if_neg h1]
      by_cases h2 : k = i
      · rw [if_pos (hu.2 (.inr h2)), if_pos h2, ← h2, if_neg h1]; omega
      · rw [if_neg fun e => by rcases hu.1 e with e | e; exact h1 e; exact h2 e, if_neg h2]; omega
  have hn : Gr.fw B w n n = 0 := by
    unfold Gr.fw
    rw [if_neg]
    intro e
    obtain ⟨t, ht, hk⟩ := Gr.used_iff.1 e
    have := (Gr.way_le ok h (show t < n + 1 by omega) hk).2
    omega
  have e1 : Gr.S (Gr.fw B w (n + 1)) (n + 1) = Gr.S (Gr.fw B w n) (n + 1) + (if Gr.used w n i = true then 0 else B.fare i) := by
    rw [Gr.S_congr fun k _ => hf k, Gr.S_add, Gr.S_one, if_pos (by omega)]
  have e2 : Gr.S (Gr.fw B w n) (n + 1) = Gr.S (Gr.fw B w n) n := by
    show Gr.S (Gr.fw B w n) n + Gr.fw B w n n = _
    rw [hn]; omega
  have e3 : Gr.gw B w n = B.g i n := by unfold Gr.gw; rw [hw]
  show Gr.S (Gr.gw B w) n + Gr.gw B w n + Gr.S (Gr.fw B w (n + 1)) (n + 1) = Gr.S (Gr.gw B w) n + Gr.S (Gr.fw B w n) n + _ + _
  rw [e1, e2, e3]; omega
def CI (b : Br) (m : Bool) (l : List Int) (i : Nat) (st : St) : Prop :=
  st.obj 0 = rowOf (encPl b m) 0 true ∧ (∃ ks, IsSet (st.obj 1) ks ∧ ∀ k : Nat, ((k : Int) ∈ ks ↔ Gr.used (wOf l) i k = true)) ∧ 0 ≤ Gr.cost (barn b m) (wOf l) i ∧ Gr.cost (barn b m) (wOf l) i ≤ 61100000 * i
theorem p73 (b : Br) (m : Bool) (l : List Int) (g : Good b) (hw : isWayB b m l = true) : PurOk Tryz.prog 73 [encP b m, encI l] (I64 (costP b m l)) := by
  refine pur_wp (cs := [c80, c119]) (isP := isP) (keep := false) mixed ?_
  have K119 := @k119 [c80, c119] rfl b m
  obtain ⟨hl, hway, hkey⟩ := way_of g hw
  have hl2 : (l.length : Int) = b.days.length := by omega
  have hlen := g.len
  rw [e73]
  simp -implicitDefEqProofs [push_obj, newMap_eq, hl2]
  refine loop_rule (isP := isP) (fun n a st => ∃ (i : Nat) (t : Regs), a = ⟨42, t, []⟩ ∧ gt t 2 = ptr 0 0 ∧ gt t 5 = I64 (Gr.cost (barn b m) (wOf l) i) ∧ gt t 6 = .map (some 1) ∧ gt t 10 = encI l ∧ gt t 11 = I64 b.days.length ∧ gt t 12 = I64 i ∧
    i ≤ b.days.length ∧ n = b.days.length - i ∧ CI b m l i st) ?_ b.days.length _ _
    ⟨0, _, rfl, by simp, by simp [Gr.cost, Gr.S], by simp, by simp, by simp, by simp, by simp, by simp, by simp [push_obj], ⟨[], by simpa [push_obj] using IsSet.new, fun k => by simp [Gr.used]⟩, by simp [Gr.cost, Gr.S], by simp [Gr.cost, Gr.S]⟩
  rintro n a st ⟨i, t, rfl, g2, g5, g6, g10, g11, g12, hi, rfl, o0, ⟨ks, hset, hks⟩, hb1, hb2⟩
  rw [e73_b0]
  by_cases hlt : i < b.days.length
  · have hwr : IntKind.i64.wrap ((i : Int) + 1) = (i : Int) + 1 := wrap64 (by omega)
    have hi2 : (i : Int) < b.days.length := by omega
    have hil : i < l.length := by omega
    have hgd : nth l i = l[i] := nth_at hil
    have hwi : Gr.Way (barn b m) (wOf l) (i + 1) := fun t ht => hway t (by omega)
    by_cases hneg : nth l i < 0
    · have hnone : wOf l i = none := by unfold wOf; rw [if_pos hneg]
      have hcost := Gr.cost_none (barn_ok g m) hwi hnone
      rw [hgd] at hneg
      simp -implicitDefEqProofs [g2, g5, g6, g10, g11, g12, o0, hi2, hil, hwr, hneg]
      refine ⟨_, by omega, i + 1, hcost.symm, by omega, by omega, rfl, o0, ⟨ks, hset, fun k => ?_⟩, by omega, by omega⟩
      rw [hks, Gr.used_iff, Gr.used_iff]
      constructor
      · rintro ⟨t, ht, hk⟩; exact ⟨t, by omega, hk⟩
      · rintro ⟨t, ht, hk⟩
        by_cases e : t = i
        · subst e; rw [hnone] at hk; cases hk
        · exact ⟨t, by omega, hk⟩
    · obtain ⟨j, hj⟩ : ∃ j : Nat, nth l i = j := ⟨(nth l i).toNat, by omega⟩
      have hsome : wOf l i = some j := by unfold wOf; rw [hj, if_neg (by omega)]; simp
      have hcj := Gr.way_le (barn_ok g m) hwi (by omega) hsome
      have hcost := cost_some (barn_ok g m) hwi hsome
      have hgr := g.grain m hcj.2 hlt
      have hfr := g.fare j
      have hK := K119 j i g hcj.2 hlt
      have hjl : j < b.days.length := by omega
      have hlj : l[i] = (j : Int) := by rw [← hgd, hj]
      have hfe := fareP_at hjl
      have hfm : (barn b m).fare j = fareP b j := rfl
      have hgm : (barn b m).g j i = grainP b m j i := rfl
      rw [hfm, hgm] at hcost
      have hused : ∀ k : Nat, Gr.used (wOf l) (i + 1) k = true ↔ Gr.used (wOf l) i k = true ∨ k = j := fun k => by
        rw [Gr.used_iff, Gr.used_iff]
        constructor
        · rintro ⟨t, ht, hk⟩
          by_cases e : t = i
          · subst e; rw [hsome] at hk; cases hk; exact .inr rfl
          · exact .inl ⟨t, by omega, hk⟩
        · rintro (⟨t, ht, hk⟩ | rfl)
          · exact ⟨t, by omega, hk⟩
          · exact ⟨i, by omega, hsome⟩
      have w1 : IntKind.i64.wrap (Gr.cost (barn b m) (wOf l) i + grainP b m j i) = Gr.cost (barn b m) (wOf l) i + grainP b m j i := wrap64 (by omega)
      have hj0 : ¬ (j : Int) < 0 := by omega
      have hlook := lookup_set (k := (j : Int)) hset
      by_cases hin : Gr.used (wOf l) i j = true
      · have hmem : (j : Int) ∈ ks := (hks j).2 hin
        rw [if_pos hin] at hcost
        simp -implicitDefEqProofs [g2, g5, g6, g10, g11, g12, o0, hi2, hil, hwr, hlj, hj0, hK, w1, hlook, hmem]
        refine ⟨_, by omega, i + 1, by omega, by omega, by omega, rfl, o0, ⟨ks, hset, fun k => ?_⟩, by omega, by omega⟩
        rw [hks, hused]
        exact ⟨.inl, fun h => h.elim id fun e => e ▸ hin⟩
      · have hmem : ¬ (j : Int) ∈ ks := fun h => hin ((hks j).1 h)
        obtain ⟨o, ho1, ho2⟩ := set_new (k := (j : Int)) hset hmem
        rw [if_neg hin] at hcost
        have w2 : IntKind.i64.wrap (Gr.cost (barn b m) (wOf l) i + grainP b m j i + fareP b j) = Gr.cost (barn b m) (wOf l) (i + 1) := by rw [wrap64 (by omega), hcost]
        simp -implicitDefEqProofs [g2, g5, g6, g10, g11, g12, o0, hi2, hil, hwr, hlj, hj0, hK, w1, hlook, hmem, ho1, set_obj, hjl, hfe.symm, w2]
        refine ⟨_, by omega, i + 1, by omega, rfl, by omega, rfl, by simp [set_obj, o0], ⟨ks ++ [(j : Int)], by simpa [set_obj] using ho2, fun k => ?_⟩, by omega, by omega⟩
        rw [hused, ← hks, List.mem_append, List.mem_singleton, Int.ofNat_inj]
  · have hi2 : ¬ (i : Int) < b.days.length := by omega
    obtain rfl : i = b.days.length := by omega
    simp -implicitDefEqProofs [g5, g11, g12, hi2, e73_r0, o73]
    rfl
noncomputable def c73 : Con Tryz.prog := mkCon 73 false (fun x : Br × Bool × List Int => [encP x.1 x.2.1, encI x.2.2]) (fun x => Good x.1 ∧ isWayB x.1 x.2.1 x.2.2 = true) (fun x => I64 (costP x.1 x.2.1 x.2.2)) bi_inj (fun x h => p73 x.1 x.2.1 x.2.2 h.1 h.2)
theorem k73 {cs : List (Con Tryz.prog)} (h : cs.find? (fun c => c.f == 73) = some c73) (b : Br) (m : Bool) (l : List Int) (g : Good b) (hw : isWayB b m l = true) (st : St) : pcall (orcL cs) 73 [encP b m, encI l] st = some (I64 (costP b m l)) :=
  pcall_mk h (b, m, l) ⟨g, hw⟩ (pv2 (p8P _ _) (p8L _)) st

/-! # isProof 74 -/
noncomputable def c121 : Con Tryz.prog := mkCon 121 false (fun x : Br × Bool × Nat × List Int => [encP x.1 x.2.1, I64 x.2.2.1, encI x.2.2.2]) (fun x => Good x.1 ∧ x.2.2.1 < x.1.days.length ∧ x.2.2.2.length = x.1.days.length ∧ Pr x.2.2.2) (fun x => .bool (undB x.1 x.2.1 x.2.2.1 x.2.2.2))
  (fun ⟨_, _, _, _⟩ ⟨_, _, _, _⟩ h => by
    simp only [List.cons.injEq, Value.int.injEq, and_true, true_and] at h; obtain ⟨rfl, rfl⟩ := encP_inj h.1; have := h.2.1; rw [encI_inj h.2.2]; congr; omega) (fun x h => p121 x.1 x.2.1 x.2.2.1 x.2.2.2 h.1 h.2.1 h.2.2.1 h.2.2.2)
theorem k121 {cs : List (Con Tryz.prog)} (h : cs.find? (fun c => c.f == 121) = some c121) (b : Br) (m : Bool) (i : Nat) (l : List Int) (g : Good b) (hi : i < b.days.length) (hl : l.length = b.days.length) (hp : Pr l) (st : St) : pcall (orcL cs) 121 [encP b m, I64 i, encI l] st = some (.bool (undB b m i l)) :=
  pcall_mk h (b, m, i, l) ⟨g, hi, hl, hp⟩ (pv3 (p8P _ _) (p8I _) (p8L _)) st
theorem are_of {b : Br} {m : Bool} {l : List Int} {cost : Int} (h : arePB b m l cost = true) : l.length = b.days.length ∧ Pr l ∧ (∀ t, t < b.days.length → needP b m t = 0 → nth l t = 0) ∧ Gr.S (fun t => nth l t) b.days.length = cost := by
  unfold arePB at h
  rw [Bool.and_eq_true, Bool.and_eq_true, decide_eq_true_iff, decide_eq_true_iff] at h
  obtain ⟨⟨h1, h2⟩, h3⟩ := h
  have h2 := AllTo.of h2
  refine ⟨h1, fun t => ?_, fun t ht h0 => ?_, h3⟩
  · by_cases ht : t < b.days.length
    · have := h2 t ht
      unfold okP isF at this
      simp at this
      exact this.1
    · have : nth l t = 0 := by unfold nth; rw [List.getD_eq_getElem?_getD, List.getElem?_eq_none (by omega)]; rfl
      omega
  · have := h2 t ht
    unfold okP at this
    simp [h0] at this
    exact this.2
def proofB (b : Br) (m : Bool) (l : List Int) (cost : Int) : Bool := arePB b m l cost && (List.range b.days.length).all fun i => !undB b m i l
theorem p74 (b : Br) (m : Bool) (l : List Int) (cost : Int) (g : Good b) : PurOk Tryz.prog 74 [encP b m, encI l, I64 cost] (.bool (proofB b m l cost)) := by
  refine pur_wp (cs := [c120, c121]) (isP := isP) (keep := false) mixed ?_
  have K120 := fun st => @k120 [c120, c121] rfl b m l cost g st
  have K121 := @k121 [c120, c121] rfl b m
  rw [e74]
  cases hA : arePB b m l cost with
  | false =>
    have : proofB b m l cost = false := by unfold proofB; rw [hA]; rfl
    simp -implicitDefEqProofs [push_obj, K120, hA, this]
  | true =>
    obtain ⟨hl, hp, -, -⟩ := are_of hA
    have hc : proofB b m l cost = (List.range b.days.length).all fun i => !undB b m i l := by unfold proofB; rw [hA]; rfl
    have hlen := g.len
    simp -implicitDefEqProofs [push_obj, K120, hA]
    refine loop_rule (isP := isP) (fun n a st => ∃ (i : Nat) (t : Regs), a = ⟨25, t, []⟩ ∧ gt t 1 = encI l ∧ gt t 3 = ptr 0 0 ∧ st.obj 0 = rowOf (encPl b m) 0 true ∧ gt t 16 = I64 b.days.length ∧ gt t 17 = I64 i ∧
      i ≤ b.days.length ∧ n = b.days.length - i ∧ AllTo (fun i => !undB b m i l) i) ?_ b.days.length _ _ ⟨0, _, rfl, by simp, by simp, by simp [push_obj], by simp, by simp, by simp, by simp, .zero _⟩
    rintro n a st ⟨i, t, rfl, g1, g3, o0, g16, g17, hi, rfl, hall⟩
    rw [e74_b0]
    by_cases hlt : i < b.days.length
    · have hw : IntKind.i64.wrap ((i : Int) + 1) = (i : Int) + 1 := wrap64 (by omega)
      have hi2 : (i : Int) < b.days.length := by omega
      have hK := K121 i l g hlt hl hp
      cases hx : undB b m i l with
      | false =>
        simp -implicitDefEqProofs [g1, g3, g16, g17, o0, hi2, hw, hK, hx]
        exact ⟨_, by omega, i + 1, by omega, by omega, rfl, hall.next (by simp [hx])⟩
      | true =>
        have : proofB b m l cost = false := by rw [hc, rg_not hlt (by simp [hx])]
        simp -implicitDefEqProofs [g1, g3, g16, g17, o0, hi2, hw, hK, hx, o74, this]
    · have hi2 : ¬ (i : Int) < b.days.length := by omega
      obtain rfl : i = b.days.length := by omega
      have : proofB b m l cost = true := by rw [hc, hall.all]
      simp -implicitDefEqProofs [g16, g17, hi2, e74_r0, o74, this]
noncomputable def c74 : Con Tryz.prog := mkCon 74 false (fun x : Br × Bool × List Int × Int => [encP x.1 x.2.1, encI x.2.2.1, I64 x.2.2.2]) (fun x => Good x.1) (fun x => .bool (proofB x.1 x.2.1 x.2.2.1 x.2.2.2)) bic_inj (fun x h => p74 x.1 x.2.1 x.2.2.1 x.2.2.2 h)
theorem k74 {cs : List (Con Tryz.prog)} (h : cs.find? (fun c => c.f == 74) = some c74) (b : Br) (m : Bool) (l : List Int) (cost : Int) (g : Good b) (st : St) : pcall (orcL cs) 74 [encP b m, encI l, I64 cost] st = some (.bool (proofB b m l cost)) :=
  pcall_mk h (b, m, l, cost) g (pv3 (p8P _ _) (p8L _) (p8I _)) st
end Go.Proofs.YtolgomkmilbkgaaGreat

set_option autoImplicit false
set_option maxRecDepth 100000
set_option linter.unusedSimpArgs false
set_option linter.unusedVariables false
namespace Go.Proofs.YtolgomkmilbkgaaGreat
open Go.Proofs.YtolgomkmilbkgaaGreat.Ev

@[simp high] theorem build_P (b : Br) (m : Bool) : buildA (.str [(.int .i64 (0)), (.int .i64 (0)), (.slice none 0 0), (.bool false)] [(0, 3), (3, 1)]) [(0, encB b), (1, .bool m)] = some (encP b m) := rfl
@[simp high] theorem st_P (b : Br) (m : Bool) (nm : Nat) (st : St) : storeN (.agg 4) (ptr nm 0) (encP b m) st = stOk 4 0 (encPl b m) nm (st.obj nm) st := rfl
@[simp high] theorem stR_P (b : Br) (m : Bool) (nm : Nat) (u v w x : Value) (st : St) : stOk 4 0 (encPl b m) nm (rowOf [u, v, w, x] 0 true) st = .ok junk (st.setObj nm (rowOf (encPl b m) 0 true)) := by
  rw [stOk_row]; simp [encPl, encDs]

/-! # Cost 21 -/
def costN (b : Br) (m : Bool) (l : List Int) : Int := if chk b = 0 ∧ isWayB b m l = true then costP b m l else 0
def costE (b : Br) (m : Bool) (l : List Int) : Int := if chk b = 0 then (if isWayB b m l = true then 0 else 1) else chk b
theorem pe_of (b : Br) (m : Bool) : Value.agg ⟨[I64 b.night, I64 b.keep, encDs b.days, .bool m]⟩ = encP b m := rfl
theorem p21 (b : Br) (m : Bool) (l : List Int) : PurOk Tryz.prog 21 [encB b, .bool m, encI l] (.tuple ⟨[I64 (costN b m l), I64 (costE b m l)]⟩) := by
  refine pur_wp (cs := [c46, c72, c73]) (isP := isP) (keep := false) mixed ?_
  have K46 := fun st => @k46 [c46, c72, c73] rfl b st
  rw [e21]
  by_cases hc : chk b = 0
  · have g := good_of hc
    have K72 := fun st => @k72 [c46, c72, c73] rfl b m l g st
    cases hw : isWayB b m l with
    | true =>
      have K73 := fun st => @k73 [c46, c72, c73] rfl b m l g hw st
      simp -implicitDefEqProofs [push_obj, set_obj, K46, K72, K73, hc, hw, costN, costE]
      exact snap_tup (pv2' (p7I _) (p7I _))
    | false =>
      simp -implicitDefEqProofs [push_obj, set_obj, K46, K72, hc, hw, costN, costE]
      exact snap_tup (pv2' (p7I _) (p7I _))
  · simp -implicitDefEqProofs [push_obj, set_obj, K46, hc, costN, costE]
    exact snap_tup (pv2' (p7I _) (p7I _))
theorem bb_inj : ∀ x y : Br × Bool × List Int, [encB x.1, .bool x.2.1, encI x.2.2] = [encB y.1, .bool y.2.1, encI y.2.2] → x = y := fun ⟨_, _, _⟩ ⟨_, _, _⟩ h => by
  simp only [List.cons.injEq, Value.bool.injEq, and_true] at h; rw [encB_inj h.1, h.2.1, encI_inj h.2.2]
noncomputable def c21 : Con Tryz.prog := mkCon 21 false (fun x : Br × Bool × List Int => [encB x.1, .bool x.2.1, encI x.2.2]) (fun _ => True) (fun x => .tuple ⟨[I64 (costN x.1 x.2.1 x.2.2), I64 (costE x.1 x.2.1 x.2.2)]⟩) bb_inj (fun x _ => p21 x.1 x.2.1 x.2.2)
theorem k21 {cs : List (Con Tryz.prog)} (h : cs.find? (fun c => c.f == 21) = some c21) (b : Br) (m : Bool) (l : List Int) (st : St) : pcall (orcL cs) 21 [encB b, .bool m, encI l] st = some (.tuple ⟨[I64 (costN b m l), I64 (costE b m l)]⟩) :=
  pcall_mk h (b, m, l) trivial (pv3 (p8B _) (p8b _) (p8L _)) st

/-! # CheckBest 20 -/
structure Lt where
  bought : List Int
  cost : Int
  prices : List Int
noncomputable def encLl (x : Lt) : List Value := [encI x.bought, I64 x.cost, encI x.prices]
noncomputable def encL (x : Lt) : Value := .agg ⟨encLl x⟩
theorem encL_inj {x y : Lt} (h : encL x = encL y) : x = y := by
  obtain ⟨a, c, d⟩ := x
  obtain ⟨a', c', d'⟩ := y
  simp [encL, encLl] at h
  obtain ⟨h1, rfl, h3⟩ := h
  rw [encI_inj h1, encI_inj h3]
theorem encL_pv (x : Lt) : Pv 2 (encL x) := .agg fun u hu => by
  simp only [encLl, List.mem_cons, List.not_mem_nil, or_false] at hu
  rcases hu with rfl | rfl | rfl
  · exact encI_pv _
  · exact (Pv.int _ _).mono (by omega)
  · exact encI_pv _
theorem p8Lt (x : Lt) : Pv 8 (encL x) := (encL_pv x).mono (by omega)
@[simp high] theorem boxN_L (x : Lt) (st : St) : boxN (encL x) st = .ok (ptr st.next 0) (st.push (rowOf (encLl x) 0 true)) := boxN_agg _ _
@[simp] theorem L_0 (x : Lt) : (encLl x)[0]? = some (encI x.bought) := rfl
@[simp] theorem L_1 (x : Lt) : (encLl x)[1]? = some (I64 x.cost) := rfl
@[simp] theorem L_2 (x : Lt) : (encLl x)[2]? = some (encI x.prices) := rfl
@[simp high] theorem ldL (x : Lt) (st : St) : ldO (.agg 3) 0 (rowOf (encLl x) 0 true) st = .ok (encL x) st := by rw [ldO_agg]; rfl
def chkBest (b : Br) (m : Bool) (x : Lt) : Int := if chk b = 0 then (if isWayB b m x.bought = true ∧ x.cost = costP b m x.bought ∧ proofB b m x.prices x.cost = true then 0 else 8) else chk b
theorem p20 (b : Br) (m : Bool) (x : Lt) : PurOk Tryz.prog 20 [encB b, .bool m, encL x] (I64 (chkBest b m x)) := by
  refine pur_wp (cs := [c46, c72, c73, c74]) (isP := isP) (keep := false) mixed ?_
  have K46 := fun st => @k46 [c46, c72, c73, c74] rfl b st
  rw [e20]
  by_cases hc : chk b = 0
  · have g := good_of hc
    have K72 := fun st => @k72 [c46, c72, c73, c74] rfl b m x.bought g st
    have K74 := fun st => @k74 [c46, c72, c73, c74] rfl b m x.prices x.cost g st
    cases hw : isWayB b m x.bought with
    | true =>
      have K73 := fun st => @k73 [c46, c72, c73, c74] rfl b m x.bought g hw st
      by_cases hx : x.cost = costP b m x.bought
      · cases hp : proofB b m x.prices x.cost with
        | true =>
          have K74 := fun st => (K74 st).trans (by rw [hp])
          have : chkBest b m x = 0 := by unfold chkBest; rw [if_pos hc, if_pos ⟨hw, hx, hp⟩]
          rw [this]
          simp -implicitDefEqProofs [push_obj, set_obj, K46, K72, K73, K74, hc, hw, hx.symm]
        | false =>
          have : chkBest b m x = 8 := by unfold chkBest; rw [if_pos hc, if_neg fun h => by rw [hp] at h; exact absurd h.2.2 (by simp)]
          rw [this]
          simp -implicitDefEqProofs [push_obj, set_obj, K46, K72, K73, K74, hc, hw, hx.symm, hp]
      · have : chkBest b m x = 8 := by unfold chkBest; rw [if_pos hc, if_neg fun h => hx h.2.1]
        rw [this]
        simp -implicitDefEqProofs [push_obj, set_obj, K46, K72, K73, K74, hc, hw, hx]
    | false =>
      have : chkBest b m x = 8 := by unfold chkBest; rw [if_pos hc, if_neg fun h => by rw [hw] at h; exact absurd h.1 (by simp)]
      rw [this]
      simp -implicitDefEqProofs [push_obj, set_obj, K46, K72, hc, hw]
  · have : chkBest b m x = chk b := by unfold chkBest; rw [if_neg hc]
    rw [this]
    simp -implicitDefEqProofs [push_obj, set_obj, K46, hc]
noncomputable def c20 : Con Tryz.prog := mkCon 20 false (fun x : Br × Bool × Lt => [encB x.1, .bool x.2.1, encL x.2.2]) (fun _ => True) (fun x => I64 (chkBest x.1 x.2.1 x.2.2)) (fun ⟨_, _, _⟩ ⟨_, _, _⟩ h => by
  simp only [List.cons.injEq, Value.bool.injEq, and_true] at h; rw [encB_inj h.1, h.2.1, encL_inj h.2.2]) (fun x _ => p20 x.1 x.2.1 x.2.2)
theorem k20 {cs : List (Con Tryz.prog)} (h : cs.find? (fun c => c.f == 20) = some c20) (b : Br) (m : Bool) (x : Lt) (st : St) : pcall (orcL cs) 20 [encB b, .bool m, encL x] st = some (I64 (chkBest b m x)) :=
  pcall_mk h (b, m, x) trivial (pv3 (p8B _) (p8b _) (p8Lt _)) st

/-! # few 16, short 17 -/
def fewB (b : Br) : Bool := decide (b.days.length ≤ 8) || (decide (60 < b.days.length) && decide (b.days.length ≤ 80))
theorem p16 (b : Br) : PurOk Tryz.prog 16 [encB b] (.bool (fewB b)) := by
  refine pur_wp (cs := []) (isP := isP) (keep := false) mixed ?_
  rw [e16]
  by_cases h1 : b.days.length ≤ 8
  · have h1' : (b.days.length : Int) ≤ 8 := by omega
    simp -implicitDefEqProofs [push_obj, h1', fewB, h1]
  · have h1' : ¬ (b.days.length : Int) ≤ 8 := by omega
    by_cases h2 : 60 < b.days.length
    · have h2' : (60 : Int) < b.days.length := by omega
      by_cases h3 : b.days.length ≤ 80
      · have h3' : (b.days.length : Int) ≤ 80 := by omega
        simp -implicitDefEqProofs [push_obj, h1', fewB, h1, h2, h2', h3, h3']
      · have h3' : ¬ (b.days.length : Int) ≤ 80 := by omega
        simp -implicitDefEqProofs [push_obj, h1', fewB, h1, h2, h2', h3, h3']
    · have h2' : ¬ (60 : Int) < b.days.length := by omega
      simp -implicitDefEqProofs [push_obj, h1', fewB, h1, h2, h2']
noncomputable def c16 : Con Tryz.prog := mkCon 16 false (fun x : Br => [encB x]) (fun _ => True) (fun x => .bool (fewB x)) (fun x y h => encB_inj (by simpa using h)) (fun x _ => p16 x)
theorem k16 {cs : List (Con Tryz.prog)} (h : cs.find? (fun c => c.f == 16) = some c16) (b : Br) (st : St) : pcall (orcL cs) 16 [encB b] st = some (.bool (fewB b)) :=
  pcall_mk h b trivial (pv1 (p8B _)) st
theorem p17 (l : List Int) : PurOk Tryz.prog 17 [encI l] (.bool (decide (l.length ≤ 80))) := by
  refine pur_wp (cs := []) (isP := isP) (keep := false) mixed ?_
  rw [e17]
  by_cases h : l.length ≤ 80
  · have h' : (l.length : Int) ≤ 80 := by omega
    simp -implicitDefEqProofs [h, h']
  · have h' : ¬ (l.length : Int) ≤ 80 := by omega
    simp -implicitDefEqProofs [h, h']
noncomputable def c17 : Con Tryz.prog := mkCon 17 false (fun x : List Int => [encI x]) (fun _ => True) (fun x => .bool (decide (x.length ≤ 80))) (fun x y h => encI_inj (by simpa using h)) (fun x _ => p17 x)
theorem k17 {cs : List (Con Tryz.prog)} (h : cs.find? (fun c => c.f == 17) = some c17) (l : List Int) (st : St) : pcall (orcL cs) 17 [encI l] st = some (.bool (decide (l.length ≤ 80))) :=
  pcall_mk h l trivial (pv1 (p8L _)) st
end Go.Proofs.YtolgomkmilbkgaaGreat

set_option autoImplicit false
set_option maxRecDepth 100000
set_option linter.unusedSimpArgs false
set_option linter.unusedVariables false
namespace Go.Proofs.YtolgomkmilbkgaaGreat
open Go.Proofs.YtolgomkmilbkgaaGreat.Ev

/-! # Courses as values -/
noncomputable def encC (c : Gr.Cs) : List Value := [I64 c.cost, I64 (c.day : Int), I64 (c.first : Int)]
noncomputable def encCs (l : List Gr.Cs) : Value := fsl l.length (l.flatMap encC)
theorem encC_len (c : Gr.Cs) : (encC c).length = 3 := rfl
theorem encC_inj {x y : Gr.Cs} (h : encC x = encC y) : x = y := by
  obtain ⟨a, c, d⟩ := x
  obtain ⟨a', c', d'⟩ := y
  simp [encC] at h
  obtain ⟨rfl, h2, h3⟩ := h
  obtain rfl := Int.ofNat_inj.1 h2
  obtain rfl := Int.ofNat_inj.1 h3
  rfl
theorem encCs_inj {l l' : List Gr.Cs} (h : encCs l = encCs l') : l = l' := flat_inj (c := 3) (by omega) encC_len (fun _ _ => encC_inj) (fsl_inj h).2
theorem encC_pv (c : Gr.Cs) : ∀ u, u ∈ encC c → Pv 0 u := by
  intro u hu
  simp only [encC, List.mem_cons, List.not_mem_nil, or_false] at hu
  rcases hu with rfl | rfl | rfl <;> exact .int _ _
theorem encCs_pv0 (l : List Gr.Cs) : ∀ u, u ∈ l.flatMap encC → Pv 0 u := fun u hu => by obtain ⟨m, _, hm⟩ := List.mem_flatMap.1 hu; exact encC_pv m u hm
theorem encCs_pv (l : List Gr.Cs) : Pv 1 (encCs l) := .fsl (encCs_pv0 l)
theorem p8C (l : List Gr.Cs) : Pv 8 (encCs l) := (encCs_pv l).mono (by omega)
noncomputable def pC (l : List Gr.Cs) (i j : Nat) : Value := fpt (i * 3 + j) (l.flatMap encC)
@[simp] theorem len_C (l : List Gr.Cs) (st : St) : lenK .sl (encCs l) st = some (I64 l.length) := rfl
@[simp high] theorem idx_C (l : List Gr.Cs) (i : Nat) : idxS (encCs l) i 3 = if i < l.length then some (pC l i 0) else none := by
  rw [encCs, idxS_fsl]; rfl
@[simp high] theorem mov_C (l : List Gr.Cs) (i j k : Nat) : movP (pC l i j) k = some (pC l i (j + k)) := by
  unfold pC; rw [movP_fpt, Nat.add_assoc]
theorem ld_C {l : List Gr.Cs} {i j : Nat} (h : i < l.length) (hj : j < 3) (st : St) : loadA .one (pC l i j) st = reO (encC l[i])[j]? st := by
  rw [pC, loadA_fpt, partK_one, flat_get encC_len h hj]
theorem getD_at {l : List Gr.Cs} {i : Nat} (h : i < l.length) : l.getD i default = l[i] := by rw [List.getD_eq_getElem?_getD, List.getElem?_eq_getElem h]; rfl
theorem ld_C0 {l : List Gr.Cs} {i : Nat} (h : i < l.length) (st : St) : loadA .one (pC l i 0) st = .ok (I64 (l.getD i default).cost) st := by rw [ld_C h (by omega), getD_at h]; rfl
theorem ld_C1 {l : List Gr.Cs} {i : Nat} (h : i < l.length) (st : St) : loadA .one (pC l i 1) st = .ok (I64 ((l.getD i default).day : Int)) st := by rw [ld_C h (by omega), getD_at h]; rfl
theorem ld_C2 {l : List Gr.Cs} {i : Nat} (h : i < l.length) (st : St) : loadA .one (pC l i 2) st = .ok (I64 ((l.getD i default).first : Int)) st := by rw [ld_C h (by omega), getD_at h]; rfl
@[simp high] theorem bel_C (N : Nat) (l : List Gr.Cs) : belowV 6 N (encCs l) = true := (encCs_pv l).below _ _ (by omega)
@[simp high] theorem bel_pC (N : Nat) (l : List Gr.Cs) (i j : Nat) : belowV 6 N (pC l i j) = true := (Pv.fpt (encCs_pv0 l)).below _ _ (by omega)

/-! # way 71 -/
def wI : Option Nat → Int
  | some i => i
  | none => -1
def lW (w : Nat → Option Nat) (N : Nat) : List Int := (List.range N).map fun t => wI (w t)
theorem lW_len (w : Nat → Option Nat) (N : Nat) : (lW w N).length = N := by simp [lW]
theorem nth_lW {w : Nat → Option Nat} {N t : Nat} (h : t < N) : nth (lW w N) t = wI (w t) := by
  rw [nth_at (by rw [lW_len]; exact h)]; simp [lW]
def setW (w : Nat → Option Nat) (t d : Nat) : Nat → Option Nat := fun v => if v = t then some d else w v
theorem cells_set (w : Nat → Option Nat) (N t d : Nat) : ((lW w N).map (Value.int .i64)).set t (I64 (d : Int)) = (lW (setW w t d) N).map (Value.int .i64) := by
  apply List.ext_getElem?
  intro i
  rw [List.getElem?_set, List.length_map, lW_len, List.getElem?_map, List.getElem?_map]
  unfold lW
  rw [List.getElem?_map, List.getElem?_map]
  by_cases hN : i < N
  · rw [List.getElem?_eq_getElem (by simpa using hN)]
    simp only [List.getElem_range, Option.map_some]
    by_cases hi : t = i
    · subst hi
      rw [if_pos rfl, if_pos hN, setW, if_pos rfl]; rfl
    · rw [if_neg hi, setW, if_neg (fun e => hi e.symm)]
  · rw [List.getElem?_eq_none (by simpa using hN)]
    by_cases hi : t = i
    · subst hi; rw [if_pos rfl, if_neg hN]; rfl
    · rw [if_neg hi]; rfl
theorem lW_none (N : Nat) : (lW (fun _ => none) N).map (Value.int .i64) = rp [I64 (-1)] N := by
  unfold rp lW
  rw [List.map_map]
  apply List.ext_getElem
  · simp
  · intro i h1 h2; simp [wI]
theorem mark_next {B : Gr.Barn} {c : Gr.Cs} {w : Nat → Option Nat} {t : Nat} (hf : c.first ≤ t) (h : B.need t ≠ 0) : Gr.mark B c (t + 1) w = setW (Gr.mark B c t w) t c.day := by
  funext v
  unfold Gr.mark setW
  by_cases hv : v = t
  · subst hv; rw [if_pos ⟨hf, by omega, h⟩, if_pos rfl]
  · rw [if_neg hv]
    show _ = if c.first ≤ v ∧ v < t ∧ B.need v ≠ 0 then some c.day else w v
    by_cases h2 : c.first ≤ v ∧ v < t ∧ B.need v ≠ 0
    · rw [if_pos h2, if_pos ⟨h2.1, by omega, h2.2.2⟩]
    · rw [if_neg h2, if_neg fun e => h2 ⟨e.1, by omega, e.2.2⟩]
theorem mark_same {B : Gr.Barn} {c : Gr.Cs} {w : Nat → Option Nat} {t : Nat} (h : B.need t = 0) : Gr.mark B c (t + 1) w = Gr.mark B c t w := by
  funext v
  unfold Gr.mark
  by_cases h2 : c.first ≤ v ∧ v < t ∧ B.need v ≠ 0
  · rw [if_pos h2, if_pos ⟨h2.1, by omega, h2.2.2⟩]
  · rw [if_neg h2, if_neg]
    rintro ⟨e1, e2, e3⟩
    by_cases hv : v = t
    · subst hv; exact e3 h
    · exact h2 ⟨e1, by omega, e3⟩
theorem mark_zero {B : Gr.Barn} {c : Gr.Cs} {w : Nat → Option Nat} : Gr.mark B c c.first w = w := by
  funext v
  unfold Gr.mark
  rw [if_neg fun e => by omega]
def bL (b : Br) (m : Bool) (bs : List Gr.Cs) : List Int := lW (Gr.back (barn b m) bs b.days.length b.days.length fun _ => none) b.days.length
/-- What the memory of way holds. -/
def WI (b : Br) (m : Bool) (w : Nat → Option Nat) (st : St) : Prop := st.obj 0 = rowOf (encPl b m) 0 true ∧ st.obj 2 = rowOf ((lW w b.days.length).map (Value.int .i64)) 1 true ∧ 3 ≤ st.next
theorem p71 (b : Br) (m : Bool) (bs : List Gr.Cs) (g : Good b) (hl : bs.length = b.days.length + 1) (hf : ∀ n, 0 < n → n ≤ b.days.length → (bs.getD n default).first < n) : PurOk Tryz.prog 71 [encP b m, encCs bs] (encI (bL b m bs)) := by
  refine pur_wp (cs := [c80, c146]) (isP := isP) (keep := false) mixed ?_
  have K80 := @k80 [c80, c146] rfl b m
  have hlen := g.len
  have hpos := g.pos
  have hb1 : ∀ st, buildSliceA (.mk 1 [(.int .i64 (0))] true) 1 [(0, (.int .i64 (-1)))] st = .ok (.slice (some ⟨st.next, 0, none⟩) 1 1) (st.push (rowOf [I64 (-1)] 1 true)) := fun st => buildSlice_row rfl (by omega)
  rw [e71]
  simp -implicitDefEqProofs [-List.getD_eq_getElem?_getD, push_obj, hb1]
  refine r117 (xs := [I64 (-1)]) rfl rfl hpos hlen rfl rfl (fun _ => rfl) ?_ ?_
  · intro st' e1 e2
    simp at e1 e2
    rw [listA_row (xs := [I64 (-1)]) (es := 1) (ex := true) (by rw [e2 1 (by omega)]; simp [push_obj]) (by omega) (by simp)]
    rfl
  intro st' e1 e2 e3
  simp at e1 e2 e3
  have o0 : st'.obj 0 = rowOf (encPl b m) 0 true := by rw [e3 0 (by omega)]; simp [push_obj]
  rw [← lW_none] at e2
  simp -implicitDefEqProofs [-List.getD_eq_getElem?_getD, o0]
  refine loop_rule (isP := isP) (fun q a st => ∃ (n : Nat) (t : Regs) (w : Nat → Option Nat) (f : Nat), a = ⟨48, t, []⟩ ∧ gt t 1 = encCs bs ∧ gt t 2 = ptr 0 0 ∧ gt t 5 = .slice (some ⟨2, 0, none⟩) b.days.length b.days.length ∧ gt t 6 = I64 n ∧
    n ≤ b.days.length ∧ q = n ∧ n ≤ f ∧ Gr.back (barn b m) bs f n w = Gr.back (barn b m) bs b.days.length b.days.length (fun _ => none) ∧ WI b m w st) ?_ b.days.length _ _
    ⟨b.days.length, _, fun _ => none, b.days.length, rfl, by simp, by simp, by simp, by simp, by omega, rfl, by omega, rfl, o0, e2, by omega⟩
  rintro q a st ⟨n, t, w, f, rfl, g1, g2, g5, g6, hn, hq, hnf, hbk, o0, o2, hnx⟩
  rw [e71_b0]
  by_cases h0 : 0 < n
  · have h0' : (0 : Int) < n := by omega
    have hnb : n < bs.length := by omega
    have hfn := hf n h0 hn
    obtain ⟨f, rfl⟩ : ∃ j, f = j + 1 := ⟨f - 1, by omega⟩
    have hstep : Gr.back (barn b m) bs (f + 1) n w = Gr.back (barn b m) bs f (bs.getD n default).first (Gr.mark (barn b m) (bs.getD n default) n w) := by
      conv => lhs; unfold Gr.back
      rw [if_neg (by omega)]
    simp -implicitDefEqProofs [-List.getD_eq_getElem?_getD, g1, g2, g5, g6, h0, hnb, ld_C2]
    refine loop_rule (isP := isP) (fun q a s => ∃ (v : Nat) (t : Regs), a = ⟨48, t, []⟩ ∧ gt t 1 = encCs bs ∧ gt t 2 = ptr 0 0 ∧ gt t 5 = .slice (some ⟨2, 0, none⟩) b.days.length b.days.length ∧ gt t 6 = I64 n ∧ gt t 7 = I64 v ∧
      (bs.getD n default).first ≤ v ∧ v ≤ n ∧ q = n - v ∧ WI b m (Gr.mark (barn b m) (bs.getD n default) v w) s) ?_ (n - (bs.getD n default).first) _ _
      ⟨(bs.getD n default).first, _, rfl, by simp [g1], by simp [g2], by simp [g5], by simp [g6], by simp, by omega, by omega, rfl, by rw [mark_zero]; exact ⟨o0, o2, hnx⟩⟩
    rintro q a s ⟨v, t, rfl, g1, g2, g5, g6, g7, hv1, hv2, rfl, o0, o2, hnx⟩
    rw [e71_b1]
    by_cases hlt : v < n
    · have hlt' : (v : Int) < n := by omega
      have hvl : v < b.days.length := by omega
      have hw1 : IntKind.i64.wrap ((v : Int) + 1) = (v : Int) + 1 := wrap64 (by omega)
      have hK := K80 v hvl
      have hneed := (g.need m v).1
      have hcl : v < ((lW (Gr.mark (barn b m) (bs.getD n default) v w) b.days.length).map (Value.int .i64)).length := by rw [List.length_map, lW_len]; exact hvl
      by_cases hz : needP b m v = 0
      · simp -implicitDefEqProofs [-List.getD_eq_getElem?_getD, g1, g2, g5, g6, g7, hlt', o0, hK, hz, hw1]
        refine ⟨_, by omega, v + 1, by omega, by omega, by omega, rfl, ?_⟩
        rw [mark_same (B := barn b m) hz]; exact ⟨o0, o2, hnx⟩
      · have hz' : 0 < needP b m v := by omega
        simp -implicitDefEqProofs [-List.getD_eq_getElem?_getD, g1, g2, g5, g6, g7, hlt', o0, o2, hK, hz', hw1, hnb, ld_C1, hvl, lW_len, set_obj]
        refine ⟨_, by omega, v + 1, by omega, by omega, by omega, rfl, ?_⟩
        rw [mark_next (B := barn b m) hv1 hz]
        refine ⟨by simp [set_obj, o0], ?_, by simpa using hnx⟩
        rw [set_obj, if_pos rfl, cells_set]
    · obtain rfl : v = n := by omega
      simp -implicitDefEqProofs [-List.getD_eq_getElem?_getD, g1, g2, g5, g6, g7, e71_r1, hnb, ld_C2]
      exact ⟨_, by omega, (bs.getD v default).first, rfl, by omega, rfl, Gr.mark (barn b m) (bs.getD v default) v w, f, by omega, by rw [← hstep]; exact hbk, o0, o2, hnx⟩
  · obtain rfl : n = 0 := by omega
    have hfin : Gr.back (barn b m) bs f 0 w = w := by
      cases f with
      | zero => rfl
      | succ f => conv => lhs; unfold Gr.back
                  rw [if_pos rfl]
    rw [hfin] at hbk
    rw [hbk] at o2
    simp -implicitDefEqProofs [-List.getD_eq_getElem?_getD, g5, g6, e71_r0, o71]
    have ho : Owns st 2 b.days.length 1 ((bL b m bs).map (Value.int .i64)) := ⟨by rw [List.length_map]; unfold bL; rw [lW_len]; omega, fun _ => ⟨by omega, true, o2⟩⟩
    have := snap_own (keep := false) (d := 7) ho (fun u hu => by obtain ⟨n, _, rfl⟩ := List.mem_map.1 hu; rfl) rfl
    rw [ov_pos hpos] at this
    have hlb : (bL b m bs).length = b.days.length := by unfold bL; rw [lW_len]
    unfold encI
    rw [hlb]; exact this
end Go.Proofs.YtolgomkmilbkgaaGreat

set_option autoImplicit false
set_option maxRecDepth 100000
set_option linter.unusedSimpArgs false
set_option linter.unusedVariables false
namespace Go.Proofs.YtolgomkmilbkgaaGreat
open Go.Proofs.YtolgomkmilbkgaaGreat.Ev

/-! # Rows of courses -/
theorem flat_split {l : List Gr.Cs} {i : Nat} (h : i < l.length) : l.flatMap encC = (l.take i).flatMap encC ++ (encC l[i] ++ (l.drop (i + 1)).flatMap encC) := by
  have : l = l.take i ++ (l[i] :: l.drop (i + 1)) := by rw [List.getElem_cons_drop, List.take_append_drop]
  conv => lhs; rw [this]
  rw [List.flatMap_append, List.flatMap_cons]
theorem take_len {l : List Gr.Cs} {i : Nat} (h : i < l.length) : ((l.take i).flatMap encC).length = i * 3 := by
  rw [flat_len encC_len, List.length_take]; congr 1; omega
theorem set_split {l : List Gr.Cs} {i : Nat} (h : i < l.length) (c : Gr.Cs) : (l.set i c).flatMap encC = (l.take i).flatMap encC ++ (encC c ++ (l.drop (i + 1)).flatMap encC) := by
  rw [List.set_eq_take_append_cons_drop, if_pos h, List.flatMap_append, List.flatMap_cons]
theorem set_agg {l : List Gr.Cs} {i : Nat} (h : i < l.length) (c : Gr.Cs) : (l.flatMap encC).take (i * 3) ++ (encC c ++ (l.flatMap encC).drop (i * 3 + 3)) = (l.set i c).flatMap encC := by
  have hl := take_len h
  rw [set_split h, flat_split h, List.take_left' hl]
  congr 2
  rw [← List.append_assoc, List.drop_left' (by rw [List.length_append, hl]; rfl)]
theorem set_one {l : List Gr.Cs} {i : Nat} (h : i < l.length) (x : Int) : (l.flatMap encC).set (i * 3) (I64 x) = (l.set i ⟨x, l[i].day, l[i].first⟩).flatMap encC := by
  have hl := take_len h
  rw [set_split h, flat_split h, List.set_append_right _ _ (by omega), hl, Nat.sub_self]
  rfl
/-- A list by its elements. -/
def lE (E : Nat → Gr.Cs) (N : Nat) : List Gr.Cs := (List.range N).map E
@[simp] theorem lE_len (E : Nat → Gr.Cs) (N : Nat) : (lE E N).length = N := by simp [lE]
theorem lE_at {E : Nat → Gr.Cs} {N i : Nat} (h : i < (lE E N).length) : (lE E N)[i] = E i := by simp [lE]
theorem lE_getD {E : Nat → Gr.Cs} {N i : Nat} (h : i < N) : (lE E N).getD i default = E i := by rw [getD_at (by rw [lE_len]; exact h), lE_at]
def up (E : Nat → Gr.Cs) (i : Nat) (c : Gr.Cs) : Nat → Gr.Cs := fun k => if k = i then c else E k
theorem lE_set (E : Nat → Gr.Cs) (N i : Nat) (c : Gr.Cs) : (lE E N).set i c = lE (up E i c) N := by
  apply List.ext_getElem
  · simp
  · intro k h1 h2
    rw [List.getElem_set, lE_at]
    split
    · rename_i hk; subst hk; rw [lE_at, up, if_pos rfl]
    · rename_i hk; rw [lE_at, up, if_neg (fun e => hk e.symm)]
noncomputable def cE (E : Nat → Gr.Cs) (N : Nat) : List Value := (lE E N).flatMap encC
@[simp] theorem cE_len (E : Nat → Gr.Cs) (N : Nat) : (cE E N).length = N * 3 := by unfold cE; rw [flat_len encC_len, lE_len]
theorem cE_agg {E : Nat → Gr.Cs} {N i : Nat} (h : i < N) (c : Gr.Cs) : (cE E N).take (i * 3) ++ (encC c ++ (cE E N).drop (i * 3 + 3)) = cE (up E i c) N := by
  unfold cE; rw [set_agg (by rw [lE_len]; exact h), lE_set]
theorem cE_one {E : Nat → Gr.Cs} {N i : Nat} (h : i < N) (x : Int) : (cE E N).set (i * 3) (I64 x) = cE (up E i ⟨x, (E i).day, (E i).first⟩) N := by
  unfold cE; rw [set_one (by rw [lE_len]; exact h), lE_set, lE_at]
theorem cE_get {E : Nat → Gr.Cs} {N i : Nat} (h : i < N) : (cE E N)[i * 3]? = some (I64 (E i).cost) := by
  have := flat_get (f := encC) encC_len (l := lE E N) (i := i) (j := 0) (by rw [lE_len]; exact h) (by omega)
  unfold cE
  rw [Nat.add_zero] at this
  rw [this, lE_at]; rfl
theorem ld_cE {E : Nat → Gr.Cs} {N i : Nat} (h : i < N) (ex : Bool) (st : St) : ldO .one (i * 3) (rowOf (cE E N) 3 ex) st = .ok (I64 (E i).cost) st := by
  rw [ldO_one, cE_get h]; rfl
theorem ld_cEa {E : Nat → Gr.Cs} {N i : Nat} (h : i < N) (ex : Bool) (st : St) : ldO (.agg 3) (i * 3) (rowOf (cE E N) 3 ex) st = .ok (.agg ⟨encC (E i)⟩) st := by
  rw [ldO_agg, cE_len, if_pos (by omega)]
  unfold cE
  rw [flat_drop encC_len (by rw [lE_len]; exact h), lE_at]
theorem cE_congr {E E' : Nat → Gr.Cs} {N : Nat} (h : ∀ i, i < N → E i = E' i) : cE E N = cE E' N := by
  unfold cE lE
  rw [List.map_congr_left fun i hi => h i (List.mem_range.1 hi)]
theorem cE_never (N : Nat) : cE (fun _ => ⟨Gr.never, 0, 0⟩) N = rp [I64 1099511627776, I64 0, I64 0] N := by
  unfold cE lE rp
  rw [List.flatMap_map]
  induction N with
  | zero => rfl
  | succ n ih => rw [List.range_succ, List.flatMap_append, ih, List.replicate_succ', List.flatten_append]; rfl

/-! # The comparison 145, least at it -/
theorem cmpI_neg {a b : Int} : cmpI a b < 0 ↔ a < b := by
  unfold cmpI
  by_cases h1 : a < b
  · rw [if_pos h1]; simp [h1]
  · rw [if_neg h1]
    by_cases h2 : b < a
    · rw [if_pos h2]; simp [h1]
    · rw [if_neg h2]; simp [h1]
noncomputable def eV (L : List Gr.Cs) : Value := fpt 0 [encCs L]
theorem eV_pv (L : List Gr.Cs) : Pv 2 (eV L) := .fpt fun u hu => by simp at hu; subst hu; exact encCs_pv L
@[simp high] theorem ld_eV (L : List Gr.Cs) (st : St) : loadA .one (eV L) st = .ok (encCs L) st := rfl
@[simp high] theorem bel_eV (N : Nat) (L : List Gr.Cs) : belowV 6 N (eV L) = true := (eV_pv L).below _ _ (by omega)
theorem p145 (L : List Gr.Cs) (i j : Nat) (hi : i < L.length) (hj : j < L.length) : PurOk Tryz.prog 145 [I64 i, I64 j, eV L] (I64 (cmpI (L.getD i default).cost (L.getD j default).cost)) := by
  refine pur_wp (cs := [c129]) (isP := isP) (keep := false) mixed ?_
  have K129 := @k129 [c129] rfl
  rw [e145]
  simp -implicitDefEqProofs [-List.getD_eq_getElem?_getD, hi, hj, ld_C0, K129]
noncomputable def c145 : Con Tryz.prog := mkCon 145 false (fun x : List Gr.Cs × Nat × Nat => [I64 x.2.1, I64 x.2.2, eV x.1]) (fun x => x.2.1 < x.1.length ∧ x.2.2 < x.1.length) (fun x => I64 (cmpI (x.1.getD x.2.1 default).cost (x.1.getD x.2.2 default).cost))
  (fun ⟨L, i, j⟩ ⟨L', i', j'⟩ h => by
    have h : [I64 (i : Int), I64 (j : Int), eV L] = [I64 (i' : Int), I64 (j' : Int), eV L'] := h
    simp only [List.cons.injEq, Value.int.injEq, and_true, true_and] at h
    obtain ⟨h1, h2, h3⟩ := h
    obtain rfl := Int.ofNat_inj.1 h1
    obtain rfl := Int.ofNat_inj.1 h2
    have h3 : encCs L = encCs L' := by unfold eV fpt at h3; simp at h3; exact h3
    rw [encCs_inj h3]) (fun x h => p145 x.1 x.2.1 x.2.2 h.1 h.2)
theorem k145 {cs : List (Con Tryz.prog)} (h : cs.find? (fun c => c.f == 145) = some c145) (L : List Gr.Cs) (i j : Nat) (hi : i < L.length) (hj : j < L.length) (st : St) : pcall (orcL cs) 145 [I64 i, I64 j, eV L] st = some (I64 (cmpI (L.getD i default).cost (L.getD j default).cost)) :=
  pcall_mk h (L, i, j) ⟨hi, hj⟩ (pv3 (p8I _) (p8I _) ((eV_pv L).mono (by omega))) st
/-- The days on which it can be bought for one. -/
def srcN (b : Br) (t : Nat) : List Nat := (List.range (t + 1)).filter fun (i : Nat) => canI b (i : Int) t
theorem srcL_eq (b : Br) (t : Nat) : srcL b t 0 (t + 1) = (srcN b t).map fun (i : Nat) => [I64 (i : Int)] := by unfold srcL srcN; rw [List.range_eq_range']
theorem srcN_mem {b : Br} {t i : Nat} (h : i ∈ srcN b t) : canI b (i : Int) t = true ∧ i ≤ t := by
  unfold srcN at h; rw [List.mem_filter, List.mem_range] at h; exact ⟨h.2, by omega⟩
theorem srcs_eq {b : Br} {m : Bool} {t : Nat} (ht : t < b.days.length) : Gr.srcs (barn b m) t = srcN b t := by
  unfold Gr.srcs srcN
  congr 1
  funext i
  show (canI b i t && decide (t < b.days.length)) = canI b i t
  rw [decide_eq_true ht, Bool.and_true]
/-- What least finds. -/
def leastV (L : List Gr.Cs) (xs : List Nat) : Nat × Bool := xs.foldl (lstep fun i j => cmpI (L.getD i default).cost (L.getD j default).cost) (0, false)
theorem fold_pick (E : Nat → Gr.Cs) : ∀ (l : List Nat) (g : Nat), l.foldl (lstep fun i j => cmpI (E i).cost (E j).cost) (g, true) = match Gr.pickL E l with | none => (g, true) | some j => if (E j).cost < (E g).cost then (j, true) else (g, true)
  | [], g => rfl
  | i :: l, g => by
    have h1 : lstep (fun i j => cmpI (E i).cost (E j).cost) (g, true) i = if (E i).cost < (E g).cost then (i, true) else (g, true) := by
      unfold lstep
      simp only [Bool.true_eq_false, false_or, cmpI_neg]
    rw [List.foldl_cons, h1]
    by_cases hlt : (E i).cost < (E g).cost
    · rw [if_pos hlt, fold_pick E l i]
      conv => rhs; unfold Gr.pickL
      cases hp : Gr.pickL E l with
      | none => simp [hlt]
      | some j =>
        simp only
        by_cases h2 : (E j).cost < (E i).cost
        · simp only [if_pos h2, if_pos (show (E j).cost < (E g).cost by omega)]
        · simp only [if_neg h2, if_pos hlt]
    · rw [if_neg hlt, fold_pick E l g]
      conv => rhs; unfold Gr.pickL
      cases hp : Gr.pickL E l with
      | none => simp [hlt]
      | some j =>
        simp only
        by_cases h2 : (E j).cost < (E i).cost
        · simp only [if_pos h2]
        · simp only [if_neg h2, if_neg hlt, if_neg (show ¬ (E j).cost < (E g).cost by omega)]
theorem least_pick (E : Nat → Gr.Cs) (l : List Nat) : l.foldl (lstep fun i j => cmpI (E i).cost (E j).cost) (0, false) = match Gr.pickL E l with | none => (0, false) | some j => (j, true) := by
  cases l with
  | nil => rfl
  | cons i l =>
    have h1 : lstep (fun i j => cmpI (E i).cost (E j).cost) (0, false) i = (i, true) := by unfold lstep; simp
    rw [List.foldl_cons, h1, fold_pick E l i]
    conv => rhs; unfold Gr.pickL
    cases hp : Gr.pickL E l with
    | none => rfl
    | some j =>
      simp only
      by_cases h2 : (E j).cost < (E i).cost
      · simp only [if_pos h2]
      · simp only [if_neg h2]
theorem fold_congr {c c' : Nat → Nat → Int} {P : Nat → Prop} (h : ∀ i j, P i → P j → c i j = c' i j) : ∀ (l : List Nat) (q : Nat × Bool), (∀ i, i ∈ l → P i) → (q.2 = true → P q.1) → l.foldl (lstep c) q = l.foldl (lstep c') q
  | [], q, _, _ => rfl
  | i :: l, q, hl, hq => by
    have hi := hl i (by simp)
    have e : lstep c q i = lstep c' q i := by
      unfold lstep
      cases hb : q.2 with
      | false => simp
      | true => rw [h i q.1 hi (hq hb)]
    rw [List.foldl_cons, List.foldl_cons, e]
    refine fold_congr h l _ (fun k hk => hl k (by simp [hk])) fun h2 => ?_
    unfold lstep at h2 ⊢
    split
    · exact hi
    · rename_i hn; rw [if_neg hn] at h2; exact hq h2
theorem leastV_lE {E : Nat → Gr.Cs} {N : Nat} {xs : List Nat} (h : ∀ i, i ∈ xs → i < N) : leastV (lE E N) xs = match Gr.pickL E xs with | none => (0, false) | some j => (j, true) := by
  rw [← least_pick]
  exact fold_congr (P := fun i => i < N) (fun i j hi hj => by rw [lE_getD hi, lE_getD hj]) xs _ h fun e => by cases e
noncomputable def cmV (L : List Gr.Cs) : Value := .func (.func 145) ⟨[]⟩ ⟨[eV L]⟩
theorem cmV_pv (L : List Gr.Cs) : Pv 3 (cmV L) := .clo fun u hu => by simp at hu; subst hu; exact eV_pv L
noncomputable def lsV (L : List Gr.Cs) (xs : List Nat) : Value := .tuple ⟨[I64 ((leastV L xs).1 : Nat), .bool (leastV L xs).2]⟩
theorem q128 (b : Br) (m : Bool) (t : Nat) (L : List Gr.Cs) (ht : t < b.days.length) (hl : b.days.length ≤ 1000) (hL : L.length = b.days.length) : PurOk Tryz.prog 128 [srcV b m t, cmV L] (lsV L (srcN b t)) := by
  refine p128 (cs := [c118, c145]) (k := 163) (kc := 145) (f0 := []) (c0 := [pN t, pP b m]) (cb := [eV L]) (xs := srcN b t) (cmp := fun i j => cmpI (L.getD i default).cost (L.getD j default).cost) (by kernel_rfl) ?_ ?_
  · rw [← srcL_eq]
    exact yields163 rfl rfl b m t ht hl
  · intro i j hi hj st F hF
    have := srcN_mem hi
    have := srcN_mem hj
    exact callP_pure (xs := []) (bs := [eV L]) (by kernel_rfl) (k145 rfl L i j (by omega) (by omega) st) hF
noncomputable def c128 : Con Tryz.prog := mkCon 128 false (fun x : Br × Bool × Nat × List Gr.Cs => [srcV x.1 x.2.1 x.2.2.1, cmV x.2.2.2]) (fun x => x.2.2.1 < x.1.days.length ∧ x.1.days.length ≤ 1000 ∧ x.2.2.2.length = x.1.days.length) (fun x => lsV x.2.2.2 (srcN x.1 x.2.2.1))
  (fun ⟨b, m, t, L⟩ ⟨b', m', t', L'⟩ h => by
    have h : [srcV b m t, cmV L] = [srcV b' m' t', cmV L'] := h
    unfold srcV cmV eV pP pN fpt at h
    simp at h
    obtain ⟨⟨h1, h2⟩, h3⟩ := h
    obtain rfl := Int.ofNat_inj.1 h1
    have h2 : encP b m = encP b' m' := by unfold encP; rw [h2]
    obtain ⟨rfl, rfl⟩ := encP_inj h2
    rw [encCs_inj h3]) (fun x h => q128 x.1 x.2.1 x.2.2.1 x.2.2.2 h.1 h.2.1 h.2.2)
theorem snap_ptr1 {keep : Bool} {st : St} {d nm o es : Nat} {u u' : Value} {ex : Bool} (ho : st.obj nm = rowOf [u] es ex) (hu : snapV keep st d u = some u') : snapV keep st (d + 1) (ptr nm o) = some (fpt o [u']) := by
  show cellsK (st.obj nm) none (fun dd n _ _ tr => osel (mapO (snapV keep st d) (Bt.sub tr (half dd) 0 n [])) none fun cs => some (fpt o cs)) = _
  rw [ho, rowOf_eq]
  show osel (mapO (snapV keep st d) (Bt.sub (Bt.ofL (dep [u].length) [u]) (half (dep [u].length)) 0 [u].length [])) none (fun cs => some (fpt o cs)) = _
  have := sub_all (xs := [u]) (off := 0) (n := [u].length) (by omega)
  rw [Nat.zero_add, List.drop_zero, List.take_length] at this
  rw [this]
  simp only [mapO, hu]; rfl
theorem snap_clo1 {keep : Bool} {st : St} {d : Nat} {k : FuncId} {a a' : Value} (ha : snapV keep st d a = some a') : snapV keep st (d + 1) (.func (.func k) ⟨[]⟩ ⟨[a]⟩) = some (.func (.func k) ⟨[]⟩ ⟨[a']⟩) := by
  show osel (mapO (snapV keep st d) []) none (fun as' => osel (mapO (snapV keep st d) [a]) none fun bs' => some (Value.func (.func k) ⟨as'⟩ ⟨bs'⟩)) = _
  simp only [mapO, ha]; rfl
theorem flat_two (n : Int) (b : Bool) : flat2 (.tuple ⟨[I64 n, .bool b]⟩) = true := rfl
theorem k128 {cs : List (Con Tryz.prog)} (h : cs.find? (fun c => c.f == 128) = some c128) (b : Br) (m : Bool) (t : Nat) (E : Nat → Gr.Cs) (ht : t < b.days.length) (g : Good b) {nm nm' : Nat} {st : St} {ex : Bool} (hn : nm' < st.next) (h1 : st.obj nm = rowOf [.slice (some ⟨nm', 0, none⟩) b.days.length b.days.length] 0 true) (h2 : st.obj nm' = rowOf (cE E b.days.length) 3 ex) :
    pcall (orcL cs) 128 [srcV b m t, .func (.func 145) ⟨[]⟩ ⟨[ptr nm 0]⟩] st = some (lsV (lE E b.days.length) (srcN b t)) := by
  have hlen := g.len
  have hpos := g.pos
  have hs1 : snapV false st 6 (.slice (some ⟨nm', 0, none⟩) b.days.length b.days.length) = some (encCs (lE E b.days.length)) := by
    have ho : Owns st nm' b.days.length 3 (cE E b.days.length) := ⟨cE_len _ _, fun _ => ⟨hn, ex, h2⟩⟩
    have := snap_own (keep := false) (d := 5) ho (fun u hu => (encCs_pv0 _ u hu).snap _ _ _ (by omega)) rfl
    rw [ov_pos hpos] at this
    rw [this]; unfold encCs; rw [lE_len]; rfl
  refine pcall_orc h (xs := [srcV b m t, cmV (lE E b.days.length)]) ?_ ⟨(b, m, t, lE E b.days.length), ⟨ht, show b.days.length ≤ 1000 by omega, lE_len _ _⟩, rfl, rfl⟩ (.inr (flat_two _ _))
  have e1 : snapV c128.keep st snapD (srcV b m t) = some (srcV b m t) := (srcV_pv b m t).snap _ _ _ (by unfold snapD; omega)
  have e2 : snapV c128.keep st snapD (.func (.func 145) ⟨[]⟩ ⟨[ptr nm 0]⟩) = some (cmV (lE E b.days.length)) := snap_clo1 (d := 7) (snap_ptr1 (d := 6) h1 hs1)
  simp only [mapO, e1, e2]; rfl
theorem bindP_app {S : St} {nm n m k : Nat} {xs new : List Value} {x : Value} (h : Owns S nm n k xs) (hl : lenA x = some m) (hm : 0 < m) (hb : n + m ≤ 1048576) (hL : listA S k x m = some new) (hnew : new.length = m * k) {F : Value → St → Prop}
    (hF : ∀ s3, s3.next = S.next + 1 → Owns s3 S.next (n + m) k (xs ++ new) → (∀ b, b < S.next → (0 < n → b ≠ nm) → s3.obj b = S.obj b) → F (ov S.next (n + m)) s3) : bindP (appendN (.list k) (ov nm n) x S) F := by
  obtain ⟨s3, e1, e2, e3, _, e5⟩ := h.append hl hm hb hL hnew
  rw [e1]
  rw [bindP_run]
  exact hF s3 e2 e3 e5
@[simp] theorem below_ov (N nm n : Nat) : belowV 6 N (ov nm n) = (decide (n = 0) || decide (nm < N)) := by
  unfold ov
  split
  · rename_i h; rw [decide_eq_true h]; rfl
  · rename_i h; rw [decide_eq_false h, Bool.false_or, below_slice]
end Go.Proofs.YtolgomkmilbkgaaGreat

