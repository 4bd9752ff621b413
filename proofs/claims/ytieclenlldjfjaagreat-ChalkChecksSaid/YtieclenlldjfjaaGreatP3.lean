import Derived.Test.YtieclenlldjfjaaGreatP1
import Derived.Test.YtieclenlldjfjaaGreatM2
set_option linter.unusedSimpArgs false
set_option linter.unusedVariables false
/- strokes 118. -/
namespace Go.Proofs.YtieclenlldjfjaaGreat
open Go.RowKit

/-- what an item counts, by an array of all symbols -/
def valC (c : List Int) (n : Int) : Int := if n < 0 then 1 else c.getD n.toNat 0
def sumC (c : List Int) (items : List Int) : Int := (items.map (valC c)).sum
/-- an array of all symbols -/
structure COk (c : List Int) : Prop where
  len : c.length = 13
  low : ∀ x ∈ c, 0 ≤ x
  high : ∀ x ∈ c, x ≤ 1125899906842624

theorem valC_bound {c : List Int} (h : COk c) (n : Int) : 0 ≤ valC c n ∧ valC c n ≤ 1125899906842624 := by
  unfold valC
  split
  · omega
  · rw [List.getD_eq_getElem?_getD]
    cases h2 : c[n.toNat]? with
    | none => simp
    | some x => exact ⟨h.low x (List.mem_of_getElem? h2), h.high x (List.mem_of_getElem? h2)⟩
theorem sumC_bound {c : List Int} (h : COk c) : ∀ l : List Int, 0 ≤ sumC c l ∧ sumC c l ≤ 1125899906842624 * (l.length : Int)
  | [] => by simp [sumC]
  | n :: l => by
    have ih := sumC_bound h l
    have := valC_bound h n
    simp only [sumC, List.map_cons, List.sum_cons, List.length_cons] at ih ⊢
    omega
theorem sumC_next {c l : List Int} {k : Nat} (hk : k < l.length) : sumC c (l.take (k + 1)) = sumC c (l.take k) + valC c l[k] := by
  unfold sumC
  rw [List.take_succ_eq_append_getElem hk, List.map_append, List.sum_append]
  simp
/-- what strokes returns -/
def strokesC (c : List Int) (items : List Int) : Int := min (sumC c items) 1125899906842624

theorem ta1 (v : Value) (w : World) : (Instr.typeAssert (.iface 213 v) 200 213 true).run Tryz.prog w = .ok (.tuple #[v, .bool true]) w := by
  simp [Instr.typeAssert, run_underlying Tryz.underlying213]
theorem ta2 (v : Value) (w : World) : (Instr.typeAssert (.iface 195 v) 200 213 true).run Tryz.prog w = .ok (.tuple #[.int .i64 0, .bool false]) w := by
  have h : (Tryz.prog.info? 213).map (fun i => (i.zero)) = some (some (.int .i64 0)) := by kernel_rfl
  cases hi : Tryz.prog.info? 213 with
  | none => rw [hi] at h; cases h
  | some i =>
    rw [hi] at h
    simp at h
    simp [Instr.typeAssert, run_underlying Tryz.underlying213, zeroValue, typeInfo, hi, h]
theorem ta3 (v : Value) (w : World) : (Instr.typeAssert (.iface 195 v) 200 195 true).run Tryz.prog w = .ok (.tuple #[v, .bool true]) w := by
  simp [Instr.typeAssert, run_underlying Tryz.underlying195]
theorem info111 (c : List Int) (h : c.length = 13) : (Tryz.prog.info? 111).map (·.size) = some (nums c).size := by
  rw [nums_size, h]
  kernel_rfl

set_option maxRecDepth 100000 in
set_option maxHeartbeats 2000000 in
theorem strokes_any (c : List Int) (hc : COk c) (msym mcost : Int) (items : List Int) (IA : Option Addr) (icap : Nat) (w : World) (hil : items.length ≤ 3) (hix : ∀ x ∈ items, -20 ≤ x ∧ x ≤ 12) (B : Nat) (hB : B ≤ w.heap.size) (hI : Its w 0 B IA items) :
    Calls Tryz.prog 118 #[.agg #[.int .i64 msym, .slice IA items.length icap, .int .i64 mcost], .agg (nums c)] w fun e w' => e = .returned (.int .i64 (strokesC c items)) ∧ Below w.heap.size w w' := by
  have hb2 : Below w.heap.size w ((w.alloc (.cells #[.int .i64 msym, .slice IA items.length icap, .int .i64 mcost] 198)).alloc (.cells (nums c) 111)) := (below_new _ _).alloc (by simp) _
  have kM : Blk ((w.alloc (.cells #[.int .i64 msym, .slice IA items.length icap, .int .i64 mcost] 198)).alloc (.cells (nums c) 111)) w.heap.size 198 #[.int .i64 msym, .slice IA items.length icap, .int .i64 mcost] := (Blk.new _ _ _).alloc _
  have kC : Blk ((w.alloc (.cells #[.int .i64 msym, .slice IA items.length icap, .int .i64 mcost] 198)).alloc (.cells (nums c) 111)) (w.heap.size + 1) 111 (nums c) := Blk.newAt (by simp)
  have hIW : Its ((w.alloc (.cells #[.int .i64 msym, .slice IA items.length icap, .int .i64 mcost] 198)).alloc (.cells (nums c) 111)) 0 B IA items := hI.moved fun p _ hp => (hb2.cell (Nat.lt_of_lt_of_le hp hB))
  have t1 := ta1
  have t2 := ta2
  have t3 := ta3
  go_enter Tryz.func118, Tryz.ntmps118
  go_wp2_with fail
  obtain ⟨W, hW⟩ : ∃ W, W = (w.alloc (.cells #[.int .i64 msym, .slice IA items.length icap, .int .i64 mcost] 198)).alloc (.cells (nums c) 111) := ⟨_, rfl⟩
  rw [← hW] at hb2 kM kC hIW ⊢
  clear hW
  go_loopw [5, 13] (fun n i w4 => ∃ p : Nat, p ≤ items.length ∧ i = .int .i64 p ∧ n = .int .i64 (sumC c (items.take p)) ∧ W = w4)
    (fun _ i _ => items.length - (intOf i).toNat)
  case atStart => exact ⟨0, Nat.zero_le _, rfl, rfl, (by first | rfl | trivial)⟩
  case round =>
    obtain ⟨p, hp, rfl, rfl, rfl⟩ := hrel
    have hsb := sumC_bound hc (items.take p)
    have htl : (items.take p).length ≤ 3 := by rw [List.length_take]; omega
    by_cases hplt : p < items.length
    · have hll4 : (p : Int) < (items.length : Int) := by omega
      obtain ⟨ai, rfl, _, hBi, hci⟩ := hIW p _ (List.getElem?_eq_getElem hplt)
      have HS := Lib.hid (sumC_next (c := c) hplt)
      obtain ⟨x1, x2⟩ := hix _ (List.getElem_mem hplt)
      have hvb := valC_bound hc items[p]
      obtain ⟨x, hx⟩ : ∃ x, x = items[p] := ⟨_, rfl⟩
      rw [← hx] at hci HS x1 x2 hvb
      clear hx
      obtain ⟨s, hs⟩ : ∃ s, s = sumC c (items.take p) := ⟨_, rfl⟩
      rw [← hs] at HS hsb ⊢
      clear hs
      by_cases hneg : x < 0
      · have hv : valC c x = 1 := if_pos hneg
        rw [hv] at HS
        have hit : itv x = .iface 213 (.int .i64 (-x)) := if_pos hneg
        rw [hit] at hci
        clear hv hneg hit hvb
        go_wp2_with fail
        go_roundw
        case rel => exact ⟨p + 1, by omega, by go_num, by rw [HS.out], (by first | rfl | trivial)⟩
        case measure => simp [intOf]; try omega
      · have hit : itv x = .iface 195 (.int .i64 x) := if_neg hneg
        rw [hit] at hci
        obtain ⟨x', rfl⟩ : ∃ x' : Nat, x = (x' : Int) := ⟨x.toNat, by omega⟩
        have hxl : x' < c.length := by rw [hc.len]; omega
        have hx13 : (x' : Int) < 13 := by omega
        have hv : valC c (x' : Int) = c[x'] := by
          unfold valC
          rw [if_neg (by omega), List.getD_eq_getElem?_getD, show ((x' : Int)).toNat = x' by omega, List.getElem?_eq_getElem hxl]
          rfl
        rw [hv] at HS hvb
        have hcy : W.cell? ⟨w.heap.size + 1, x', none⟩ = some (.int .i64 c[x']) := by rw [kC.cell, nums_get hxl]
        generalize c[x'] = v at HS hcy hvb
        clear hv hneg hit
        go_wp2_with fail
        go_roundw
        case rel => exact ⟨p + 1, by omega, by go_num, by rw [HS.out], (by first | rfl | trivial)⟩
        case measure => simp [intOf]; try omega
    · obtain rfl : p = items.length := by omega
      rw [List.take_length] at hsb ⊢
      have HR : Hid (strokesC c items = min (sumC c items) 1125899906842624) := rfl
      by_cases hmin : sumC c items ≤ 1125899906842624
      · have HR2 : Hid (strokesC c items = sumC c items) := by show _ = _; rw [HR.out]; omega
        generalize sumC c items = s at HR2 hmin hsb ⊢
        have hq : decide (s ≤ 1125899906842624) = true := decide_eq_true hmin
        clear HR
        go_wp2_with fail
        go_ret
        exact ⟨ret_int (by rw [HR2.out]; show min s 1125899906842624 = _; omega), hb2⟩
      · have HR2 : Hid (strokesC c items = 1125899906842624) := by show _ = _; rw [HR.out]; omega
        generalize sumC c items = s at hmin hsb ⊢
        have hq : decide (s ≤ 1125899906842624) = false := decide_eq_false hmin
        clear HR
        go_wp2_with fail
        go_ret
        exact ⟨ret_int (by rw [HR2.out]; show min s 1125899906842624 = _; omega), hb2⟩
end Go.Proofs.YtieclenlldjfjaaGreat
