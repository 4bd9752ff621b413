import Derived.Test.YtbhiphjifdnhmaaGreatDoorA6
import Derived.Laws.StructEq
import Derived.Lib.MinMax
/- The equality of spans and of vague days. -/
namespace Go.Proofs.YtbhiphjifdnhmaaGreatDoor
open Go.RowKit
set_option linter.unusedSimpArgs false

theorem sz3 (w : World) : (sizeOf 3).run Tryz.prog w = .ok 1 w := by
  have h3 : (Tryz.prog.info? 3).map (·.size) = some 1 := by kernel_rfl
  cases hq : Tryz.prog.info? 3 with
  | none => simp [hq] at h3
  | some i =>
    have hs : i.size = 1 := by simpa [hq] using h3
    simp [sizeOf, typeInfo, hq, hs]
theorem sz23 (w : World) : (sizeOf 23).run Tryz.prog w = .ok 2 w := by
  have h3 : (Tryz.prog.info? 23).map (·.size) = some 2 := by kernel_rfl
  cases hq : Tryz.prog.info? 23 with
  | none => simp [hq] at h3
  | some i =>
    have hs : i.size = 2 := by simpa [hq] using h3
    simp [sizeOf, typeInfo, hq, hs]
theorem sz24 (w : World) : (sizeOf 24).run Tryz.prog w = .ok 24 w := by
  have h3 : (Tryz.prog.info? 24).map (·.size) = some 24 := by kernel_rfl
  cases hq : Tryz.prog.info? 24 with
  | none => simp [hq] at h3
  | some i =>
    have hs : i.size = 24 := by simpa [hq] using h3
    simp [sizeOf, typeInfo, hq, hs]
theorem eq_span (d : Nat) (w : World) (x0 x1 y0 y1 : Int) : (Op.equalIn (d + 2) 23 (.agg #[.int .i64 x0, .int .i64 x1]) (.agg #[.int .i64 y0, .int .i64 y1])).run Tryz.prog w = .ok (x0 == y0 && x1 == y1) w := by
  have p0 : ∀ (w : World) (a b : Value), (part 3 #[a, b] 0).run Tryz.prog w = .ok a w := fun w a b => by simp [part, isAgg, run_underlying Tryz.underlying3]
  have p1 : ∀ (w : World) (a b : Value), (part 3 #[a, b] 1).run Tryz.prog w = .ok b w := fun w a b => by simp [part, isAgg, run_underlying Tryz.underlying3]
  rw [run_equalIn_struct w (d + 1) 23 _ _ (by kernel_rfl) (by kernel_rfl)]
  simp only [Program.fieldsOf, Tryz.underlying23, Op.eqFields, p0, p1, Sem.run_bind, Result.andThen_ok, run_equalIn_int _ _ 3 .i64 .i64 _ _ Tryz.underlying3, Sem.run_pure]
  cases hx : (x0 == y0) <;> cases hy : (x1 == y1) <;> simp [p0, p1, Op.eqFields, run_equalIn_int _ _ 3 .i64 .i64 _ _ Tryz.underlying3, hx, hy]
theorem eq_vague (d : Nat) (w : World) (a b : Nat → Int) : (Op.equalIn (d + 4) 26 (.agg (va a)) (.agg (va b))).run Tryz.prog w = .ok (sameV a b) w := by
  have hz : ∀ a : Nat → Int, (va a).extract 0 (0 + 24) = va a := fun a => by
    apply Array.ext_getElem?
    intro i
    rw [Array.getElem?_extract]
    by_cases hi : i < 24
    · rw [if_pos (by rw [va_size]; omega), Nat.zero_add]
    · rw [if_neg (by rw [va_size]; omega), va_past a i (by omega)]
  have p0 : ∀ (w : World) (a : Nat → Int), (part 24 (va a) 0).run Tryz.prog w = .ok (.agg (va a)) w := fun w a => by simp [part, isAgg, run_underlying Tryz.underlying24, sz24]; simpa using hz a
  rw [run_equalIn_struct w (d + 3) 26 _ _ (by kernel_rfl) (by kernel_rfl)]
  have h24 := fun w => run_equalIn_spans (P := Tryz.prog) w (d + 2) 24 23 Tryz.underlying24 sz23 (fun w => by simp [isAgg, run_underlying Tryz.underlying23]) (fun w x0 x1 y0 y1 => eq_span d w x0 x1 y0 y1) a b
  simp only [Program.fieldsOf, Tryz.underlying26, Op.eqFields, p0, Sem.run_bind, Result.andThen_ok, Sem.run_pure]
  simp [p0, h24, Op.eqFields]
  cases sameV a b <;> simp
end Go.Proofs.YtbhiphjifdnhmaaGreatDoor

/- The reference: within, number, Span, Check. -/
namespace Go.Proofs.YtbhiphjifdnhmaaGreatDoor
open Go.RowKit
set_option linter.unusedSimpArgs false

set_option maxHeartbeats 400000 in
theorem refWithin_any (n lo hi : Int) (w : World) : Calls Tryz.prog 93 #[.int .i64 n, .int .i64 lo, .int .i64 hi] w fun e w' => e = .returned (.bool (decide (lo ≤ n) && decide (n ≤ hi))) ∧ w = w' := by
  by_cases h0 : lo ≤ n
  · by_cases h1 : n ≤ hi
    · go_enter Tryz.func93, Tryz.ntmps93
      go_wp2
      go_ret
      exact ⟨ret_bool (by simp [h0, h1]), rfl⟩
    · have h1' : hi < n := by omega
      go_enter Tryz.func93, Tryz.ntmps93
      go_wp2
      go_ret
      exact ⟨ret_bool (by simp [h0, h1]), rfl⟩
  · have h0' : n < lo := by omega
    go_enter Tryz.func93, Tryz.ntmps93
    go_wp2
    go_ret
    exact ⟨ret_bool (by simp; omega), rfl⟩
set_option maxHeartbeats 400000 in
theorem refNumber_any (n : Int) (w : World) : Calls Tryz.prog 91 #[.int .i64 n] w fun e w' => e = .returned (.bool (numB n)) ∧ w = w' := by
  go_enter Tryz.func91, Tryz.ntmps91
  go_wp2_with (go_at_call 93; refine (refWithin_any _ _ _ _).mono ?_; rintro e w1 ⟨rfl, rfl⟩)
  go_ret
  exact ⟨rfl, rfl⟩
def spanB (x y : Int) : Bool := (numB x && numB y) && decide (x ≤ y)
set_option maxHeartbeats 400000 in
theorem refSpan_any (x y : Int) (w : World) : Calls Tryz.prog 92 #[.agg #[.int .i64 x, .int .i64 y]] w fun e w' => e = .returned (.bool (spanB x y)) ∧ Below w.heap.size w w' := by
  have k0 : Blk (w.alloc (.cells #[.int .i64 x, .int .i64 y] 23)) w.heap.size 23 #[.int .i64 x, .int .i64 y] := Blk.new _ _ _
  obtain ⟨c0, c1⟩ := k0.two
  have hb0 := below_new w (.cells #[.int .i64 x, .int .i64 y] 23)
  cases hx : numB x
  · have HX := Lib.hid hx
    have HR := Lib.hid (show spanB x y = false by simp [spanB, hx])
    clear hx
    cases hy : numB y
    all_goals
      have HY := Lib.hid hy
      clear hy
      go_enter Tryz.func92, Tryz.ntmps92
      go_wp2_with (go_at_call 91; refine (refNumber_any _ _).mono ?_; (first | rw [HX.out] | rw [HY.out]); rintro e w1 ⟨rfl, rfl⟩)
      go_ret
      exact ⟨ret_bool HR.out.symm, hb0⟩
  · have HX := Lib.hid hx
    cases hy : numB y
    · have HR := Lib.hid (show spanB x y = false by simp [spanB, hy])
      have HY := Lib.hid hy
      clear hx hy
      go_enter Tryz.func92, Tryz.ntmps92
      go_wp2_with (go_at_call 91; refine (refNumber_any _ _).mono ?_; (first | rw [HX.out] | rw [HY.out]); rintro e w1 ⟨rfl, rfl⟩)
      go_ret
      exact ⟨ret_bool HR.out.symm, hb0⟩
    · have HR := Lib.hid (show spanB x y = decide (x ≤ y) by simp [spanB, hx, hy])
      have HY := Lib.hid hy
      clear hx hy
      go_enter Tryz.func92, Tryz.ntmps92
      go_wp2_with (go_at_call 91; refine (refNumber_any _ _).mono ?_; (first | rw [HX.out] | rw [HY.out]); rintro e w1 ⟨rfl, rfl⟩)
      go_ret
      exact ⟨ret_bool HR.out.symm, hb0⟩
set_option maxRecDepth 100000 in
set_option maxHeartbeats 1600000 in
theorem refCheck_any (a : Nat → Int) (w : World) : Calls Tryz.prog 43 #[.agg (va a)] w fun e w' => e = .returned (.int .i64 (chkV a)) ∧ Below w.heap.size w w' := by
  go_enter Tryz.func43, Tryz.ntmps43
  go_wp2_with fail
  go_loopw [3] (fun t wr => ∃ k : Nat, k ≤ 12 ∧ t = .int .i64 k ∧ vokTo a k = true ∧ Below (w.heap.size + 1) (w.alloc (.cells (va a) 26)) wr) (fun t _ => 12 - (intOf t).toNat)
  case atStart => exact ⟨0, by omega, rfl, rfl, Below.refl _ _⟩
  case round =>
    obtain ⟨k, hk, rfl, hv, hb⟩ := hrel
    have hz := hb.size
    simp only [World.size_alloc] at hz
    have hblk : Blk wr w.heap.size 26 (va a) := (Blk.new _ _ _).below hb (by omega)
    have hbad : k < 12 → okAt a k = false → chkV a = 1 := fun h1 h2 => chkV_no (by
      cases hc : vok a
      · rfl
      · have := vokTo_mono hc (show k + 1 ≤ 12 by omega)
        rw [vokTo_succ, h2, Bool.and_false] at this
        cases this)
    have HV := Lib.hid hv
    clear hv
    by_cases hlt : k < 12
    · obtain ⟨c0, c1⟩ := hblk.spans k hlt
      have hsp : okAt a k = (spanB (a (2 * k)) (a (2 * k + 1)) && (k == 0 || (decide (a (2 * (k - 1)) ≤ a (2 * k)) && decide (a (2 * k + 1) ≤ a (2 * (k - 1) + 1))))) := by
        simp [okAt, spanB, Bool.and_comm]
      cases hS : spanB (a (2 * k)) (a (2 * k + 1))
      · have HB := Lib.hid (hbad hlt (by rw [hsp, hS]; rfl))
        have HS := Lib.hid hS
        clear hS hbad hsp
        go_wp2_with (go_at_call 92; refine (refSpan_any _ _ _).mono ?_; rw [HS.out]; rintro e w1 ⟨rfl, hb1⟩)
        go_ret
        exact ⟨ret_int HB.out.symm, below_next (below_new _ _) (by simp) (by simpa using below_next hb (by omega) hb1)⟩
      · have HS := Lib.hid hS
        have HK := Lib.hid (show okAt a k = (k == 0 || (decide (a (2 * (k - 1)) ≤ a (2 * k)) && decide (a (2 * k + 1) ≤ a (2 * (k - 1) + 1)))) by rw [hsp, hS]; rfl)
        clear hS hsp
        go_wp2_with (go_at_call 92; refine (refSpan_any _ _ _).mono ?_; rw [HS.out]; rintro e w1 ⟨rfl, hb1⟩)
        have hb2 : Below (w.heap.size + 1) (w.alloc (.cells (va a) 26)) w1 := below_next hb (by omega) hb1
        have hblk1 : Blk w1 w.heap.size 26 (va a) := (Blk.new _ _ _).below hb2 (by omega)
        by_cases hk0 : k = 0
        · have hd : decide (0 < k) = false := by simp [hk0]
          have HD := Lib.hid hk0
          clear hk0
          go_quiet (fail)
          go_wp2
          go_roundw
          case rel => exact ⟨k + 1, by omega, by go_num, by rw [vokTo_succ, HV.out, HK.out]; simp [HD.out], below_drewN hb2 _⟩
          case measure => simp [intOf]; omega
        · have hd : decide (0 < k) = true := by simp; omega
          have hk1 : ((k : Int) - 1).toNat = k - 1 := by omega
          have hk2 : IntKind.i64.wrap ((k : Int) - 1) = (k : Int) - 1 := IntWalk.i64_in _ (by omega)
          have hk3 : 0 ≤ (k : Int) - 1 := by omega
          have hk4 : (k : Int) - 1 < 12 := by omega
          have hk5 : 1 ≤ (k : Int) := by omega
          have hk6 : (k : Int) < 13 := by omega
          have hk7 : 0 ≤ (k : Int) - 1 ∧ (k : Int) - 1 < 12 := by omega
          have hk8 : max (0 : Int) ((k : Int) - 1) = (k : Int) - 1 := by omega
          obtain ⟨e0, e1⟩ := hblk1.spans k hlt
          obtain ⟨f0, f1⟩ := hblk1.spans (k - 1) (by omega)
          have hkz : (k == 0) = false := by simp; omega
          have HZ := Lib.hid hkz
          clear hkz
          have HP := Lib.hid hbad
          clear hbad
          by_cases hp : a (2 * k) < a (2 * (k - 1))
          · have HB := Lib.hid (HP.out hlt (by rw [HK.out, HZ.out, decide_eq_false (by omega : ¬ a (2 * (k - 1)) ≤ a (2 * k))]; rfl))
            have hp2 : decide (a (2 * k) < a (2 * (k - 1))) = true := decide_eq_true hp
            go_quiet (fail)
            go_wp2
            go_ret
            exact ⟨ret_int HB.out.symm, below_next (below_new _ _) (by simp) (by simpa using below_drewN hb2 _)⟩
          · have hp2 : decide (a (2 * k) < a (2 * (k - 1))) = false := decide_eq_false hp
            by_cases hq : a (2 * (k - 1) + 1) < a (2 * k + 1)
            · have HB := Lib.hid (HP.out hlt (by rw [HK.out, HZ.out, decide_eq_false (by omega : ¬ a (2 * k + 1) ≤ a (2 * (k - 1) + 1))]; simp))
              have hq2 : decide (a (2 * (k - 1) + 1) < a (2 * k + 1)) = true := decide_eq_true hq
              go_quiet (fail)
              go_wp2
              go_ret
              exact ⟨ret_int HB.out.symm, below_next (below_new _ _) (by simp) (by simpa using below_drewN hb2 _)⟩
            · have hq2 : decide (a (2 * (k - 1) + 1) < a (2 * k + 1)) = false := decide_eq_false hq
              have HG := Lib.hid (show okAt a k = true by rw [HK.out, HZ.out, decide_eq_true (by omega : a (2 * (k - 1)) ≤ a (2 * k)), decide_eq_true (by omega : a (2 * k + 1) ≤ a (2 * (k - 1) + 1))]; rfl)
              go_quiet (fail)
              go_wp2
              go_roundw
              case rel => exact ⟨k + 1, by omega, by go_num, by rw [vokTo_succ, HV.out, HG.out]; rfl, below_drewN hb2 _⟩
              case measure => simp [intOf]; omega
    · go_wp2
      go_ret
      exact ⟨ret_int (by obtain rfl : k = 12 := by omega
                         exact (chkV_ok HV.out).symm), below_next (below_new _ _) (by simp) (by simpa using hb)⟩
end Go.Proofs.YtbhiphjifdnhmaaGreatDoor

