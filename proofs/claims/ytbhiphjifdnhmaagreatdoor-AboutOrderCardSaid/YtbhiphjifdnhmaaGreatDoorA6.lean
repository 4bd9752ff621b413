import Derived.Test.YtbhiphjifdnhmaaGreatDoorProg
import Derived.Test.YtbhiphjifdnhmaaGreatDoorM4
import Derived.WalkSpells
import Derived.WalkLawsBesides
import Derived.Deep.QuietTactic
import Derived.BigQuiet
import Derived.IntWalk
import Derived.Deep.RegionHeld3
import Derived.Deep.DeepCutAuto
/- The smallest functions: of spans and numbers. -/
namespace Go.Proofs.YtbhiphjifdnhmaaGreatDoor
open Go.RowKit

set_option maxHeartbeats 400000 in
theorem isSpan_any (x y : Int) (w : World) : Calls Tryz.prog 62 #[.agg #[.int .i64 x, .int .i64 y]] w fun e w' => e = .returned (.bool (decide (x ≤ y))) ∧ Below w.heap.size w w' := by
  go_enter Tryz.func62, Tryz.ntmps62
  go_wp2
  go_ret
  exact ⟨rfl, below_new _ _⟩

set_option maxHeartbeats 400000 in
theorem isNumber_any (n : Int) (w : World) : Calls Tryz.prog 63 #[.int .i64 n] w fun e w' => e = .returned (.bool (numB n)) ∧ w = w' := by
  go_enter Tryz.func63, Tryz.ntmps63
  go_wp2
  all_goals
    go_ret
    exact ⟨ret_bool (by simp [numB, *]; try omega), rfl⟩

set_option maxHeartbeats 400000 in
theorem within_any (s0 s1 t0 t1 : Int) (w : World) : Calls Tryz.prog 64 #[.agg #[.int .i64 s0, .int .i64 s1], .agg #[.int .i64 t0, .int .i64 t1]] w fun e w' => e = .returned (.bool (decide (t0 ≤ s0) && decide (s1 ≤ t1))) ∧ Below w.heap.size w w' := by
  go_enter Tryz.func64, Tryz.ntmps64
  go_wp2
  all_goals
    go_ret
    exact ⟨ret_bool (by simp [*]; try omega), (below_new _ _).alloc (by simp) _⟩

set_option maxHeartbeats 400000 in
theorem has_any (s0 s1 n : Int) (w : World) : Calls Tryz.prog 76 #[.agg #[.int .i64 s0, .int .i64 s1], .int .i64 n] w fun e w' => e = .returned (.bool (decide (s0 ≤ n) && decide (n ≤ s1))) ∧ Below w.heap.size w w' := by
  go_enter Tryz.func76, Tryz.ntmps76
  go_wp2
  all_goals
    go_ret
    exact ⟨ret_bool (by simp [*]; try omega), below_new _ _⟩


set_option maxHeartbeats 400000 in
theorem meet_any (s0 s1 t0 t1 : Int) (w : World) : Calls Tryz.prog 73 #[.agg #[.int .i64 s0, .int .i64 s1], .agg #[.int .i64 t0, .int .i64 t1]] w fun e w' => e = .returned (.agg #[.int .i64 (meetM s0 s1 t0 t1).1, .int .i64 (meetM s0 s1 t0 t1).2]) ∧ Below w.heap.size w w' := by
  go_enter Tryz.func73, Tryz.ntmps73
  go_wp2
  all_goals
    exact bodyPost_ret (v := .agg #[.int .i64 (meetM s0 s1 t0 t1).1, .int .i64 (meetM s0 s1 t0 t1).2]) (by simp [results, Tryz.results73, go_sem, meetM]; try omega) rfl ⟨rfl, ((below_new _ _).alloc (by simp) _).alloc (by simp; omega) _⟩

set_option maxHeartbeats 400000 in
theorem plusF_any (s0 s1 t0 t1 : Int) (w : World) (h0 : -3000 ≤ s0 ∧ s0 ≤ 3000) (h1 : -3000 ≤ s1 ∧ s1 ≤ 3000) (h2 : -3000 ≤ t0 ∧ t0 ≤ 3000) (h3 : -3000 ≤ t1 ∧ t1 ≤ 3000) : Calls Tryz.prog 70 #[.agg #[.int .i64 s0, .int .i64 s1], .agg #[.int .i64 t0, .int .i64 t1]] w fun e w' => e = .returned (.agg #[.int .i64 (plusM s0 s1 t0 t1).1, .int .i64 (plusM s0 s1 t0 t1).2]) ∧ Below w.heap.size w w' := by
  go_enter Tryz.func70, Tryz.ntmps70
  go_wp2
  exact bodyPost_ret (v := .agg #[.int .i64 (plusM s0 s1 t0 t1).1, .int .i64 (plusM s0 s1 t0 t1).2]) (by simp [results, Tryz.results70, go_sem, plusM]) rfl ⟨rfl, ((below_new _ _).alloc (by simp) _).alloc (by simp; omega) _⟩

set_option maxHeartbeats 400000 in
theorem lessF_any (s0 s1 t0 t1 : Int) (w : World) (h0 : -3000 ≤ s0 ∧ s0 ≤ 3000) (h1 : -3000 ≤ s1 ∧ s1 ≤ 3000) (h2 : -3000 ≤ t0 ∧ t0 ≤ 3000) (h3 : -3000 ≤ t1 ∧ t1 ≤ 3000) : Calls Tryz.prog 71 #[.agg #[.int .i64 s0, .int .i64 s1], .agg #[.int .i64 t0, .int .i64 t1]] w fun e w' => e = .returned (.agg #[.int .i64 (lessM s0 s1 t0 t1).1, .int .i64 (lessM s0 s1 t0 t1).2]) ∧ Below w.heap.size w w' := by
  go_enter Tryz.func71, Tryz.ntmps71
  go_wp2
  exact bodyPost_ret (v := .agg #[.int .i64 (lessM s0 s1 t0 t1).1, .int .i64 (lessM s0 s1 t0 t1).2]) (by simp [results, Tryz.results71, go_sem, lessM]) rfl ⟨rfl, ((below_new _ _).alloc (by simp) _).alloc (by simp; omega) _⟩

set_option maxHeartbeats 400000 in
theorem hullF_any (s0 s1 t0 t1 : Int) (w : World) : Calls Tryz.prog 74 #[.agg #[.int .i64 s0, .int .i64 s1], .agg #[.int .i64 t0, .int .i64 t1]] w fun e w' => e = .returned (.agg #[.int .i64 (hullM s0 s1 t0 t1).1, .int .i64 (hullM s0 s1 t0 t1).2]) ∧ Below w.heap.size w w' := by
  go_enter Tryz.func74, Tryz.ntmps74
  go_wp2
  all_goals
    exact bodyPost_ret (v := .agg #[.int .i64 (hullM s0 s1 t0 t1).1, .int .i64 (hullM s0 s1 t0 t1).2]) (by simp [results, Tryz.results74, go_sem, hullM]; try omega) rfl ⟨rfl, ((below_new _ _).alloc (by simp) _).alloc (by simp; omega) _⟩

end Go.Proofs.YtbhiphjifdnhmaaGreatDoor

/- Check. -/
namespace Go.Proofs.YtbhiphjifdnhmaaGreatDoor
open Go.RowKit

theorem info24 (a : Nat → Int) : (Tryz.prog.info? 24).map (·.size) = some (va a).size := by
  rw [va_size]; kernel_rfl
theorem info26 (a : Nat → Int) : (Tryz.prog.info? 26).map (·.size) = some (va a).size := by
  rw [va_size]; kernel_rfl
theorem va_extract (a : Nat → Int) (k : Nat) (hk : k < 12) : (va a).extract (k * 2) (k * 2 + 2) = #[.int .i64 (a (2 * k)), .int .i64 (a (2 * k + 1))] := by
  apply Array.ext_getElem?
  intro i
  rw [Array.getElem?_extract]
  match i with
  | 0 => simp [va_get a (k * 2) (by omega), va_size]; exact ⟨by omega, by rw [Nat.mul_comm]⟩
  | 1 => simp [va_get a (k * 2 + 1) (by omega), va_size]; exact ⟨by omega, by rw [Nat.mul_comm]⟩
  | i + 2 => simp [va_size]; omega
theorem run_index_va (a : Nat → Int) (k : Nat) (hk : k < 12) (w : World) : (Instr.index 24 (.agg (va a)) (.int .i64 (k : Int))).run Tryz.prog w = .ok (.agg #[.int .i64 (a (2 * k)), .int .i64 (a (2 * k + 1))]) w := by
  have h4 : (Tryz.prog.info? 23).map (·.size) = some 2 := by kernel_rfl
  cases hq : Tryz.prog.info? 23 with
  | none => simp [hq] at h4
  | some i =>
    have hs : i.size = 2 := by simpa [hq] using h4
    have hx := va_extract a k hk
    simp [Instr.index, run_underlying Tryz.underlying24, asIntOf, part, isAgg, run_underlying Tryz.underlying23, sizeOf, typeInfo, hq, hs, hx]
    intro h
    omega

set_option maxRecDepth 100000 in
set_option maxHeartbeats 800000 in
theorem check_any (a : Nat → Int) (w : World) : Calls Tryz.prog 14 #[.agg (va a)] w fun e w' => e = .returned (.int .i64 (chkV a)) ∧ Below w.heap.size w w' := by
  go_enter Tryz.func14, Tryz.ntmps14
  go_wp2_with (refine wpList_load_row rfl 24 _ rfl _ rfl 26 _ (0, 0) _ (Blk.new _ _ _) Tryz.underlying24 rfl (info24 _) ?_)
  go_loopw [7] (fun t wr => ∃ k : Nat, k ≤ 12 ∧ t = .int .i64 k ∧ vokTo a k = true ∧ Below (w.heap.size + 1) (w.alloc (.cells (va a) 26)) wr) (fun t _ => 12 - (intOf t).toNat)
  case atStart => exact ⟨0, by omega, rfl, rfl, Below.refl _ _⟩
  case round =>
    obtain ⟨k, hk, rfl, hv, hb⟩ := hrel
    have hz := hb.size
    simp only [World.size_alloc] at hz
    have hblk : Blk wr w.heap.size 26 (va a) := (Blk.new _ _ _).below hb (by omega)
    have hbad : k < 12 → okAt a k = false → chkV a = 1 := fun h1 h2 => chkV_no (by
      cases hc : vok a
      · rfl
      · have := vokTo_mono hc (show k + 1 ≤ 12 by omega)
        rw [vokTo_succ, h2, Bool.and_false] at this
        cases this)
    have HV := Lib.hid hv
    clear hv
    by_cases hlt : k < 12
    · have hix := run_index_va a k hlt
      obtain ⟨c0, c1⟩ := hblk.spans k hlt
      have hnew : Blk (wr.alloc (.cells #[.int .i64 (a (2 * k)), .int .i64 (a (2 * k + 1))] 23)) wr.heap.size 23 #[.int .i64 (a (2 * k)), .int .i64 (a (2 * k + 1))] := Blk.new _ _ _
      have hbn := below_new wr (.cells #[.int .i64 (a (2 * k)), .int .i64 (a (2 * k + 1))] 23)
      cases hA : decide (a (2 * k) ≤ a (2 * k + 1))
      · have HB := Lib.hid (hbad hlt (by simp [okAt, hA]))
        have HA := Lib.hid hA
        clear hA hbad
        go_wp2_with (first
          | (go_at_call 62; refine (isSpan_any _ _ _).mono ?_; rw [HA.out]; rintro e w1 ⟨rfl, hb1⟩))
        go_ret
        exact ⟨ret_int HB.out.symm, below_next (below_new _ _) (by simp) (by simpa using below_next hb (by omega) (below_next hbn (by simp) hb1))⟩
      · have HA := Lib.hid hA
        have arms : True := trivial
        cases hB : numB (a (2 * k))
        · have HB := Lib.hid (hbad hlt (by simp [okAt, hA, hB]))
          have HN := Lib.hid hB
          clear hA hB hbad
          go_wp2_with (first
            | (go_at_call 62; refine (isSpan_any _ _ _).mono ?_; rw [HA.out]; rintro e w1 ⟨rfl, hb1⟩; obtain ⟨d0, d1⟩ := (hnew.below hb1 (by simp)).two)
            | (go_at_call 63; refine (isNumber_any _ _).mono ?_; rw [HN.out]; rintro e w2 ⟨rfl, rfl⟩))
          go_ret
          exact ⟨ret_int HB.out.symm, below_next (below_new _ _) (by simp) (by simpa using below_next hb (by omega) (below_next hbn (by simp) hb1))⟩
        · cases hC : numB (a (2 * k + 1))
          · have HB := Lib.hid (hbad hlt (by simp [okAt, hA, hB, hC]))
            have HN := Lib.hid hB
            have HM := Lib.hid hC
            clear hA hB hC hbad
            go_wp2_with (first
              | (go_at_call 62; refine (isSpan_any _ _ _).mono ?_; rw [HA.out]; rintro e w1 ⟨rfl, hb1⟩; obtain ⟨d0, d1⟩ := (hnew.below hb1 (by simp)).two)
              | (go_at_call 63; refine (isNumber_any _ _).mono ?_; (first | rw [HN.out] | rw [HM.out]); rintro e w2 ⟨rfl, rfl⟩))
            go_ret
            exact ⟨ret_int HB.out.symm, below_next (below_new _ _) (by simp) (by simpa using below_next hb (by omega) (below_next hbn (by simp) hb1))⟩
          · have HK := Lib.hid (show okAt a k = (k == 0 || (decide (a (2 * (k - 1)) ≤ a (2 * k)) && decide (a (2 * k + 1) ≤ a (2 * (k - 1) + 1)))) from by simp [okAt, hA, hB, hC])
            have HN := Lib.hid hB
            have HM := Lib.hid hC
            clear hA hB hC
            go_wp2_with (first
              | (go_at_call 62; refine (isSpan_any _ _ _).mono ?_; rw [HA.out]; rintro e w1 ⟨rfl, hb1⟩; obtain ⟨d0, d1⟩ := (hnew.below hb1 (by simp)).two)
              | (go_at_call 63; refine (isNumber_any _ _).mono ?_; (first | rw [HN.out] | rw [HM.out]); rintro e w2 ⟨rfl, rfl⟩))
            have hz1 : wr.heap.size + 1 ≤ w1.heap.size := by have := hb1.size; simpa using this
            have hb2 : Below (w.heap.size + 1) (w.alloc (.cells (va a) 26)) w1 := below_next hb (by omega) (below_next hbn (by simp) hb1)
            have hblk1 : Blk w1 w.heap.size 26 (va a) := (Blk.new _ _ _).below hb2 (by omega)
            by_cases hk0 : k = 0
            · have hd : decide (0 < k) = false := by simp [hk0]
              have HD := Lib.hid hk0
              clear hk0
              go_quiet (fail)
              go_wp2
              go_roundw
              case rel => exact ⟨k + 1, by omega, by go_num, by rw [vokTo_succ, HV.out, HK.out]; simp [HD.out], below_drewN hb2 _⟩
              case measure => simp [intOf]; omega
            · have hd : decide (0 < k) = true := by simp; omega
              have hk1 : ((k : Int) - 1).toNat = k - 1 := by omega
              have hk2 : IntKind.i64.wrap ((k : Int) - 1) = (k : Int) - 1 := IntWalk.i64_in _ (by omega)
              have hk3 : 0 ≤ (k : Int) - 1 := by omega
              have hk4 : (k : Int) - 1 < 12 := by omega
              have hk5 : 1 ≤ (k : Int) := by omega
              have hk6 : (k : Int) < 13 := by omega
              have hk7 : 0 ≤ (k : Int) - 1 ∧ (k : Int) - 1 < 12 := by omega
              obtain ⟨f0, f1⟩ := hblk1.spans (k - 1) (by omega)
              have hkz : (k == 0) = false := by simp; omega
              have HZ := Lib.hid hkz
              clear hkz
              have HP := Lib.hid hbad
              clear hbad
              cases hD : (decide (a (2 * (k - 1)) ≤ a (2 * k)) && decide (a (2 * k + 1) ≤ a (2 * (k - 1) + 1)))
              all_goals
                have HD := Lib.hid hD
                clear hD
                go_region_held3 (fun w' => w'.cell? ⟨wr.heap.size, 0, none⟩ = some (.int .i64 (a (2 * k))) ∧ w'.cell? ⟨wr.heap.size, 1, none⟩ = some (.int .i64 (a (2 * k + 1))) ∧ w'.cell? ⟨w.heap.size, (k - 1) * 2, none⟩ = some (.int .i64 (a (2 * (k - 1)))) ∧ w'.cell? ⟨w.heap.size, (k - 1) * 2 + 1, none⟩ = some (.int .i64 (a (2 * (k - 1) + 1)))) (first | exact K3 | exact ⟨d0, d1, f0, f1⟩)
                  ((go_at_call 64; refine (within_any _ _ _ _ _).mono ?_; rw [HD.out]; rintro e w3 ⟨rfl, hb3⟩; have K3 := And.intro (keepL hb3 d0) (And.intro (keepL hb3 d1) (And.intro (keepL hb3 f0) (keepL hb3 f1)))))
              · go_wp2
                go_ret
                exact ⟨ret_int (HP.out hlt (by rw [HK.out, HZ.out, HD.out]; rfl)).symm, below_next (below_new _ _) (by simp) (by simpa using below_next hb2.drew (by simp; omega) hb3)⟩
              · go_wp2
                go_roundw
                case rel => exact ⟨k + 1, by omega, by go_num, by rw [vokTo_succ, HV.out, HK.out, HZ.out, HD.out]; rfl, below_next hb2.drew (by simp; omega) hb3⟩
                case measure => simp [intOf]; omega
    · go_wp2
      go_ret
      exact ⟨ret_int (by obtain rfl : k = 12 := by omega
                         exact (chkV_ok HV.out).symm), below_next (below_new _ _) (by simp) (by simpa using hb)⟩
end Go.Proofs.YtbhiphjifdnhmaaGreatDoor

/- checkTwo, inRange, Cut, Degree. -/
namespace Go.Proofs.YtbhiphjifdnhmaaGreatDoor
open Go.RowKit

/-- a vague day loaded whole out of slot t -/
theorem ldV {ops : Array Oper} {rest : List Oper} {o : Oper} {a : Act} {w : World} {Q : Exit → Act → World → Prop} (t : Tmp) (hgd : o.guard = none) (ho : o.op = .load 26 (.tmp t))
    {g : Nat} {T : TypeId} {c : Nat → Int} (hB : Blk w g T (va c)) (hx : a.eval (.tmp t) = .pointer (some ⟨g, 0, none⟩)) (h : wpList Tryz.prog ops Q rest (a.put o.dst (.agg (va c))) w) : wpList Tryz.prog ops Q (o :: rest) a w :=
  wpList_load_row hgd 26 _ ho g hx T _ (0, 0) _ hB Tryz.underlying26 rfl (info26 _) h
theorem va_one (a : Nat → Int) : (va a).all (·.oneCell') = true := by
  rw [Array.all_eq_true]
  intro i hi
  simp [va, Value.oneCell']
/-- a vague day stored whole at slot t -/
theorem stV {ops : Array Oper} {rest : List Oper} {o : Oper} {a : Act} {w : World} {Q : Exit → Act → World → Prop} (t s : Tmp) (hgd : o.guard = none) (ho : o.op = .store 26 (.tmp t) (.tmp s))
    {g : Nat} {T : TypeId} {c old : Nat → Int} (hB : Blk w g T (va old)) (hx : a.eval (.tmp t) = .pointer (some ⟨g, 0, none⟩)) (hy : a.eval (.tmp s) = .agg (va c)) (h : wpList Tryz.prog ops Q rest (a.put o.dst undef) (w.setRow g (va c))) : wpList Tryz.prog ops Q (o :: rest) a w :=
  wpList_store_row hgd 26 _ _ ho g _ hx hy T _ hB (info26 _) (by rw [va_size, va_size]) (va_one _) h

set_option maxRecDepth 100000 in
set_option maxHeartbeats 800000 in
theorem checkTwo_any (a b : Nat → Int) (w : World) : Calls Tryz.prog 72 #[.agg (va a), .agg (va b)] w fun e w' => e = .returned (.int .i64 (chk2 a b)) ∧ Below w.heap.size w w' := by
  have hA := (Blk.new w 26 (va a)).alloc (.cells (va b) 26)
  have hB : Blk ((w.alloc (.cells (va a) 26)).alloc (.cells (va b) 26)) (w.heap.size + 1) 26 (va b) := Blk.newAt (by simp)
  have hb0 : Below w.heap.size w ((w.alloc (.cells (va a) 26)).alloc (.cells (va b) 26)) := (below_new _ _).alloc (by simp) _
  cases h1 : vok a
  · have H1 := Lib.hid (chkV_no h1)
    have HR := Lib.hid (show chk2 a b = 1 by simp [chk2, h1])
    clear h1
    go_enter Tryz.func72, Tryz.ntmps72
    go_wp2_with (first
      | (refine ldV 2 rfl rfl hA rfl ?_)
      | (go_at_call 14; refine (check_any _ _).mono ?_; rw [H1.out]; rintro e w1 ⟨rfl, hb1⟩))
    go_ret
    exact ⟨ret_int HR.out.symm, below_next hb0 (by simp; omega) hb1⟩
  · have H1 := Lib.hid (chkV_ok h1)
    have HR := Lib.hid (show chk2 a b = chkV b by simp [chk2, chkV, h1])
    clear h1
    go_enter Tryz.func72, Tryz.ntmps72
    go_wp2_with (first
      | (refine ldV 2 rfl rfl hA rfl ?_)
      | (refine ldV 3 rfl rfl hB1 rfl ?_)
      | (go_at_call 14; refine (check_any _ _).mono ?_; (first | (rw [H1.out]; rintro e w1 ⟨rfl, hb1⟩; have hB1 := hB.below hb1 (by simp)) | (rintro e w2 ⟨rfl, hb2⟩))))
    go_ret
    exact ⟨ret_int HR.out.symm, below_next (below_next hb0 (by simp; omega) hb1) (by have := hb1.size; simp at this; omega) hb2⟩
end Go.Proofs.YtbhiphjifdnhmaaGreatDoor

/- inRange, Cut, Degree. -/
namespace Go.Proofs.YtbhiphjifdnhmaaGreatDoor
open Go.RowKit

theorem z24 : (#[.int .i64 0, .int .i64 0, .int .i64 0, .int .i64 0, .int .i64 0, .int .i64 0, .int .i64 0, .int .i64 0, .int .i64 0, .int .i64 0, .int .i64 0, .int .i64 0, .int .i64 0, .int .i64 0, .int .i64 0, .int .i64 0, .int .i64 0, .int .i64 0, .int .i64 0, .int .i64 0, .int .i64 0, .int .i64 0, .int .i64 0, .int .i64 0] : Array Value) = va zeroV := by kernel_rfl
/-- the results of a vague day in a cell and an error -/
theorem resV2 {fn : Func} {p t : Tmp} (h : fn.results = #[.cell p 26, .tmp t]) (tmps : Array Value) (w : World) {g : Nat} {T : TypeId} {c : Nat → Int} (hB : Blk w g T (va c))
    (hp : tmps.getD p undef = .pointer (some ⟨g, 0, none⟩)) {v : Value} (hv : tmps.getD t undef = v) : (results fn tmps).run Tryz.prog w = .ok (.tuple #[.agg (va c), v]) w := by
  have hp' : tmps[p]?.getD undef = .pointer (some ⟨g, 0, none⟩) := by simpa using hp
  have hv' : tmps[t]?.getD undef = v := by simpa using hv
  simp [results, h, hp', hv', asAddr, run_loadVar_row w g T 26 (va c) (0, 0) _ hB Tryz.underlying26 rfl (info26 _)]
theorem resV3 {fn : Func} {p t s : Tmp} (h : fn.results = #[.cell p 26, .tmp t, .tmp s]) (tmps : Array Value) (w : World) {g : Nat} {T : TypeId} {c : Nat → Int} (hB : Blk w g T (va c))
    (hp : tmps.getD p undef = .pointer (some ⟨g, 0, none⟩)) {v u : Value} (hv : tmps.getD t undef = v) (hu : tmps.getD s undef = u) : (results fn tmps).run Tryz.prog w = .ok (.tuple #[.agg (va c), v, u]) w := by
  have hp' : tmps[p]?.getD undef = .pointer (some ⟨g, 0, none⟩) := by simpa using hp
  have hv' : tmps[t]?.getD undef = v := by simpa using hv
  have hu' : tmps[s]?.getD undef = u := by simpa using hu
  simp [results, h, hp', hv', hu', asAddr, run_loadVar_row w g T 26 (va c) (0, 0) _ hB Tryz.underlying26 rfl (info26 _)]
theorem resV1 {fn : Func} {p : Tmp} (h : fn.results = #[.cell p 26]) (tmps : Array Value) (w : World) {g : Nat} {T : TypeId} {c : Nat → Int} (hB : Blk w g T (va c))
    (hp : tmps.getD p undef = .pointer (some ⟨g, 0, none⟩)) : (results fn tmps).run Tryz.prog w = .ok (.agg (va c)) w :=
  results_cell_row h tmps w g T (va c) (0, 0) _ hp hB Tryz.underlying26 rfl (info26 _)
/-- a vague day and an error are returned -/
def RetV (w : World) (c : Nat → Int) (er : Int) (e : Ending) (w' : World) : Prop := e = .returned (.tuple #[.agg (va c), .int .i64 er]) ∧ Below w.heap.size w w'

set_option maxRecDepth 100000 in
set_option maxHeartbeats 800000 in
theorem inRange_any (a : Nat → Int) (w : World) : Calls Tryz.prog 75 #[.agg (va a)] w (RetV w (orZero a (rngE a)) (rngE a)) := by
  have hA : Blk ((w.alloc (.cells (va a) 26)).alloc (.cells #[.int .i64 0, .int .i64 0, .int .i64 0, .int .i64 0, .int .i64 0, .int .i64 0, .int .i64 0, .int .i64 0, .int .i64 0, .int .i64 0, .int .i64 0, .int .i64 0, .int .i64 0, .int .i64 0, .int .i64 0, .int .i64 0, .int .i64 0, .int .i64 0, .int .i64 0, .int .i64 0, .int .i64 0, .int .i64 0, .int .i64 0, .int .i64 0] 26)) w.heap.size 26 (va a) := (Blk.new w 26 (va a)).alloc _
  have hZ : Blk ((w.alloc (.cells (va a) 26)).alloc (.cells #[.int .i64 0, .int .i64 0, .int .i64 0, .int .i64 0, .int .i64 0, .int .i64 0, .int .i64 0, .int .i64 0, .int .i64 0, .int .i64 0, .int .i64 0, .int .i64 0, .int .i64 0, .int .i64 0, .int .i64 0, .int .i64 0, .int .i64 0, .int .i64 0, .int .i64 0, .int .i64 0, .int .i64 0, .int .i64 0, .int .i64 0, .int .i64 0] 26)) (w.heap.size + 1) 26 (va zeroV) := by rw [z24]; exact Blk.newAt (by simp)
  have hb0 : Below w.heap.size w ((w.alloc (.cells (va a) 26)).alloc (.cells #[.int .i64 0, .int .i64 0, .int .i64 0, .int .i64 0, .int .i64 0, .int .i64 0, .int .i64 0, .int .i64 0, .int .i64 0, .int .i64 0, .int .i64 0, .int .i64 0, .int .i64 0, .int .i64 0, .int .i64 0, .int .i64 0, .int .i64 0, .int .i64 0, .int .i64 0, .int .i64 0, .int .i64 0, .int .i64 0, .int .i64 0, .int .i64 0] 26)) := (below_new _ _).alloc (by simp) _
  obtain ⟨c0, c1⟩ := hA.spans 0 (by omega)
  simp only [Nat.zero_mul, Nat.mul_zero, Nat.zero_add] at c0 c1
  cases h0 : numB (a 0)
  · have H0 := Lib.hid h0
    have HR := Lib.hid (show rngE a = 3 by simp [rngE, h0])
    clear h0
    go_enter Tryz.func75, Tryz.ntmps75
    go_wp2_with (first
      | (go_at_call 63; refine (isNumber_any _ _).mono ?_; rw [H0.out]; rintro e w1 ⟨rfl, rfl⟩)
      | (refine stV 2 18 rfl rfl (hZ.alloc _) rfl (congrArg Value.agg z24) ?_))
    refine bodyPost_ret (resV2 rfl _ _ ((hZ.alloc _).setRow _) rfl rfl) rfl ⟨?_, below_setRow (hb0.alloc (by simp; omega) _) (by omega) _⟩
    rw [HR.out]; rfl
  · cases h1 : numB (a 1)
    all_goals
      have H0 := Lib.hid h0
      have H1 := Lib.hid h1
      have HR := Lib.hid (show rngE a = if numB (a 1) then 0 else 3 by simp [rngE, h0])
      clear h0 h1
      go_enter Tryz.func75, Tryz.ntmps75
      go_wp2_with (first
        | (go_at_call 63; refine (isNumber_any _ _).mono ?_; (first | rw [H0.out] | rw [H1.out]); rintro e w1 ⟨rfl, rfl⟩)
        | (refine stV 2 18 rfl rfl (hZ.alloc _) rfl (congrArg Value.agg z24) ?_)
        | (refine ldV 1 rfl rfl (hA.alloc _) rfl ?_)
        | (refine stV 2 19 rfl rfl (hZ.alloc _) rfl rfl ?_))
      refine bodyPost_ret (resV2 rfl _ _ ((hZ.alloc _).setRow _) rfl rfl) rfl ⟨?_, below_setRow (hb0.alloc (by simp; omega) _) (by omega) _⟩
      rw [HR.out, H1.out]; rfl
end Go.Proofs.YtbhiphjifdnhmaaGreatDoor

/- Cut, Degree, Holds. -/
namespace Go.Proofs.YtbhiphjifdnhmaaGreatDoor
open Go.RowKit

def cutE (a : Nat → Int) (d : Int) : Int := if vok a && (decide (1 ≤ d) && decide (d ≤ 12)) then 0 else 1
def cutAt (a : Nat → Int) (d : Int) : Int × Int := if vok a && (decide (1 ≤ d) && decide (d ≤ 12)) then (a (2 * (d.toNat - 1)), a (2 * (d.toNat - 1) + 1)) else (0, 0)
/-- the results of a span in a cell and an error -/
theorem resS2 {fn : Func} {p t : Tmp} (h : fn.results = #[.cell p 23, .tmp t]) (tmps : Array Value) (w : World) {g : Nat} {T : TypeId} {x y : Value} (hB : Blk w g T #[x, y])
    (hp : tmps.getD p undef = .pointer (some ⟨g, 0, none⟩)) {v : Value} (hv : tmps.getD t undef = v) : (results fn tmps).run Tryz.prog w = .ok (.tuple #[.agg #[x, y], v]) w := by
  have hp' : tmps[p]?.getD undef = .pointer (some ⟨g, 0, none⟩) := by simpa using hp
  have hv' : tmps[t]?.getD undef = v := by simpa using hv
  simp [results, h, hp', hv', asAddr, run_loadVar_row w g T 23 #[x, y] (0, 0) _ hB Tryz.underlying23 rfl (by kernel_rfl)]
/-- a span and an error are returned -/
def RetS (w : World) (s : Int × Int) (er : Int) (e : Ending) (w' : World) : Prop := e = .returned (.tuple #[.agg #[.int .i64 s.1, .int .i64 s.2], .int .i64 er]) ∧ Below w.heap.size w w'

set_option maxRecDepth 100000 in
set_option maxHeartbeats 800000 in
theorem cut_any (a : Nat → Int) (d : Int) (w : World) : Calls Tryz.prog 21 #[.agg (va a), .int .i64 d] w (RetS w (cutAt a d) (cutE a d)) := by
  have hA : Blk ((w.alloc (.cells (va a) 26)).alloc (.cells #[.int .i64 0, .int .i64 0] 23)) w.heap.size 26 (va a) := (Blk.new w 26 (va a)).alloc _
  have hZ : Blk ((w.alloc (.cells (va a) 26)).alloc (.cells #[.int .i64 0, .int .i64 0] 23)) (w.heap.size + 1) 23 #[.int .i64 0, .int .i64 0] := Blk.newAt (by simp)
  have hb0 : Below w.heap.size w ((w.alloc (.cells (va a) 26)).alloc (.cells #[.int .i64 0, .int .i64 0] 23)) := (below_new _ _).alloc (by simp) _
  cases h0 : vok a
  · have H0 := Lib.hid (chkV_no h0)
    have HR := Lib.hid (show cutAt a d = (0, 0) ∧ cutE a d = 1 by simp [cutAt, cutE, h0])
    clear h0
    go_enter Tryz.func21, Tryz.ntmps21
    go_wp2_with (first
      | (refine ldV 2 rfl rfl hA rfl ?_)
      | (go_at_call 14; refine (check_any _ _).mono ?_; rw [H0.out]; rintro e w1 ⟨rfl, hb1⟩; obtain ⟨d0, d1⟩ := (hZ.below hb1 (by simp)).two; obtain ⟨q1, q2⟩ := bcell hb1))
    refine bodyPost_ret (resS2 rfl _ _ ((hZ.below hb1 (by simp)).twoStore _ _) rfl rfl) rfl ⟨?_, ((below_next hb0 (by simp; omega) hb1).setCell (by simp) _).setCell (by simp) _⟩
    rw [HR.out.1, HR.out.2]; rfl
  · by_cases h1 : d < 1
    · have H0 := Lib.hid (chkV_ok h0)
      have HR := Lib.hid (show cutAt a d = (0, 0) ∧ cutE a d = 1 by simp [cutAt, cutE, show ¬ (1 ≤ d) by omega])
      clear h0
      go_enter Tryz.func21, Tryz.ntmps21
      go_wp2_with (first
        | (refine ldV 2 rfl rfl hA rfl ?_)
        | (go_at_call 14; refine (check_any _ _).mono ?_; rw [H0.out]; rintro e w1 ⟨rfl, hb1⟩; obtain ⟨d0, d1⟩ := (hZ.below hb1 (by simp)).two; obtain ⟨q1, q2⟩ := bcell hb1))
      refine bodyPost_ret (resS2 rfl _ _ ((hZ.below hb1 (by simp)).twoStore _ _) rfl rfl) rfl ⟨?_, ((below_next hb0 (by simp; omega) hb1).setCell (by simp) _).setCell (by simp) _⟩
      rw [HR.out.1, HR.out.2]; rfl
    · by_cases h2 : 12 < d
      · have H0 := Lib.hid (chkV_ok h0)
        have HR := Lib.hid (show cutAt a d = (0, 0) ∧ cutE a d = 1 by simp [cutAt, cutE, show ¬ (d ≤ 12) by omega])
        clear h0
        go_enter Tryz.func21, Tryz.ntmps21
        go_wp2_with (first
          | (refine ldV 2 rfl rfl hA rfl ?_)
          | (go_at_call 14; refine (check_any _ _).mono ?_; rw [H0.out]; rintro e w1 ⟨rfl, hb1⟩; obtain ⟨d0, d1⟩ := (hZ.below hb1 (by simp)).two; obtain ⟨q1, q2⟩ := bcell hb1))
        refine bodyPost_ret (resS2 rfl _ _ ((hZ.below hb1 (by simp)).twoStore _ _) rfl rfl) rfl ⟨?_, ((below_next hb0 (by simp; omega) hb1).setCell (by simp) _).setCell (by simp) _⟩
        rw [HR.out.1, HR.out.2]; rfl
      · obtain ⟨m, rfl⟩ : ∃ m : Nat, d = ((m + 1 : Nat) : Int) := ⟨d.toNat - 1, by omega⟩
        have hm : m < 12 := by omega
        have H0 := Lib.hid (chkV_ok h0)
        have HR := Lib.hid (show cutAt a ((m + 1 : Nat) : Int) = (a (2 * m), a (2 * m + 1)) ∧ cutE a ((m + 1 : Nat) : Int) = 0 by simp [cutAt, cutE, h0]; omega)
        clear h0
        have k1 : ((m + 1 : Nat) : Int) - 1 = (m : Int) := by omega
        go_enter Tryz.func21, Tryz.ntmps21
        go_wp2_with (first
          | (refine ldV 2 rfl rfl hA rfl ?_)
          | (go_at_call 14; refine (check_any _ _).mono ?_; rw [H0.out]; rintro e w1 ⟨rfl, hb1⟩; obtain ⟨d0, d1⟩ := (hZ.below hb1 (by simp)).two; obtain ⟨f0, f1⟩ := (hA.below hb1 (by simp; omega)).spans m hm; obtain ⟨q1, q2⟩ := bcell hb1))
        refine bodyPost_ret (resS2 rfl _ _ ((hZ.below hb1 (by simp)).twoStore _ _) rfl rfl) rfl ⟨?_, ((below_next hb0 (by simp; omega) hb1).setCell (by simp) _).setCell (by simp) _⟩
        rw [HR.out.1, HR.out.2]; rfl

def degE (a : Nat → Int) : Int := chkV a
def degR (a : Nat → Int) (n : Int) : Int := if vok a then degTo a n 12 else 0
set_option maxRecDepth 100000 in
set_option maxHeartbeats 800000 in
theorem degree_any (a : Nat → Int) (n : Int) (w : World) : Calls Tryz.prog 22 #[.agg (va a), .int .i64 n] w fun e w' => e = .returned (.tuple #[.int .i64 (degR a n), .int .i64 (chkV a)]) ∧ Below w.heap.size w w' := by
  have hA := Blk.new w 26 (va a)
  cases h0 : vok a
  · have H0 := Lib.hid (chkV_no h0)
    have HR := Lib.hid (show degR a n = 0 by simp [degR, h0])
    clear h0
    rw [H0.out, HR.out]
    go_enter Tryz.func22, Tryz.ntmps22
    go_wp2_with (first
      | (refine ldV 2 rfl rfl hA rfl ?_)
      | (go_at_call 14; refine (check_any _ _).mono ?_; rw [H0.out]; rintro e w1 ⟨rfl, hb1⟩))
    go_ret2
    exact ⟨rfl, below_next (below_new _ _) (by simp) hb1⟩
  · have H0 := Lib.hid (chkV_ok h0)
    have HR := Lib.hid (show degR a n = degTo a n 12 by simp [degR, h0])
    clear h0
    rw [H0.out, HR.out]
    go_enter Tryz.func22, Tryz.ntmps22
    go_wp2_with (first
      | (refine ldV 2 rfl rfl hA rfl ?_)
      | (go_at_call 14; refine (check_any _ _).mono ?_; rw [H0.out]; rintro e w1 ⟨rfl, hb1⟩))
    have hb2 := below_next (below_new _ _) (by simp) hb1
    have hA1 := hA.below hb1 (by simp)
    clear hb1 hA
    go_loopw [7, 14] (fun t7 t14 wr => ∃ k : Nat, k ≤ 12 ∧ t14 = .int .i64 k ∧ t7 = .int .i64 (degTo a n k) ∧ Blk wr w.heap.size 26 (va a) ∧ Below w.heap.size w wr) (fun _ t14 _ => 12 - (intOf t14).toNat)
    case atStart => exact ⟨0, by omega, rfl, rfl, hA1, hb2⟩
    case round =>
      obtain ⟨k, hk, rfl, rfl, hA2, hb3⟩ := hrel
      have hlt3 := hA2.lt
      by_cases hlt : k < 12
      · obtain ⟨c0, c1⟩ := hA2.spans k hlt
        cases hh : hasAt a n k
        all_goals
          have HH := Lib.hid (show (decide (a (2 * k) ≤ n) && decide (n ≤ a (2 * k + 1))) = _ from hh)
          have HS := Lib.hid (show degTo a n (k + 1) = if hasAt a n k = true then (k : Int) + 1 else degTo a n k from rfl)
          rw [hh] at HS
          clear hh
          go_wp2_with (go_at_call 76; refine (has_any _ _ _ _).mono ?_; rw [HH.out]; rintro e w3 ⟨rfl, hb4⟩)
          go_roundw
          case rel => exact ⟨k + 1, by omega, by go_num, by rw [HS.out]; rfl, hA2.below hb4 hlt3, below_next hb3 (by omega) hb4⟩
          case measure => simp [intOf]; omega
      · obtain rfl : k = 12 := by omega
        go_wp2
        go_ret2
        exact ⟨rfl, hb3⟩
end Go.Proofs.YtbhiphjifdnhmaaGreatDoor

/- Holds. -/
namespace Go.Proofs.YtbhiphjifdnhmaaGreatDoor
open Go.RowKit
theorem chk2_ok {a b : Nat → Int} (h : (vok a && vok b) = true) : chk2 a b = 0 := by simp [chk2, h]
theorem chk2_no {a b : Nat → Int} (h : (vok a && vok b) = false) : chk2 a b = 1 := by simp [chk2, h]

set_option maxRecDepth 100000 in
set_option maxHeartbeats 800000 in
theorem holds_any (a b : Nat → Int) (w : World) : Calls Tryz.prog 24 #[.agg (va a), .agg (va b)] w fun e w' => e = .returned (.tuple #[.bool (holdsV a b), .int .i64 (chk2 a b)]) ∧ Below w.heap.size w w' := by
  have hA := (Blk.new w 26 (va a)).alloc (.cells (va b) 26)
  have hB : Blk ((w.alloc (.cells (va a) 26)).alloc (.cells (va b) 26)) (w.heap.size + 1) 26 (va b) := Blk.newAt (by simp)
  have hb0 : Below w.heap.size w ((w.alloc (.cells (va a) 26)).alloc (.cells (va b) 26)) := (below_new _ _).alloc (by simp) _
  cases h0 : (vok a && vok b)
  · have H0 := Lib.hid (chk2_no h0)
    have HR := Lib.hid (show holdsV a b = false by simp [holdsV, h0])
    clear h0
    rw [H0.out, HR.out]
    go_enter Tryz.func24, Tryz.ntmps24
    go_wp2_with (first
      | (refine ldV 2 rfl rfl hA rfl ?_)
      | (refine ldV 3 rfl rfl hB rfl ?_)
      | (go_at_call 72; refine (checkTwo_any _ _ _).mono ?_; rw [H0.out]; rintro e w1 ⟨rfl, hb1⟩))
    go_ret2
    exact ⟨rfl, below_next hb0 (by simp; omega) hb1⟩
  · have H0 := Lib.hid (chk2_ok h0)
    have HR := Lib.hid (show holdsV a b = holdsTo a b 12 by simp [holdsV, h0])
    clear h0
    rw [H0.out, HR.out]
    go_enter Tryz.func24, Tryz.ntmps24
    go_wp2_with (first
      | (refine ldV 2 rfl rfl hA rfl ?_)
      | (refine ldV 3 rfl rfl hB rfl ?_)
      | (go_at_call 72; refine (checkTwo_any _ _ _).mono ?_; rw [H0.out]; rintro e w1 ⟨rfl, hb1⟩))
    have hb2 := below_next hb0 (by simp; omega) hb1
    have hA1 := hA.below hb1 (by simp; omega)
    have hB1 := hB.below hb1 (by simp)
    clear hb1 hA hB hb0
    go_loopw [14] (fun t14 wr => ∃ k : Nat, k ≤ 12 ∧ t14 = .int .i64 k ∧ holdsTo a b k = true ∧ Blk wr w.heap.size 26 (va a) ∧ Blk wr (w.heap.size + 1) 26 (va b) ∧ Below w.heap.size w wr) (fun t14 _ => 12 - (intOf t14).toNat)
    case atStart => exact ⟨0, by omega, rfl, rfl, hA1, hB1, hb2⟩
    case round =>
      obtain ⟨k, hk, rfl, hh, hA2, hB2, hb3⟩ := hrel
      have hlt3 := hB2.lt
      have HT := Lib.hid hh
      clear hh hA1 hB1 hb2
      by_cases hlt : k < 12
      · obtain ⟨c0, c1⟩ := hA2.spans k hlt
        obtain ⟨d0, d1⟩ := hB2.spans k hlt
        cases hh : holdsAt a b k
        all_goals
          have HH := Lib.hid (show (decide (b (2 * k) ≤ a (2 * k)) && decide (a (2 * k + 1) ≤ b (2 * k + 1))) = _ from hh)
          have HS := Lib.hid (holdsTo_succ a b k)
          rw [hh, HT.out] at HS
          clear hh
          go_wp2_with fail
          go_region_held3 (fun w' => w'.cell? ⟨w.heap.size, k * 2, none⟩ = some (.int .i64 (a (2 * k))) ∧ w'.cell? ⟨w.heap.size, k * 2 + 1, none⟩ = some (.int .i64 (a (2 * k + 1))) ∧ w'.cell? ⟨w.heap.size + 1, k * 2, none⟩ = some (.int .i64 (b (2 * k))) ∧ w'.cell? ⟨w.heap.size + 1, k * 2 + 1, none⟩ = some (.int .i64 (b (2 * k + 1)))) (first | exact K3 | exact ⟨c0, c1, d0, d1⟩)
            ((go_at_call 64; refine (within_any _ _ _ _ _).mono ?_; rw [HH.out]; rintro e w3 ⟨rfl, hb4⟩; have K3 := And.intro (keepL hb4 c0) (And.intro (keepL hb4 c1) (And.intro (keepL hb4 d0) (keepL hb4 d1)))))
          have hb5 := below_next hb3.drew (by simp; omega) hb4
        · have HF := Lib.hid (show holdsTo a b 12 = false by
            cases hc : holdsTo a b 12
            · rfl
            · have := holdsTo_mono hc (show k + 1 ≤ 12 by omega)
              rw [HS.out] at this
              cases this)
          go_wp2
          go_ret2
          exact ⟨by rw [HF.out]; rfl, hb5⟩
        · go_wp2
          go_roundw
          case rel => exact ⟨k + 1, by omega, by go_num, by rw [HS.out]; rfl, Blk.below (w := wr.drew) hA2 hb4 (by show _ < wr.heap.size; omega), Blk.below (w := wr.drew) hB2 hb4 hlt3, hb5⟩
          case measure => simp [intOf]; omega
      · obtain rfl : k = 12 := by omega
        go_wp2
        go_ret2
        exact ⟨by rw [HT.out]; rfl, hb3⟩
end Go.Proofs.YtbhiphjifdnhmaaGreatDoor

