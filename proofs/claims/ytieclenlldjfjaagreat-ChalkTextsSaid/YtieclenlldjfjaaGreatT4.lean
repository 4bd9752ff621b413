import Derived.Test.YtieclenlldjfjaaGreatS5
import Derived.Test.YtieclenlldjfjaaGreatT12
set_option linter.unusedSimpArgs false
set_option linter.unusedVariables false
/- ChalkTexts, function 4. -/
namespace Go.Proofs.YtieclenlldjfjaaGreat
open Go.RowKit

theorem law4_long (l : List Int) (A : Option Addr) (cap : Nat) (s : ByteArray) (w : World) (h : ¬ (l.length ≤ 60 ∧ s.size ≤ 60)) :
    Calls Tryz.prog 4 #[.slice A l.length cap, .string s] w fun e w' => e = .returned (.bool true) ∧ Below w.heap.size w w' := by
  by_cases hl : l.length ≤ 60
  · have hs : ¬ s.size ≤ 60 := fun e => h ⟨hl, e⟩
    have q1 : decide ((60 : Int) < (l.length : Int)) = false := decide_eq_false (by omega)
    have q2 : decide (60 < l.length) = false := decide_eq_false (by omega)
    have q3 : decide ((60 : Int) < (s.size : Int)) = true := decide_eq_true (by omega)
    have q4 : decide (60 < s.size) = true := decide_eq_true (by omega)
    go_enter Tryz.func4, Tryz.ntmps4
    go_wp2_with (go_at_call 15; refine (head_any _).mono ?_; rintro e w1 ⟨rfl, hb1⟩)
    go_ret
    exact ⟨rfl, hb1⟩
  · have q1 : decide ((60 : Int) < (l.length : Int)) = true := decide_eq_true (by omega)
    have q2 : decide (60 < l.length) = true := decide_eq_true (by omega)
    go_enter Tryz.func4, Tryz.ntmps4
    go_wp2_with (go_at_call 15; refine (head_any _).mono ?_; rintro e w1 ⟨rfl, hb1⟩)
    go_ret
    exact ⟨rfl, hb1⟩

set_option maxRecDepth 100000 in
set_option maxHeartbeats 2000000 in
theorem law4_short (l : List Int) (A : Option Addr) (cap : Nat) (s : ByteArray) (w : World) (hl : l.length ≤ 60) (hs : s.size ≤ 60) (hr : Ints w w.heap.size A l) :
    Calls Tryz.prog 4 #[.slice A l.length cap, .string s] w fun e w' => e = .returned (.bool true) ∧ Below w.heap.size w w' := by
  have q1 : decide ((60 : Int) < (l.length : Int)) = false := decide_eq_false (by omega)
  have q2 : decide (60 < l.length) = false := decide_eq_false (by omega)
  have q3 : decide ((60 : Int) < (s.size : Int)) = false := decide_eq_false (by omega)
  have q4 : decide (60 < s.size) = false := decide_eq_false (by omega)
  have hll : l.length ≤ 1000000 := by omega
  have hs5 : s.size ≤ 100000 := by omega
  have H29 := Lib.hid fun (W : World) (h : Ints W W.heap.size A l) => text_any l A cap W hll h
  have H30 := Lib.hid fun (W : World) (h : Ints W W.heap.size A l) => refText_any l A cap W hll h
  have H31 := Lib.hid fun (W : World) => scan_any s hs5 W
  have H32 := Lib.hid fun (W : World) => refScan_any s hs5 W
  have hLl := scanL_len s
  generalize markErr l = E at H29 H30
  generalize textR l = T at H29 H30
  generalize scanE s = F at H31 H32
  generalize scanI s = I at H31 H32
  generalize scanL s = L at H31 H32 hLl
  have hLl2 : L.length ≤ 1000000 := by omega
  go_enter Tryz.func4, Tryz.ntmps4
  go_wp2_with (first
    | (go_at_call 15; refine (head_any _).mono ?_; rintro e w1 ⟨rfl, hb1⟩; have i1 := hr.behind hb1)
    | (go_at_call 29; refine (H29.out _ i1).mono ?_; rintro e w2 ⟨rfl, hb2⟩; have i2 := i1.behind hb2)
    | (go_at_call 30; refine (H30.out _ i2).mono ?_; rintro e w3 ⟨rfl, hb3⟩)
    | (go_at_call 31; refine (H31.out _).mono ?_; rintro e w4 ⟨D, dap, rfl, d1, d2, d3, hb4⟩)
    | (go_at_call 32; refine (H32.out _).mono ?_; rintro e w5 ⟨G, gap, rfl, g1, g2, g3, hb5⟩; have d5 := (d3.behind hb5).behind (below_new w5 (.cells #[.slice G L.length gap, .int .i64 F, .int .i64 I] 49)); have g5 := g3.behind (below_new w5 (.cells #[.slice G L.length gap, .int .i64 F, .int .i64 I] 49)); have k0 : Blk (w5.alloc (.cells #[.slice G L.length gap, .int .i64 F, .int .i64 I] 49)) w5.heap.size 49 #[.slice G L.length gap, .int .i64 F, .int .i64 I] := Blk.new _ _ _)
    | (go_at_call 23; refine (same_self _ _ _ _ _ _ hLl2 d5 g5).mono ?_; rintro e w6 ⟨rfl, hb6⟩; obtain ⟨c0, c1, c2⟩ : w6.cell? ⟨w5.heap.size, 0, none⟩ = some (.slice G L.length gap) ∧ w6.cell? ⟨w5.heap.size, 1, none⟩ = some (.int .i64 F) ∧ w6.cell? ⟨w5.heap.size, 2, none⟩ = some (.int .i64 I) := ⟨(k0.below hb6 (by simp)).cell 0, (k0.below hb6 (by simp)).cell 1, (k0.below hb6 (by simp)).cell 2⟩))
  go_ret
  have b2 := below_next hb1 hb1.size hb2
  have b3 := below_next b2 b2.size hb3
  have b4 := below_next b3 b3.size hb4
  have b5 := below_next b4 b4.size hb5
  have b6 := b5.alloc b5.size (.cells #[.slice G L.length gap, .int .i64 F, .int .i64 I] 49)
  exact ⟨rfl, below_next b6 b6.size hb6⟩

theorem law4_any (l : List Int) (A : Option Addr) (cap : Nat) (s : ByteArray) (w : World) (hr : Ints w w.heap.size A l) :
    Calls Tryz.prog 4 #[.slice A l.length cap, .string s] w fun e w' => e = .returned (.bool true) ∧ Below w.heap.size w w' := by
  by_cases h : l.length ≤ 60 ∧ s.size ≤ 60
  · exact law4_short l A cap s w h.1 h.2 hr
  · exact law4_long l A cap s w h
end Go.Proofs.YtieclenlldjfjaaGreat
