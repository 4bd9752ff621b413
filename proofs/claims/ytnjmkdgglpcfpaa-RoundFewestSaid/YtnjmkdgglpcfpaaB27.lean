import Derived.Test.YtnjmkdgglpcfpaaA26
namespace Go.Proofs.Ytnjmkdgglpcfpaa
open Go.RowKit

set_option maxRecDepth 100000 in
set_option maxHeartbeats 40000000 in
theorem refCheck_0 (C R B F : Int) (A : Option Addr) (cap : Nat) (cl : List Int) (w : World) (hr : Ints w w.heap.size A cl) (c0 : ¬ (3 ≤ C ∧ C ≤ 120)) :
    Calls Try.prog 27 #[.agg #[.int .i64 C, .int .i64 R, .int .i64 B, .int .i64 F, .slice A cl.length cap]] w fun e w' => e = .returned (.int .i64 1) ∧ Below w.heap.size w w' := by
  have hbk := Blk.new w 24 #[.int .i64 C, .int .i64 R, .int .i64 B, .int .i64 F, .slice A cl.length cap]
  obtain ⟨d0, d1, d2, d3, d4⟩ := hbk.five
  have hb0 := below_new w (.cells #[.int .i64 C, .int .i64 R, .int .i64 B, .int .i64 F, .slice A cl.length cap] 24)
  have hr1 := hr.behind hb0
  clear hbk hr
  have D0 : Hid (decide (3 ≤ C ∧ C ≤ 120) = false) := decide_eq_false c0
  go_enter Try.func27, Try.ntmps27
  go_wp2_with (first | (go_at_call 61; refine (in_any _ _ _ _).mono ?_; rw [D0.out]; rintro e w1 ⟨rfl, rfl⟩))
  go_ret
  exact ⟨rfl, hb0⟩

end Go.Proofs.Ytnjmkdgglpcfpaa

namespace Go.Proofs.Ytnjmkdgglpcfpaa
open Go.RowKit

set_option maxRecDepth 100000 in
set_option maxHeartbeats 40000000 in
theorem refCheck_1 (C R B F : Int) (A : Option Addr) (cap : Nat) (cl : List Int) (w : World) (hr : Ints w w.heap.size A cl) (c0 : 3 ≤ C ∧ C ≤ 120) (c1 : ¬ (1 ≤ R ∧ R ≤ 16)) :
    Calls Try.prog 27 #[.agg #[.int .i64 C, .int .i64 R, .int .i64 B, .int .i64 F, .slice A cl.length cap]] w fun e w' => e = .returned (.int .i64 1) ∧ Below w.heap.size w w' := by
  have hbk := Blk.new w 24 #[.int .i64 C, .int .i64 R, .int .i64 B, .int .i64 F, .slice A cl.length cap]
  obtain ⟨d0, d1, d2, d3, d4⟩ := hbk.five
  have hb0 := below_new w (.cells #[.int .i64 C, .int .i64 R, .int .i64 B, .int .i64 F, .slice A cl.length cap] 24)
  have hr1 := hr.behind hb0
  clear hbk hr
  have D0 : Hid (decide (3 ≤ C ∧ C ≤ 120) = true) := decide_eq_true c0
  obtain ⟨a0, a1⟩ := c0
  have D1 : Hid (decide (1 ≤ R ∧ R ≤ 16) = false) := decide_eq_false c1
  go_enter Try.func27, Try.ntmps27
  go_wp2_with (first | (go_at_call 61; refine (in_any _ _ _ _).mono ?_; (first | rw [D0.out] | rw [D1.out]); rintro e w1 ⟨rfl, rfl⟩))
  go_ret
  exact ⟨rfl, hb0⟩

end Go.Proofs.Ytnjmkdgglpcfpaa

namespace Go.Proofs.Ytnjmkdgglpcfpaa
open Go.RowKit

set_option maxRecDepth 100000 in
set_option maxHeartbeats 40000000 in
theorem refCheck_2 (C R B F : Int) (A : Option Addr) (cap : Nat) (cl : List Int) (w : World) (hr : Ints w w.heap.size A cl) (c0 : 3 ≤ C ∧ C ≤ 120) (c1 : 1 ≤ R ∧ R ≤ 16) (c2 : B < 0) :
    Calls Try.prog 27 #[.agg #[.int .i64 C, .int .i64 R, .int .i64 B, .int .i64 F, .slice A cl.length cap]] w fun e w' => e = .returned (.int .i64 1) ∧ Below w.heap.size w w' := by
  have hbk := Blk.new w 24 #[.int .i64 C, .int .i64 R, .int .i64 B, .int .i64 F, .slice A cl.length cap]
  obtain ⟨d0, d1, d2, d3, d4⟩ := hbk.five
  have hb0 := below_new w (.cells #[.int .i64 C, .int .i64 R, .int .i64 B, .int .i64 F, .slice A cl.length cap] 24)
  have hr1 := hr.behind hb0
  clear hbk hr
  have D0 : Hid (decide (3 ≤ C ∧ C ≤ 120) = true) := decide_eq_true c0
  obtain ⟨a0, a1⟩ := c0
  have D1 : Hid (decide (1 ≤ R ∧ R ≤ 16) = true) := decide_eq_true c1
  obtain ⟨a2, a3⟩ := c1
  have e3 : decide (B < 0) = true := decide_eq_true c2
  go_enter Try.func27, Try.ntmps27
  go_wp2_with (first | (go_at_call 61; refine (in_any _ _ _ _).mono ?_; (first | rw [D0.out] | rw [D1.out]); rintro e w1 ⟨rfl, rfl⟩))
  go_ret
  exact ⟨rfl, hb0⟩

end Go.Proofs.Ytnjmkdgglpcfpaa

namespace Go.Proofs.Ytnjmkdgglpcfpaa
open Go.RowKit

set_option maxRecDepth 100000 in
set_option maxHeartbeats 40000000 in
theorem refCheck_3 (C R B F : Int) (A : Option Addr) (cap : Nat) (cl : List Int) (w : World) (hr : Ints w w.heap.size A cl) (c0 : 3 ≤ C ∧ C ≤ 120) (c1 : 1 ≤ R ∧ R ≤ 16) (c2 : ¬ B < 0) (c3 : F < 0) :
    Calls Try.prog 27 #[.agg #[.int .i64 C, .int .i64 R, .int .i64 B, .int .i64 F, .slice A cl.length cap]] w fun e w' => e = .returned (.int .i64 1) ∧ Below w.heap.size w w' := by
  have hbk := Blk.new w 24 #[.int .i64 C, .int .i64 R, .int .i64 B, .int .i64 F, .slice A cl.length cap]
  obtain ⟨d0, d1, d2, d3, d4⟩ := hbk.five
  have hb0 := below_new w (.cells #[.int .i64 C, .int .i64 R, .int .i64 B, .int .i64 F, .slice A cl.length cap] 24)
  have hr1 := hr.behind hb0
  clear hbk hr
  have D0 : Hid (decide (3 ≤ C ∧ C ≤ 120) = true) := decide_eq_true c0
  obtain ⟨a0, a1⟩ := c0
  have D1 : Hid (decide (1 ≤ R ∧ R ≤ 16) = true) := decide_eq_true c1
  obtain ⟨a2, a3⟩ := c1
  have b2 : decide (B < 0) = false := decide_eq_false c2
  have e3 : decide (F < 0) = true := decide_eq_true c3
  go_enter Try.func27, Try.ntmps27
  go_wp2_with (first | (go_at_call 61; refine (in_any _ _ _ _).mono ?_; (first | rw [D0.out] | rw [D1.out]); rintro e w1 ⟨rfl, rfl⟩))
  go_ret
  exact ⟨rfl, hb0⟩

end Go.Proofs.Ytnjmkdgglpcfpaa

namespace Go.Proofs.Ytnjmkdgglpcfpaa
open Go.RowKit

set_option maxRecDepth 100000 in
set_option maxHeartbeats 40000000 in
theorem refCheck_4 (C R B F : Int) (A : Option Addr) (cap : Nat) (cl : List Int) (w : World) (hr : Ints w w.heap.size A cl) (c0 : 3 ≤ C ∧ C ≤ 120) (c1 : 1 ≤ R ∧ R ≤ 16) (c2 : ¬ B < 0) (c3 : ¬ F < 0) (c4 : C ≤ B) :
    Calls Try.prog 27 #[.agg #[.int .i64 C, .int .i64 R, .int .i64 B, .int .i64 F, .slice A cl.length cap]] w fun e w' => e = .returned (.int .i64 1) ∧ Below w.heap.size w w' := by
  have hbk := Blk.new w 24 #[.int .i64 C, .int .i64 R, .int .i64 B, .int .i64 F, .slice A cl.length cap]
  obtain ⟨d0, d1, d2, d3, d4⟩ := hbk.five
  have hb0 := below_new w (.cells #[.int .i64 C, .int .i64 R, .int .i64 B, .int .i64 F, .slice A cl.length cap] 24)
  have hr1 := hr.behind hb0
  clear hbk hr
  have D0 : Hid (decide (3 ≤ C ∧ C ≤ 120) = true) := decide_eq_true c0
  obtain ⟨a0, a1⟩ := c0
  have D1 : Hid (decide (1 ≤ R ∧ R ≤ 16) = true) := decide_eq_true c1
  obtain ⟨a2, a3⟩ := c1
  have b2 : decide (B < 0) = false := decide_eq_false c2
  have b3 : decide (F < 0) = false := decide_eq_false c3
  have e3 : decide (C ≤ B) = true := decide_eq_true c4
  go_enter Try.func27, Try.ntmps27
  go_wp2_with (first | (go_at_call 61; refine (in_any _ _ _ _).mono ?_; (first | rw [D0.out] | rw [D1.out]); rintro e w1 ⟨rfl, rfl⟩))
  go_ret
  exact ⟨rfl, hb0⟩

end Go.Proofs.Ytnjmkdgglpcfpaa

namespace Go.Proofs.Ytnjmkdgglpcfpaa
open Go.RowKit

set_option maxRecDepth 100000 in
set_option maxHeartbeats 40000000 in
theorem refCheck_5 (C R B F : Int) (A : Option Addr) (cap : Nat) (cl : List Int) (w : World) (hr : Ints w w.heap.size A cl) (c0 : 3 ≤ C ∧ C ≤ 120) (c1 : 1 ≤ R ∧ R ≤ 16) (c2 : ¬ B < 0) (c3 : ¬ F < 0) (c4 : ¬ C ≤ B) (c5 : C - B ≤ F) :
    Calls Try.prog 27 #[.agg #[.int .i64 C, .int .i64 R, .int .i64 B, .int .i64 F, .slice A cl.length cap]] w fun e w' => e = .returned (.int .i64 1) ∧ Below w.heap.size w w' := by
  have hbk := Blk.new w 24 #[.int .i64 C, .int .i64 R, .int .i64 B, .int .i64 F, .slice A cl.length cap]
  obtain ⟨d0, d1, d2, d3, d4⟩ := hbk.five
  have hb0 := below_new w (.cells #[.int .i64 C, .int .i64 R, .int .i64 B, .int .i64 F, .slice A cl.length cap] 24)
  have hr1 := hr.behind hb0
  clear hbk hr
  have D0 : Hid (decide (3 ≤ C ∧ C ≤ 120) = true) := decide_eq_true c0
  obtain ⟨a0, a1⟩ := c0
  have D1 : Hid (decide (1 ≤ R ∧ R ≤ 16) = true) := decide_eq_true c1
  obtain ⟨a2, a3⟩ := c1
  have b2 : decide (B < 0) = false := decide_eq_false c2
  have b3 : decide (F < 0) = false := decide_eq_false c3
  have b4 : decide (C ≤ B) = false := decide_eq_false c4
  have e3 : decide (C - B ≤ F) = true := decide_eq_true c5
  go_enter Try.func27, Try.ntmps27
  go_wp2_with (first | (go_at_call 61; refine (in_any _ _ _ _).mono ?_; (first | rw [D0.out] | rw [D1.out]); rintro e w1 ⟨rfl, rfl⟩))
  go_ret
  exact ⟨rfl, hb0⟩

end Go.Proofs.Ytnjmkdgglpcfpaa

namespace Go.Proofs.Ytnjmkdgglpcfpaa
open Go.RowKit

set_option maxRecDepth 100000 in
set_option maxHeartbeats 40000000 in
theorem refCheck_6 (C R B F : Int) (A : Option Addr) (cap : Nat) (cl : List Int) (w : World) (hr : Ints w w.heap.size A cl) (c0 : 3 ≤ C ∧ C ≤ 120) (c1 : 1 ≤ R ∧ R ≤ 16) (c2 : ¬ B < 0) (c3 : ¬ F < 0) (c4 : ¬ C ≤ B) (c5 : ¬ C - B ≤ F) (c6 : 120 < cl.length) :
    Calls Try.prog 27 #[.agg #[.int .i64 C, .int .i64 R, .int .i64 B, .int .i64 F, .slice A cl.length cap]] w fun e w' => e = .returned (.int .i64 2) ∧ Below w.heap.size w w' := by
  have hbk := Blk.new w 24 #[.int .i64 C, .int .i64 R, .int .i64 B, .int .i64 F, .slice A cl.length cap]
  obtain ⟨d0, d1, d2, d3, d4⟩ := hbk.five
  have hb0 := below_new w (.cells #[.int .i64 C, .int .i64 R, .int .i64 B, .int .i64 F, .slice A cl.length cap] 24)
  have hr1 := hr.behind hb0
  clear hbk hr
  have D0 : Hid (decide (3 ≤ C ∧ C ≤ 120) = true) := decide_eq_true c0
  obtain ⟨a0, a1⟩ := c0
  have D1 : Hid (decide (1 ≤ R ∧ R ≤ 16) = true) := decide_eq_true c1
  obtain ⟨a2, a3⟩ := c1
  have b2 : decide (B < 0) = false := decide_eq_false c2
  have b3 : decide (F < 0) = false := decide_eq_false c3
  have b4 : decide (C ≤ B) = false := decide_eq_false c4
  have b5 : decide (C - B ≤ F) = false := decide_eq_false c5
  have e2 : (120 : Int) < ((cl.length : Nat) : Int) := by omega
  have e3 : decide ((120 : Int) < ((cl.length : Nat) : Int)) = true := decide_eq_true e2
  go_enter Try.func27, Try.ntmps27
  go_wp2_with (first | (go_at_call 61; refine (in_any _ _ _ _).mono ?_; (first | rw [D0.out] | rw [D1.out]); rintro e w1 ⟨rfl, rfl⟩))
  go_ret
  exact ⟨rfl, hb0⟩

end Go.Proofs.Ytnjmkdgglpcfpaa

namespace Go.Proofs.Ytnjmkdgglpcfpaa
open Go.RowKit

set_option maxRecDepth 100000 in
set_option maxHeartbeats 40000000 in
theorem refCheck_7 (C R B F : Int) (A : Option Addr) (cap : Nat) (cl : List Int) (w : World) (hr : Ints w w.heap.size A cl) (c0 : 3 ≤ C ∧ C ≤ 120) (c1 : 1 ≤ R ∧ R ≤ 16) (c2 : ¬ B < 0) (c3 : ¬ F < 0) (c4 : ¬ C ≤ B) (c5 : ¬ C - B ≤ F) (c6 : ¬ 120 < cl.length) (c7 : Rise C cl) :
    Calls Try.prog 27 #[.agg #[.int .i64 C, .int .i64 R, .int .i64 B, .int .i64 F, .slice A cl.length cap]] w fun e w' => e = .returned (.int .i64 0) ∧ Below w.heap.size w w' := by
  have hbk := Blk.new w 24 #[.int .i64 C, .int .i64 R, .int .i64 B, .int .i64 F, .slice A cl.length cap]
  obtain ⟨d0, d1, d2, d3, d4⟩ := hbk.five
  have hb0 := below_new w (.cells #[.int .i64 C, .int .i64 R, .int .i64 B, .int .i64 F, .slice A cl.length cap] 24)
  have hr1 := hr.behind hb0
  clear hbk hr
  have D0 : Hid (decide (3 ≤ C ∧ C ≤ 120) = true) := decide_eq_true c0
  obtain ⟨a0, a1⟩ := c0
  have D1 : Hid (decide (1 ≤ R ∧ R ≤ 16) = true) := decide_eq_true c1
  obtain ⟨a2, a3⟩ := c1
  have b2 : decide (B < 0) = false := decide_eq_false c2
  have b3 : decide (F < 0) = false := decide_eq_false c3
  have b4 : decide (C ≤ B) = false := decide_eq_false c4
  have b5 : decide (C - B ≤ F) = false := decide_eq_false c5
  have e2 : ¬ (120 : Int) < ((cl.length : Nat) : Int) := by omega
  have e3 : decide ((120 : Int) < ((cl.length : Nat) : Int)) = false := decide_eq_false e2
  have hri := rising_any cl A cap (C - 1) _ (by omega) hr1
  rw [show C - 1 + 1 = C by omega] at hri
  have HRI := Lib.hid hri
  clear hri
  have D2 : Hid (decide (Rise C cl) = true) := decide_eq_true c7
  clear c7
  go_enter Try.func27, Try.ntmps27
  go_wp2_with (first | (go_at_call 61; refine (in_any _ _ _ _).mono ?_; (first | rw [D0.out] | rw [D1.out]); rintro e w1 ⟨rfl, rfl⟩) | (go_at_call 75; refine HRI.out.mono ?_; rw [D2.out]; rintro e w1 ⟨rfl, hb1⟩))
  go_ret
  exact ⟨rfl, below_next hb0 (by simp) hb1⟩

end Go.Proofs.Ytnjmkdgglpcfpaa

namespace Go.Proofs.Ytnjmkdgglpcfpaa
open Go.RowKit

set_option maxRecDepth 100000 in
set_option maxHeartbeats 40000000 in
theorem refCheck_8 (C R B F : Int) (A : Option Addr) (cap : Nat) (cl : List Int) (w : World) (hr : Ints w w.heap.size A cl) (c0 : 3 ≤ C ∧ C ≤ 120) (c1 : 1 ≤ R ∧ R ≤ 16) (c2 : ¬ B < 0) (c3 : ¬ F < 0) (c4 : ¬ C ≤ B) (c5 : ¬ C - B ≤ F) (c6 : ¬ 120 < cl.length) (c7 : ¬ Rise C cl) :
    Calls Try.prog 27 #[.agg #[.int .i64 C, .int .i64 R, .int .i64 B, .int .i64 F, .slice A cl.length cap]] w fun e w' => e = .returned (.int .i64 1) ∧ Below w.heap.size w w' := by
  have hbk := Blk.new w 24 #[.int .i64 C, .int .i64 R, .int .i64 B, .int .i64 F, .slice A cl.length cap]
  obtain ⟨d0, d1, d2, d3, d4⟩ := hbk.five
  have hb0 := below_new w (.cells #[.int .i64 C, .int .i64 R, .int .i64 B, .int .i64 F, .slice A cl.length cap] 24)
  have hr1 := hr.behind hb0
  clear hbk hr
  have D0 : Hid (decide (3 ≤ C ∧ C ≤ 120) = true) := decide_eq_true c0
  obtain ⟨a0, a1⟩ := c0
  have D1 : Hid (decide (1 ≤ R ∧ R ≤ 16) = true) := decide_eq_true c1
  obtain ⟨a2, a3⟩ := c1
  have b2 : decide (B < 0) = false := decide_eq_false c2
  have b3 : decide (F < 0) = false := decide_eq_false c3
  have b4 : decide (C ≤ B) = false := decide_eq_false c4
  have b5 : decide (C - B ≤ F) = false := decide_eq_false c5
  have e2 : ¬ (120 : Int) < ((cl.length : Nat) : Int) := by omega
  have e3 : decide ((120 : Int) < ((cl.length : Nat) : Int)) = false := decide_eq_false e2
  have hri := rising_any cl A cap (C - 1) _ (by omega) hr1
  rw [show C - 1 + 1 = C by omega] at hri
  have HRI := Lib.hid hri
  clear hri
  have D2 : Hid (decide (Rise C cl) = false) := decide_eq_false c7
  clear c7
  go_enter Try.func27, Try.ntmps27
  go_wp2_with (first | (go_at_call 61; refine (in_any _ _ _ _).mono ?_; (first | rw [D0.out] | rw [D1.out]); rintro e w1 ⟨rfl, rfl⟩) | (go_at_call 75; refine HRI.out.mono ?_; rw [D2.out]; rintro e w1 ⟨rfl, hb1⟩))
  go_ret
  exact ⟨rfl, below_next hb0 (by simp) hb1⟩

end Go.Proofs.Ytnjmkdgglpcfpaa

