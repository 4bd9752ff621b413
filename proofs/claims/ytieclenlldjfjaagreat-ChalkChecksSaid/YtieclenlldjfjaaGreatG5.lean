import Derived.Test.YtieclenlldjfjaaGreatG4
set_option linter.unusedSimpArgs false
set_option linter.unusedVariables false
/- The reference's: Check 26. -/
namespace Go.Proofs.YtieclenlldjfjaaGreat
open Go.RowKit

set_option maxRecDepth 100000 in
set_option maxHeartbeats 1000000 in
theorem refCheck_00 (Sy St Ot Mi Ad Sm : Int) (A : Option Addr) (gcap : Nat) (ms : List Mkg) (w : World)  (c0 : ¬ (1 ≤ Ot ∧ Ot ≤ 1000)) (h1 : ¬ (1 ≤ Sy ∧ Sy ≤ 12)) : Calls Tryz.prog 26 #[gv Sy St (.slice A ms.length gcap) Ot Mi Ad Sm] w fun e w' => e = .returned (.int .i64 (chkG Sy St Ot Mi Ad Sm ms)) ∧ Below w.heap.size w w' := by
  have hR : Hid (chkG Sy St Ot Mi Ad Sm ms = 1) := by show _ = _; unfold chkG; rw [if_pos (fun hh => h1 ⟨hh.1, hh.2.1⟩)]
  have hb0 : Below w.heap.size w (w.alloc (.cells #[.int .i64 Sy, .int .i64 St, .slice A ms.length gcap, .int .i64 Ot, .int .i64 Mi, .int .i64 Ad, .int .i64 Sm] 24)) := below_new _ _
  have kG0 : Blk (w.alloc (.cells #[.int .i64 Sy, .int .i64 St, .slice A ms.length gcap, .int .i64 Ot, .int .i64 Mi, .int .i64 Ad, .int .i64 Sm] 24)) w.heap.size 24 #[.int .i64 Sy, .int .i64 St, .slice A ms.length gcap, .int .i64 Ot, .int .i64 Mi, .int .i64 Ad, .int .i64 Sm] := Blk.new _ _ _
  have g0 : Hid (decide (1 ≤ Ot ∧ Ot ≤ 1000) = false) := decide_eq_false c0
  have e1 : Hid (decide (1 ≤ Sy ∧ Sy ≤ 12) = false) := decide_eq_false h1
  clear h1 c0
  go_enter Tryz.func26, Tryz.ntmps26
  go_wp2_with (go_at_call 71; refine (in_any _ _ _ _).mono ?_; (first | rw [g0.out] | rw [e1.out]); rintro e w1 ⟨rfl, rfl⟩)
  go_ret
  exact ⟨ret_int hR.out.symm, hb0⟩
set_option maxRecDepth 100000 in
set_option maxHeartbeats 1000000 in
theorem refCheck_01 (Sy St Ot Mi Ad Sm : Int) (A : Option Addr) (gcap : Nat) (ms : List Mkg) (w : World)  (c0 : ¬ (1 ≤ Ot ∧ Ot ≤ 1000)) (h1 : 1 ≤ Sy ∧ Sy ≤ 12) (h2 : ¬ (1 ≤ St ∧ St ≤ Sy)) : Calls Tryz.prog 26 #[gv Sy St (.slice A ms.length gcap) Ot Mi Ad Sm] w fun e w' => e = .returned (.int .i64 (chkG Sy St Ot Mi Ad Sm ms)) ∧ Below w.heap.size w w' := by
  have hR : Hid (chkG Sy St Ot Mi Ad Sm ms = 1) := by show _ = _; unfold chkG; rw [if_pos (fun hh => h2 ⟨hh.2.2.1, hh.2.2.2⟩)]
  have hb0 : Below w.heap.size w (w.alloc (.cells #[.int .i64 Sy, .int .i64 St, .slice A ms.length gcap, .int .i64 Ot, .int .i64 Mi, .int .i64 Ad, .int .i64 Sm] 24)) := below_new _ _
  have kG0 : Blk (w.alloc (.cells #[.int .i64 Sy, .int .i64 St, .slice A ms.length gcap, .int .i64 Ot, .int .i64 Mi, .int .i64 Ad, .int .i64 Sm] 24)) w.heap.size 24 #[.int .i64 Sy, .int .i64 St, .slice A ms.length gcap, .int .i64 Ot, .int .i64 Mi, .int .i64 Ad, .int .i64 Sm] := Blk.new _ _ _
  have g0 : Hid (decide (1 ≤ Ot ∧ Ot ≤ 1000) = false) := decide_eq_false c0
  have e1 : Hid (decide (1 ≤ Sy ∧ Sy ≤ 12) = true) := decide_eq_true h1
  have e2 : Hid (decide (1 ≤ St ∧ St ≤ Sy) = false) := decide_eq_false h2
  clear h1 h2 c0
  go_enter Tryz.func26, Tryz.ntmps26
  go_wp2_with (go_at_call 71; refine (in_any _ _ _ _).mono ?_; (first | rw [g0.out] | rw [e1.out] | rw [e2.out]); rintro e w1 ⟨rfl, rfl⟩)
  go_ret
  exact ⟨ret_int hR.out.symm, hb0⟩
set_option maxRecDepth 100000 in
set_option maxHeartbeats 1000000 in
theorem refCheck_02 (Sy St Ot Mi Ad Sm : Int) (A : Option Addr) (gcap : Nat) (ms : List Mkg) (w : World)  (c0 : ¬ (1 ≤ Ot ∧ Ot ≤ 1000)) (h1 : 1 ≤ Sy ∧ Sy ≤ 12) (h2 : 1 ≤ St ∧ St ≤ Sy) : Calls Tryz.prog 26 #[gv Sy St (.slice A ms.length gcap) Ot Mi Ad Sm] w fun e w' => e = .returned (.int .i64 (chkG Sy St Ot Mi Ad Sm ms)) ∧ Below w.heap.size w w' := by
  have hR : Hid (chkG Sy St Ot Mi Ad Sm ms = 1) := by show _ = _; unfold chkG; rw [if_neg (fun hh => hh ⟨h1.1, h1.2, h2.1, h2.2⟩), if_pos (fun hh => c0 (of_decide_eq_true hh.1))]
  have hb0 : Below w.heap.size w (w.alloc (.cells #[.int .i64 Sy, .int .i64 St, .slice A ms.length gcap, .int .i64 Ot, .int .i64 Mi, .int .i64 Ad, .int .i64 Sm] 24)) := below_new _ _
  have kG0 : Blk (w.alloc (.cells #[.int .i64 Sy, .int .i64 St, .slice A ms.length gcap, .int .i64 Ot, .int .i64 Mi, .int .i64 Ad, .int .i64 Sm] 24)) w.heap.size 24 #[.int .i64 Sy, .int .i64 St, .slice A ms.length gcap, .int .i64 Ot, .int .i64 Mi, .int .i64 Ad, .int .i64 Sm] := Blk.new _ _ _
  have g0 : Hid (decide (1 ≤ Ot ∧ Ot ≤ 1000) = false) := decide_eq_false c0
  have e1 : Hid (decide (1 ≤ Sy ∧ Sy ≤ 12) = true) := decide_eq_true h1
  have e2 : Hid (decide (1 ≤ St ∧ St ≤ Sy) = true) := decide_eq_true h2
  clear h1 h2 c0
  go_enter Tryz.func26, Tryz.ntmps26
  go_wp2_with (go_at_call 71; refine (in_any _ _ _ _).mono ?_; (first | rw [g0.out] | rw [e1.out] | rw [e2.out]); rintro e w1 ⟨rfl, rfl⟩)
  go_ret
  exact ⟨ret_int hR.out.symm, hb0⟩
set_option maxRecDepth 100000 in
set_option maxHeartbeats 1000000 in
theorem refCheck_10 (Sy St Ot Mi Ad Sm : Int) (A : Option Addr) (gcap : Nat) (ms : List Mkg) (w : World) (c0 : 1 ≤ Ot ∧ Ot ≤ 1000) (c1 : ¬ (1 ≤ Mi ∧ Mi ≤ 1000)) (h1 : ¬ (1 ≤ Sy ∧ Sy ≤ 12)) : Calls Tryz.prog 26 #[gv Sy St (.slice A ms.length gcap) Ot Mi Ad Sm] w fun e w' => e = .returned (.int .i64 (chkG Sy St Ot Mi Ad Sm ms)) ∧ Below w.heap.size w w' := by
  have hR : Hid (chkG Sy St Ot Mi Ad Sm ms = 1) := by show _ = _; unfold chkG; rw [if_pos (fun hh => h1 ⟨hh.1, hh.2.1⟩)]
  have hb0 : Below w.heap.size w (w.alloc (.cells #[.int .i64 Sy, .int .i64 St, .slice A ms.length gcap, .int .i64 Ot, .int .i64 Mi, .int .i64 Ad, .int .i64 Sm] 24)) := below_new _ _
  have kG0 : Blk (w.alloc (.cells #[.int .i64 Sy, .int .i64 St, .slice A ms.length gcap, .int .i64 Ot, .int .i64 Mi, .int .i64 Ad, .int .i64 Sm] 24)) w.heap.size 24 #[.int .i64 Sy, .int .i64 St, .slice A ms.length gcap, .int .i64 Ot, .int .i64 Mi, .int .i64 Ad, .int .i64 Sm] := Blk.new _ _ _
  have g0 : Hid (decide (1 ≤ Ot ∧ Ot ≤ 1000) = true) := decide_eq_true c0
  have g1 : Hid (decide (1 ≤ Mi ∧ Mi ≤ 1000) = false) := decide_eq_false c1
  have e1 : Hid (decide (1 ≤ Sy ∧ Sy ≤ 12) = false) := decide_eq_false h1
  clear h1 c0 c1
  go_enter Tryz.func26, Tryz.ntmps26
  go_wp2_with (go_at_call 71; refine (in_any _ _ _ _).mono ?_; (first | rw [g0.out] | rw [g1.out] | rw [e1.out]); rintro e w1 ⟨rfl, rfl⟩)
  go_ret
  exact ⟨ret_int hR.out.symm, hb0⟩
set_option maxRecDepth 100000 in
set_option maxHeartbeats 1000000 in
theorem refCheck_11 (Sy St Ot Mi Ad Sm : Int) (A : Option Addr) (gcap : Nat) (ms : List Mkg) (w : World) (c0 : 1 ≤ Ot ∧ Ot ≤ 1000) (c1 : ¬ (1 ≤ Mi ∧ Mi ≤ 1000)) (h1 : 1 ≤ Sy ∧ Sy ≤ 12) (h2 : ¬ (1 ≤ St ∧ St ≤ Sy)) : Calls Tryz.prog 26 #[gv Sy St (.slice A ms.length gcap) Ot Mi Ad Sm] w fun e w' => e = .returned (.int .i64 (chkG Sy St Ot Mi Ad Sm ms)) ∧ Below w.heap.size w w' := by
  have hR : Hid (chkG Sy St Ot Mi Ad Sm ms = 1) := by show _ = _; unfold chkG; rw [if_pos (fun hh => h2 ⟨hh.2.2.1, hh.2.2.2⟩)]
  have hb0 : Below w.heap.size w (w.alloc (.cells #[.int .i64 Sy, .int .i64 St, .slice A ms.length gcap, .int .i64 Ot, .int .i64 Mi, .int .i64 Ad, .int .i64 Sm] 24)) := below_new _ _
  have kG0 : Blk (w.alloc (.cells #[.int .i64 Sy, .int .i64 St, .slice A ms.length gcap, .int .i64 Ot, .int .i64 Mi, .int .i64 Ad, .int .i64 Sm] 24)) w.heap.size 24 #[.int .i64 Sy, .int .i64 St, .slice A ms.length gcap, .int .i64 Ot, .int .i64 Mi, .int .i64 Ad, .int .i64 Sm] := Blk.new _ _ _
  have g0 : Hid (decide (1 ≤ Ot ∧ Ot ≤ 1000) = true) := decide_eq_true c0
  have g1 : Hid (decide (1 ≤ Mi ∧ Mi ≤ 1000) = false) := decide_eq_false c1
  have e1 : Hid (decide (1 ≤ Sy ∧ Sy ≤ 12) = true) := decide_eq_true h1
  have e2 : Hid (decide (1 ≤ St ∧ St ≤ Sy) = false) := decide_eq_false h2
  clear h1 h2 c0 c1
  go_enter Tryz.func26, Tryz.ntmps26
  go_wp2_with (go_at_call 71; refine (in_any _ _ _ _).mono ?_; (first | rw [g0.out] | rw [g1.out] | rw [e1.out] | rw [e2.out]); rintro e w1 ⟨rfl, rfl⟩)
  go_ret
  exact ⟨ret_int hR.out.symm, hb0⟩
set_option maxRecDepth 100000 in
set_option maxHeartbeats 1000000 in
theorem refCheck_12 (Sy St Ot Mi Ad Sm : Int) (A : Option Addr) (gcap : Nat) (ms : List Mkg) (w : World) (c0 : 1 ≤ Ot ∧ Ot ≤ 1000) (c1 : ¬ (1 ≤ Mi ∧ Mi ≤ 1000)) (h1 : 1 ≤ Sy ∧ Sy ≤ 12) (h2 : 1 ≤ St ∧ St ≤ Sy) : Calls Tryz.prog 26 #[gv Sy St (.slice A ms.length gcap) Ot Mi Ad Sm] w fun e w' => e = .returned (.int .i64 (chkG Sy St Ot Mi Ad Sm ms)) ∧ Below w.heap.size w w' := by
  have hR : Hid (chkG Sy St Ot Mi Ad Sm ms = 1) := by show _ = _; unfold chkG; rw [if_neg (fun hh => hh ⟨h1.1, h1.2, h2.1, h2.2⟩), if_pos (fun hh => c1 (of_decide_eq_true hh.2.1))]
  have hb0 : Below w.heap.size w (w.alloc (.cells #[.int .i64 Sy, .int .i64 St, .slice A ms.length gcap, .int .i64 Ot, .int .i64 Mi, .int .i64 Ad, .int .i64 Sm] 24)) := below_new _ _
  have kG0 : Blk (w.alloc (.cells #[.int .i64 Sy, .int .i64 St, .slice A ms.length gcap, .int .i64 Ot, .int .i64 Mi, .int .i64 Ad, .int .i64 Sm] 24)) w.heap.size 24 #[.int .i64 Sy, .int .i64 St, .slice A ms.length gcap, .int .i64 Ot, .int .i64 Mi, .int .i64 Ad, .int .i64 Sm] := Blk.new _ _ _
  have g0 : Hid (decide (1 ≤ Ot ∧ Ot ≤ 1000) = true) := decide_eq_true c0
  have g1 : Hid (decide (1 ≤ Mi ∧ Mi ≤ 1000) = false) := decide_eq_false c1
  have e1 : Hid (decide (1 ≤ Sy ∧ Sy ≤ 12) = true) := decide_eq_true h1
  have e2 : Hid (decide (1 ≤ St ∧ St ≤ Sy) = true) := decide_eq_true h2
  clear h1 h2 c0 c1
  go_enter Tryz.func26, Tryz.ntmps26
  go_wp2_with (go_at_call 71; refine (in_any _ _ _ _).mono ?_; (first | rw [g0.out] | rw [g1.out] | rw [e1.out] | rw [e2.out]); rintro e w1 ⟨rfl, rfl⟩)
  go_ret
  exact ⟨ret_int hR.out.symm, hb0⟩
set_option maxRecDepth 100000 in
set_option maxHeartbeats 1000000 in
theorem refCheck_20 (Sy St Ot Mi Ad Sm : Int) (A : Option Addr) (gcap : Nat) (ms : List Mkg) (w : World) (c0 : 1 ≤ Ot ∧ Ot ≤ 1000) (c1 : 1 ≤ Mi ∧ Mi ≤ 1000) (c2 : ¬ (1 ≤ Ad ∧ Ad ≤ 1000)) (h1 : ¬ (1 ≤ Sy ∧ Sy ≤ 12)) : Calls Tryz.prog 26 #[gv Sy St (.slice A ms.length gcap) Ot Mi Ad Sm] w fun e w' => e = .returned (.int .i64 (chkG Sy St Ot Mi Ad Sm ms)) ∧ Below w.heap.size w w' := by
  have hR : Hid (chkG Sy St Ot Mi Ad Sm ms = 1) := by show _ = _; unfold chkG; rw [if_pos (fun hh => h1 ⟨hh.1, hh.2.1⟩)]
  have hb0 : Below w.heap.size w (w.alloc (.cells #[.int .i64 Sy, .int .i64 St, .slice A ms.length gcap, .int .i64 Ot, .int .i64 Mi, .int .i64 Ad, .int .i64 Sm] 24)) := below_new _ _
  have kG0 : Blk (w.alloc (.cells #[.int .i64 Sy, .int .i64 St, .slice A ms.length gcap, .int .i64 Ot, .int .i64 Mi, .int .i64 Ad, .int .i64 Sm] 24)) w.heap.size 24 #[.int .i64 Sy, .int .i64 St, .slice A ms.length gcap, .int .i64 Ot, .int .i64 Mi, .int .i64 Ad, .int .i64 Sm] := Blk.new _ _ _
  have g0 : Hid (decide (1 ≤ Ot ∧ Ot ≤ 1000) = true) := decide_eq_true c0
  have g1 : Hid (decide (1 ≤ Mi ∧ Mi ≤ 1000) = true) := decide_eq_true c1
  have g2 : Hid (decide (1 ≤ Ad ∧ Ad ≤ 1000) = false) := decide_eq_false c2
  have e1 : Hid (decide (1 ≤ Sy ∧ Sy ≤ 12) = false) := decide_eq_false h1
  clear h1 c0 c1 c2
  go_enter Tryz.func26, Tryz.ntmps26
  go_wp2_with (go_at_call 71; refine (in_any _ _ _ _).mono ?_; (first | rw [g0.out] | rw [g1.out] | rw [g2.out] | rw [e1.out]); rintro e w1 ⟨rfl, rfl⟩)
  go_ret
  exact ⟨ret_int hR.out.symm, hb0⟩
set_option maxRecDepth 100000 in
set_option maxHeartbeats 1000000 in
theorem refCheck_21 (Sy St Ot Mi Ad Sm : Int) (A : Option Addr) (gcap : Nat) (ms : List Mkg) (w : World) (c0 : 1 ≤ Ot ∧ Ot ≤ 1000) (c1 : 1 ≤ Mi ∧ Mi ≤ 1000) (c2 : ¬ (1 ≤ Ad ∧ Ad ≤ 1000)) (h1 : 1 ≤ Sy ∧ Sy ≤ 12) (h2 : ¬ (1 ≤ St ∧ St ≤ Sy)) : Calls Tryz.prog 26 #[gv Sy St (.slice A ms.length gcap) Ot Mi Ad Sm] w fun e w' => e = .returned (.int .i64 (chkG Sy St Ot Mi Ad Sm ms)) ∧ Below w.heap.size w w' := by
  have hR : Hid (chkG Sy St Ot Mi Ad Sm ms = 1) := by show _ = _; unfold chkG; rw [if_pos (fun hh => h2 ⟨hh.2.2.1, hh.2.2.2⟩)]
  have hb0 : Below w.heap.size w (w.alloc (.cells #[.int .i64 Sy, .int .i64 St, .slice A ms.length gcap, .int .i64 Ot, .int .i64 Mi, .int .i64 Ad, .int .i64 Sm] 24)) := below_new _ _
  have kG0 : Blk (w.alloc (.cells #[.int .i64 Sy, .int .i64 St, .slice A ms.length gcap, .int .i64 Ot, .int .i64 Mi, .int .i64 Ad, .int .i64 Sm] 24)) w.heap.size 24 #[.int .i64 Sy, .int .i64 St, .slice A ms.length gcap, .int .i64 Ot, .int .i64 Mi, .int .i64 Ad, .int .i64 Sm] := Blk.new _ _ _
  have g0 : Hid (decide (1 ≤ Ot ∧ Ot ≤ 1000) = true) := decide_eq_true c0
  have g1 : Hid (decide (1 ≤ Mi ∧ Mi ≤ 1000) = true) := decide_eq_true c1
  have g2 : Hid (decide (1 ≤ Ad ∧ Ad ≤ 1000) = false) := decide_eq_false c2
  have e1 : Hid (decide (1 ≤ Sy ∧ Sy ≤ 12) = true) := decide_eq_true h1
  have e2 : Hid (decide (1 ≤ St ∧ St ≤ Sy) = false) := decide_eq_false h2
  clear h1 h2 c0 c1 c2
  go_enter Tryz.func26, Tryz.ntmps26
  go_wp2_with (go_at_call 71; refine (in_any _ _ _ _).mono ?_; (first | rw [g0.out] | rw [g1.out] | rw [g2.out] | rw [e1.out] | rw [e2.out]); rintro e w1 ⟨rfl, rfl⟩)
  go_ret
  exact ⟨ret_int hR.out.symm, hb0⟩
set_option maxRecDepth 100000 in
set_option maxHeartbeats 1000000 in
theorem refCheck_22 (Sy St Ot Mi Ad Sm : Int) (A : Option Addr) (gcap : Nat) (ms : List Mkg) (w : World) (c0 : 1 ≤ Ot ∧ Ot ≤ 1000) (c1 : 1 ≤ Mi ∧ Mi ≤ 1000) (c2 : ¬ (1 ≤ Ad ∧ Ad ≤ 1000)) (h1 : 1 ≤ Sy ∧ Sy ≤ 12) (h2 : 1 ≤ St ∧ St ≤ Sy) : Calls Tryz.prog 26 #[gv Sy St (.slice A ms.length gcap) Ot Mi Ad Sm] w fun e w' => e = .returned (.int .i64 (chkG Sy St Ot Mi Ad Sm ms)) ∧ Below w.heap.size w w' := by
  have hR : Hid (chkG Sy St Ot Mi Ad Sm ms = 1) := by show _ = _; unfold chkG; rw [if_neg (fun hh => hh ⟨h1.1, h1.2, h2.1, h2.2⟩), if_pos (fun hh => c2 (of_decide_eq_true hh.2.2.1))]
  have hb0 : Below w.heap.size w (w.alloc (.cells #[.int .i64 Sy, .int .i64 St, .slice A ms.length gcap, .int .i64 Ot, .int .i64 Mi, .int .i64 Ad, .int .i64 Sm] 24)) := below_new _ _
  have kG0 : Blk (w.alloc (.cells #[.int .i64 Sy, .int .i64 St, .slice A ms.length gcap, .int .i64 Ot, .int .i64 Mi, .int .i64 Ad, .int .i64 Sm] 24)) w.heap.size 24 #[.int .i64 Sy, .int .i64 St, .slice A ms.length gcap, .int .i64 Ot, .int .i64 Mi, .int .i64 Ad, .int .i64 Sm] := Blk.new _ _ _
  have g0 : Hid (decide (1 ≤ Ot ∧ Ot ≤ 1000) = true) := decide_eq_true c0
  have g1 : Hid (decide (1 ≤ Mi ∧ Mi ≤ 1000) = true) := decide_eq_true c1
  have g2 : Hid (decide (1 ≤ Ad ∧ Ad ≤ 1000) = false) := decide_eq_false c2
  have e1 : Hid (decide (1 ≤ Sy ∧ Sy ≤ 12) = true) := decide_eq_true h1
  have e2 : Hid (decide (1 ≤ St ∧ St ≤ Sy) = true) := decide_eq_true h2
  clear h1 h2 c0 c1 c2
  go_enter Tryz.func26, Tryz.ntmps26
  go_wp2_with (go_at_call 71; refine (in_any _ _ _ _).mono ?_; (first | rw [g0.out] | rw [g1.out] | rw [g2.out] | rw [e1.out] | rw [e2.out]); rintro e w1 ⟨rfl, rfl⟩)
  go_ret
  exact ⟨ret_int hR.out.symm, hb0⟩
set_option maxRecDepth 100000 in
set_option maxHeartbeats 1000000 in
theorem refCheck_30 (Sy St Ot Mi Ad Sm : Int) (A : Option Addr) (gcap : Nat) (ms : List Mkg) (w : World) (c0 : 1 ≤ Ot ∧ Ot ≤ 1000) (c1 : 1 ≤ Mi ∧ Mi ≤ 1000) (c2 : 1 ≤ Ad ∧ Ad ≤ 1000) (c3 : ¬ (1 ≤ Sm ∧ Sm ≤ 1000)) (h1 : ¬ (1 ≤ Sy ∧ Sy ≤ 12)) : Calls Tryz.prog 26 #[gv Sy St (.slice A ms.length gcap) Ot Mi Ad Sm] w fun e w' => e = .returned (.int .i64 (chkG Sy St Ot Mi Ad Sm ms)) ∧ Below w.heap.size w w' := by
  have hR : Hid (chkG Sy St Ot Mi Ad Sm ms = 1) := by show _ = _; unfold chkG; rw [if_pos (fun hh => h1 ⟨hh.1, hh.2.1⟩)]
  have hb0 : Below w.heap.size w (w.alloc (.cells #[.int .i64 Sy, .int .i64 St, .slice A ms.length gcap, .int .i64 Ot, .int .i64 Mi, .int .i64 Ad, .int .i64 Sm] 24)) := below_new _ _
  have kG0 : Blk (w.alloc (.cells #[.int .i64 Sy, .int .i64 St, .slice A ms.length gcap, .int .i64 Ot, .int .i64 Mi, .int .i64 Ad, .int .i64 Sm] 24)) w.heap.size 24 #[.int .i64 Sy, .int .i64 St, .slice A ms.length gcap, .int .i64 Ot, .int .i64 Mi, .int .i64 Ad, .int .i64 Sm] := Blk.new _ _ _
  have g0 : Hid (decide (1 ≤ Ot ∧ Ot ≤ 1000) = true) := decide_eq_true c0
  have g1 : Hid (decide (1 ≤ Mi ∧ Mi ≤ 1000) = true) := decide_eq_true c1
  have g2 : Hid (decide (1 ≤ Ad ∧ Ad ≤ 1000) = true) := decide_eq_true c2
  have g3 : Hid (decide (1 ≤ Sm ∧ Sm ≤ 1000) = false) := decide_eq_false c3
  have e1 : Hid (decide (1 ≤ Sy ∧ Sy ≤ 12) = false) := decide_eq_false h1
  clear h1 c0 c1 c2 c3
  go_enter Tryz.func26, Tryz.ntmps26
  go_wp2_with (go_at_call 71; refine (in_any _ _ _ _).mono ?_; (first | rw [g0.out] | rw [g1.out] | rw [g2.out] | rw [g3.out] | rw [e1.out]); rintro e w1 ⟨rfl, rfl⟩)
  go_ret
  exact ⟨ret_int hR.out.symm, hb0⟩
set_option maxRecDepth 100000 in
set_option maxHeartbeats 1000000 in
theorem refCheck_31 (Sy St Ot Mi Ad Sm : Int) (A : Option Addr) (gcap : Nat) (ms : List Mkg) (w : World) (c0 : 1 ≤ Ot ∧ Ot ≤ 1000) (c1 : 1 ≤ Mi ∧ Mi ≤ 1000) (c2 : 1 ≤ Ad ∧ Ad ≤ 1000) (c3 : ¬ (1 ≤ Sm ∧ Sm ≤ 1000)) (h1 : 1 ≤ Sy ∧ Sy ≤ 12) (h2 : ¬ (1 ≤ St ∧ St ≤ Sy)) : Calls Tryz.prog 26 #[gv Sy St (.slice A ms.length gcap) Ot Mi Ad Sm] w fun e w' => e = .returned (.int .i64 (chkG Sy St Ot Mi Ad Sm ms)) ∧ Below w.heap.size w w' := by
  have hR : Hid (chkG Sy St Ot Mi Ad Sm ms = 1) := by show _ = _; unfold chkG; rw [if_pos (fun hh => h2 ⟨hh.2.2.1, hh.2.2.2⟩)]
  have hb0 : Below w.heap.size w (w.alloc (.cells #[.int .i64 Sy, .int .i64 St, .slice A ms.length gcap, .int .i64 Ot, .int .i64 Mi, .int .i64 Ad, .int .i64 Sm] 24)) := below_new _ _
  have kG0 : Blk (w.alloc (.cells #[.int .i64 Sy, .int .i64 St, .slice A ms.length gcap, .int .i64 Ot, .int .i64 Mi, .int .i64 Ad, .int .i64 Sm] 24)) w.heap.size 24 #[.int .i64 Sy, .int .i64 St, .slice A ms.length gcap, .int .i64 Ot, .int .i64 Mi, .int .i64 Ad, .int .i64 Sm] := Blk.new _ _ _
  have g0 : Hid (decide (1 ≤ Ot ∧ Ot ≤ 1000) = true) := decide_eq_true c0
  have g1 : Hid (decide (1 ≤ Mi ∧ Mi ≤ 1000) = true) := decide_eq_true c1
  have g2 : Hid (decide (1 ≤ Ad ∧ Ad ≤ 1000) = true) := decide_eq_true c2
  have g3 : Hid (decide (1 ≤ Sm ∧ Sm ≤ 1000) = false) := decide_eq_false c3
  have e1 : Hid (decide (1 ≤ Sy ∧ Sy ≤ 12) = true) := decide_eq_true h1
  have e2 : Hid (decide (1 ≤ St ∧ St ≤ Sy) = false) := decide_eq_false h2
  clear h1 h2 c0 c1 c2 c3
  go_enter Tryz.func26, Tryz.ntmps26
  go_wp2_with (go_at_call 71; refine (in_any _ _ _ _).mono ?_; (first | rw [g0.out] | rw [g1.out] | rw [g2.out] | rw [g3.out] | rw [e1.out] | rw [e2.out]); rintro e w1 ⟨rfl, rfl⟩)
  go_ret
  exact ⟨ret_int hR.out.symm, hb0⟩
set_option maxRecDepth 100000 in
set_option maxHeartbeats 1000000 in
theorem refCheck_32 (Sy St Ot Mi Ad Sm : Int) (A : Option Addr) (gcap : Nat) (ms : List Mkg) (w : World) (c0 : 1 ≤ Ot ∧ Ot ≤ 1000) (c1 : 1 ≤ Mi ∧ Mi ≤ 1000) (c2 : 1 ≤ Ad ∧ Ad ≤ 1000) (c3 : ¬ (1 ≤ Sm ∧ Sm ≤ 1000)) (h1 : 1 ≤ Sy ∧ Sy ≤ 12) (h2 : 1 ≤ St ∧ St ≤ Sy) : Calls Tryz.prog 26 #[gv Sy St (.slice A ms.length gcap) Ot Mi Ad Sm] w fun e w' => e = .returned (.int .i64 (chkG Sy St Ot Mi Ad Sm ms)) ∧ Below w.heap.size w w' := by
  have hR : Hid (chkG Sy St Ot Mi Ad Sm ms = 1) := by show _ = _; unfold chkG; rw [if_neg (fun hh => hh ⟨h1.1, h1.2, h2.1, h2.2⟩), if_pos (fun hh => c3 (of_decide_eq_true hh.2.2.2))]
  have hb0 : Below w.heap.size w (w.alloc (.cells #[.int .i64 Sy, .int .i64 St, .slice A ms.length gcap, .int .i64 Ot, .int .i64 Mi, .int .i64 Ad, .int .i64 Sm] 24)) := below_new _ _
  have kG0 : Blk (w.alloc (.cells #[.int .i64 Sy, .int .i64 St, .slice A ms.length gcap, .int .i64 Ot, .int .i64 Mi, .int .i64 Ad, .int .i64 Sm] 24)) w.heap.size 24 #[.int .i64 Sy, .int .i64 St, .slice A ms.length gcap, .int .i64 Ot, .int .i64 Mi, .int .i64 Ad, .int .i64 Sm] := Blk.new _ _ _
  have g0 : Hid (decide (1 ≤ Ot ∧ Ot ≤ 1000) = true) := decide_eq_true c0
  have g1 : Hid (decide (1 ≤ Mi ∧ Mi ≤ 1000) = true) := decide_eq_true c1
  have g2 : Hid (decide (1 ≤ Ad ∧ Ad ≤ 1000) = true) := decide_eq_true c2
  have g3 : Hid (decide (1 ≤ Sm ∧ Sm ≤ 1000) = false) := decide_eq_false c3
  have e1 : Hid (decide (1 ≤ Sy ∧ Sy ≤ 12) = true) := decide_eq_true h1
  have e2 : Hid (decide (1 ≤ St ∧ St ≤ Sy) = true) := decide_eq_true h2
  clear h1 h2 c0 c1 c2 c3
  go_enter Tryz.func26, Tryz.ntmps26
  go_wp2_with (go_at_call 71; refine (in_any _ _ _ _).mono ?_; (first | rw [g0.out] | rw [g1.out] | rw [g2.out] | rw [g3.out] | rw [e1.out] | rw [e2.out]); rintro e w1 ⟨rfl, rfl⟩)
  go_ret
  exact ⟨ret_int hR.out.symm, hb0⟩
set_option maxRecDepth 100000 in
set_option maxHeartbeats 1000000 in
theorem refCheck_40 (Sy St Ot Mi Ad Sm : Int) (A : Option Addr) (gcap : Nat) (ms : List Mkg) (w : World) (c0 : 1 ≤ Ot ∧ Ot ≤ 1000) (c1 : 1 ≤ Mi ∧ Mi ≤ 1000) (c2 : 1 ≤ Ad ∧ Ad ≤ 1000) (c3 : 1 ≤ Sm ∧ Sm ≤ 1000) (h1 : ¬ (1 ≤ Sy ∧ Sy ≤ 12)) : Calls Tryz.prog 26 #[gv Sy St (.slice A ms.length gcap) Ot Mi Ad Sm] w fun e w' => e = .returned (.int .i64 (chkG Sy St Ot Mi Ad Sm ms)) ∧ Below w.heap.size w w' := by
  have hR : Hid (chkG Sy St Ot Mi Ad Sm ms = 1) := by show _ = _; unfold chkG; rw [if_pos (fun hh => h1 ⟨hh.1, hh.2.1⟩)]
  have hb0 : Below w.heap.size w (w.alloc (.cells #[.int .i64 Sy, .int .i64 St, .slice A ms.length gcap, .int .i64 Ot, .int .i64 Mi, .int .i64 Ad, .int .i64 Sm] 24)) := below_new _ _
  have kG0 : Blk (w.alloc (.cells #[.int .i64 Sy, .int .i64 St, .slice A ms.length gcap, .int .i64 Ot, .int .i64 Mi, .int .i64 Ad, .int .i64 Sm] 24)) w.heap.size 24 #[.int .i64 Sy, .int .i64 St, .slice A ms.length gcap, .int .i64 Ot, .int .i64 Mi, .int .i64 Ad, .int .i64 Sm] := Blk.new _ _ _
  have g0 : Hid (decide (1 ≤ Ot ∧ Ot ≤ 1000) = true) := decide_eq_true c0
  have g1 : Hid (decide (1 ≤ Mi ∧ Mi ≤ 1000) = true) := decide_eq_true c1
  have g2 : Hid (decide (1 ≤ Ad ∧ Ad ≤ 1000) = true) := decide_eq_true c2
  have g3 : Hid (decide (1 ≤ Sm ∧ Sm ≤ 1000) = true) := decide_eq_true c3
  have e1 : Hid (decide (1 ≤ Sy ∧ Sy ≤ 12) = false) := decide_eq_false h1
  clear h1 c0 c1 c2 c3
  go_enter Tryz.func26, Tryz.ntmps26
  go_wp2_with (go_at_call 71; refine (in_any _ _ _ _).mono ?_; (first | rw [g0.out] | rw [g1.out] | rw [g2.out] | rw [g3.out] | rw [e1.out]); rintro e w1 ⟨rfl, rfl⟩)
  go_ret
  exact ⟨ret_int hR.out.symm, hb0⟩
set_option maxRecDepth 100000 in
set_option maxHeartbeats 1000000 in
theorem refCheck_41 (Sy St Ot Mi Ad Sm : Int) (A : Option Addr) (gcap : Nat) (ms : List Mkg) (w : World) (c0 : 1 ≤ Ot ∧ Ot ≤ 1000) (c1 : 1 ≤ Mi ∧ Mi ≤ 1000) (c2 : 1 ≤ Ad ∧ Ad ≤ 1000) (c3 : 1 ≤ Sm ∧ Sm ≤ 1000) (h1 : 1 ≤ Sy ∧ Sy ≤ 12) (h2 : ¬ (1 ≤ St ∧ St ≤ Sy)) : Calls Tryz.prog 26 #[gv Sy St (.slice A ms.length gcap) Ot Mi Ad Sm] w fun e w' => e = .returned (.int .i64 (chkG Sy St Ot Mi Ad Sm ms)) ∧ Below w.heap.size w w' := by
  have hR : Hid (chkG Sy St Ot Mi Ad Sm ms = 1) := by show _ = _; unfold chkG; rw [if_pos (fun hh => h2 ⟨hh.2.2.1, hh.2.2.2⟩)]
  have hb0 : Below w.heap.size w (w.alloc (.cells #[.int .i64 Sy, .int .i64 St, .slice A ms.length gcap, .int .i64 Ot, .int .i64 Mi, .int .i64 Ad, .int .i64 Sm] 24)) := below_new _ _
  have kG0 : Blk (w.alloc (.cells #[.int .i64 Sy, .int .i64 St, .slice A ms.length gcap, .int .i64 Ot, .int .i64 Mi, .int .i64 Ad, .int .i64 Sm] 24)) w.heap.size 24 #[.int .i64 Sy, .int .i64 St, .slice A ms.length gcap, .int .i64 Ot, .int .i64 Mi, .int .i64 Ad, .int .i64 Sm] := Blk.new _ _ _
  have g0 : Hid (decide (1 ≤ Ot ∧ Ot ≤ 1000) = true) := decide_eq_true c0
  have g1 : Hid (decide (1 ≤ Mi ∧ Mi ≤ 1000) = true) := decide_eq_true c1
  have g2 : Hid (decide (1 ≤ Ad ∧ Ad ≤ 1000) = true) := decide_eq_true c2
  have g3 : Hid (decide (1 ≤ Sm ∧ Sm ≤ 1000) = true) := decide_eq_true c3
  have e1 : Hid (decide (1 ≤ Sy ∧ Sy ≤ 12) = true) := decide_eq_true h1
  have e2 : Hid (decide (1 ≤ St ∧ St ≤ Sy) = false) := decide_eq_false h2
  clear h1 h2 c0 c1 c2 c3
  go_enter Tryz.func26, Tryz.ntmps26
  go_wp2_with (go_at_call 71; refine (in_any _ _ _ _).mono ?_; (first | rw [g0.out] | rw [g1.out] | rw [g2.out] | rw [g3.out] | rw [e1.out] | rw [e2.out]); rintro e w1 ⟨rfl, rfl⟩)
  go_ret
  exact ⟨ret_int hR.out.symm, hb0⟩
set_option maxRecDepth 100000 in
set_option maxHeartbeats 1000000 in
theorem refCheck_long (Sy St Ot Mi Ad Sm : Int) (A : Option Addr) (gcap : Nat) (ms : List Mkg) (w : World) (c0 : 1 ≤ Ot ∧ Ot ≤ 1000) (c1 : 1 ≤ Mi ∧ Mi ≤ 1000) (c2 : 1 ≤ Ad ∧ Ad ≤ 1000) (c3 : 1 ≤ Sm ∧ Sm ≤ 1000) (h1 : 1 ≤ Sy ∧ Sy ≤ 12) (h2 : 1 ≤ St ∧ St ≤ Sy) (hl : 30 < ms.length) : Calls Tryz.prog 26 #[gv Sy St (.slice A ms.length gcap) Ot Mi Ad Sm] w fun e w' => e = .returned (.int .i64 (chkG Sy St Ot Mi Ad Sm ms)) ∧ Below w.heap.size w w' := by
  have hR : Hid (chkG Sy St Ot Mi Ad Sm ms = 2) := by show _ = _; unfold chkG; rw [if_neg (fun hh => hh ⟨h1.1, h1.2, h2.1, h2.2⟩), if_neg (fun hh => hh ⟨decide_eq_true c0, decide_eq_true c1, decide_eq_true c2, decide_eq_true c3⟩), if_pos hl]
  have hb0 : Below w.heap.size w (w.alloc (.cells #[.int .i64 Sy, .int .i64 St, .slice A ms.length gcap, .int .i64 Ot, .int .i64 Mi, .int .i64 Ad, .int .i64 Sm] 24)) := below_new _ _
  have kG0 : Blk (w.alloc (.cells #[.int .i64 Sy, .int .i64 St, .slice A ms.length gcap, .int .i64 Ot, .int .i64 Mi, .int .i64 Ad, .int .i64 Sm] 24)) w.heap.size 24 #[.int .i64 Sy, .int .i64 St, .slice A ms.length gcap, .int .i64 Ot, .int .i64 Mi, .int .i64 Ad, .int .i64 Sm] := Blk.new _ _ _
  have q3 : decide ((30 : Int) < (ms.length : Int)) = true := decide_eq_true (by omega)
  have q4 : decide (30 < ms.length) = true := decide_eq_true hl
  have g0 : Hid (decide (1 ≤ Ot ∧ Ot ≤ 1000) = true) := decide_eq_true c0
  have g1 : Hid (decide (1 ≤ Mi ∧ Mi ≤ 1000) = true) := decide_eq_true c1
  have g2 : Hid (decide (1 ≤ Ad ∧ Ad ≤ 1000) = true) := decide_eq_true c2
  have g3 : Hid (decide (1 ≤ Sm ∧ Sm ≤ 1000) = true) := decide_eq_true c3
  have e1 : Hid (decide (1 ≤ Sy ∧ Sy ≤ 12) = true) := decide_eq_true h1
  have e2 : Hid (decide (1 ≤ St ∧ St ≤ Sy) = true) := decide_eq_true h2
  clear h1 h2 c0 c1 c2 c3
  go_enter Tryz.func26, Tryz.ntmps26
  go_wp2_with (go_at_call 71; refine (in_any _ _ _ _).mono ?_; (first | rw [g0.out] | rw [g1.out] | rw [g2.out] | rw [g3.out] | rw [e1.out] | rw [e2.out]); rintro e w1 ⟨rfl, rfl⟩)
  go_ret
  exact ⟨ret_int hR.out.symm, hb0⟩
set_option maxRecDepth 100000 in
set_option maxHeartbeats 1000000 in
theorem refCheck_all (Sy St Ot Mi Ad Sm : Int) (A : Option Addr) (gcap : Nat) (ms : List Mkg) (w : World) (c0 : 1 ≤ Ot ∧ Ot ≤ 1000) (c1 : 1 ≤ Mi ∧ Mi ≤ 1000) (c2 : 1 ≤ Ad ∧ Ad ≤ 1000) (c3 : 1 ≤ Sm ∧ Sm ≤ 1000) (h1 : 1 ≤ Sy ∧ Sy ≤ 12) (h2 : 1 ≤ St ∧ St ≤ Sy) (hl : ¬ 30 < ms.length) (hG : Gr w w.heap.size A ms) : Calls Tryz.prog 26 #[gv Sy St (.slice A ms.length gcap) Ot Mi Ad Sm] w fun e w' => e = .returned (.int .i64 (chkG Sy St Ot Mi Ad Sm ms)) ∧ Below w.heap.size w w' := by
  have hR : Hid (chkG Sy St Ot Mi Ad Sm ms = if ms.all (mkgB Sy) then 0 else 1) := by show _ = _; unfold chkG; rw [if_neg (fun hh => hh ⟨h1.1, h1.2, h2.1, h2.2⟩), if_neg (fun hh => hh ⟨decide_eq_true c0, decide_eq_true c1, decide_eq_true c2, decide_eq_true c3⟩), if_neg hl]
  have hb0 : Below w.heap.size w (w.alloc (.cells #[.int .i64 Sy, .int .i64 St, .slice A ms.length gcap, .int .i64 Ot, .int .i64 Mi, .int .i64 Ad, .int .i64 Sm] 24)) := below_new _ _
  have kG0 : Blk (w.alloc (.cells #[.int .i64 Sy, .int .i64 St, .slice A ms.length gcap, .int .i64 Ot, .int .i64 Mi, .int .i64 Ad, .int .i64 Sm] 24)) w.heap.size 24 #[.int .i64 Sy, .int .i64 St, .slice A ms.length gcap, .int .i64 Ot, .int .i64 Mi, .int .i64 Ad, .int .i64 Sm] := Blk.new _ _ _
  have q3 : decide ((30 : Int) < (ms.length : Int)) = false := decide_eq_false (by omega)
  have q4 : decide (30 < ms.length) = false := decide_eq_false hl
  have g0 : Hid (decide (1 ≤ Ot ∧ Ot ≤ 1000) = true) := decide_eq_true c0
  have g1 : Hid (decide (1 ≤ Mi ∧ Mi ≤ 1000) = true) := decide_eq_true c1
  have g2 : Hid (decide (1 ≤ Ad ∧ Ad ≤ 1000) = true) := decide_eq_true c2
  have g3 : Hid (decide (1 ≤ Sm ∧ Sm ≤ 1000) = true) := decide_eq_true c3
  have e1 : Hid (decide (1 ≤ Sy ∧ Sy ≤ 12) = true) := decide_eq_true h1
  have e2 : Hid (decide (1 ≤ St ∧ St ≤ Sy) = true) := decide_eq_true h2
  clear h1 h2 c0 c1 c2 c3
  go_enter Tryz.func26, Tryz.ntmps26
  go_wp2_with (go_at_call 71; refine (in_any _ _ _ _).mono ?_; (first | rw [g0.out] | rw [g1.out] | rw [g2.out] | rw [g3.out] | rw [e1.out] | rw [e2.out]); rintro e w1 ⟨rfl, rfl⟩)
  go_loopw [4] (fun i wr => ∃ k : Nat, k ≤ ms.length ∧ i = .int .i64 k ∧ Hid ((ms.take k).all (mkgB Sy) = true) ∧ Below w.heap.size w wr ∧ Blk wr w.heap.size 24 #[.int .i64 Sy, .int .i64 St, .slice A ms.length gcap, .int .i64 Ot, .int .i64 Mi, .int .i64 Ad, .int .i64 Sm])
    (fun i _ => ms.length - (intOf i).toNat)
  case atStart => exact ⟨0, Nat.zero_le _, rfl, by simp [Hid], hb0, kG0⟩
  case round =>
    obtain ⟨k, hk, rfl, hall, hb, kGr⟩ := hrel
    obtain ⟨a0, a1, a2, a3, a4, a5, a6⟩ : wr.cell? ⟨w.heap.size, 0, none⟩ = some (.int .i64 Sy) ∧ wr.cell? ⟨w.heap.size, 1, none⟩ = some (.int .i64 St) ∧ wr.cell? ⟨w.heap.size, 2, none⟩ = some (.slice A ms.length gcap) ∧ wr.cell? ⟨w.heap.size, 3, none⟩ = some (.int .i64 Ot) ∧ wr.cell? ⟨w.heap.size, 4, none⟩ = some (.int .i64 Mi) ∧ wr.cell? ⟨w.heap.size, 5, none⟩ = some (.int .i64 Ad) ∧ wr.cell? ⟨w.heap.size, 6, none⟩ = some (.int .i64 Sm) := ⟨kGr.cell 0, kGr.cell 1, kGr.cell 2, kGr.cell 3, kGr.cell 4, kGr.cell 5, kGr.cell 6⟩
    by_cases hlt : k < ms.length
    · obtain ⟨ad, rfl, hB, m0, ⟨IA, icap, m1, n1, n2, hI⟩, m2⟩ := (hG.below hb).get hlt
      have hll2 : (k : Int) < (ms.length : Int) := by omega
      have hI1 : Ints wr.drew wr.drew.heap.size IA ms[k].items := hI.more hb.size
      have hlt0 := kGr.lt
      have K0 : wr.drew.cell? ⟨w.heap.size, 0, none⟩ = some (.int .i64 Sy) ∧ wr.drew.cell? ⟨w.heap.size, 1, none⟩ = some (.int .i64 St) ∧ wr.drew.cell? ⟨w.heap.size, 2, none⟩ = some (.slice (some ad) ms.length gcap) ∧ wr.drew.cell? ⟨w.heap.size, 3, none⟩ = some (.int .i64 Ot) ∧ wr.drew.cell? ⟨w.heap.size, 4, none⟩ = some (.int .i64 Mi) ∧ wr.drew.cell? ⟨w.heap.size, 5, none⟩ = some (.int .i64 Ad) ∧ wr.drew.cell? ⟨w.heap.size, 6, none⟩ = some (.int .i64 Sm) ∧ wr.drew.cell? (ad.add (k * 3)) = some (.int .i64 ms[k].sym) ∧ wr.drew.cell? ⟨(ad.add (k * 3)).block, (ad.add (k * 3)).off + 1, none⟩ = some (.slice IA ms[k].items.length icap) ∧ wr.drew.cell? ⟨(ad.add (k * 3)).block, (ad.add (k * 3)).off + 2, none⟩ = some (.int .i64 ms[k].cost) := ⟨a0, a1, a2, a3, a4, a5, a6, m0, m1, m2⟩
      have HS : Hid (∀ W, Below wr.drew.heap.size wr.drew W → W.cell? ⟨w.heap.size, 0, none⟩ = some (.int .i64 Sy) ∧ W.cell? ⟨w.heap.size, 1, none⟩ = some (.int .i64 St) ∧ W.cell? ⟨w.heap.size, 2, none⟩ = some (.slice (some ad) ms.length gcap) ∧ W.cell? ⟨w.heap.size, 3, none⟩ = some (.int .i64 Ot) ∧ W.cell? ⟨w.heap.size, 4, none⟩ = some (.int .i64 Mi) ∧ W.cell? ⟨w.heap.size, 5, none⟩ = some (.int .i64 Ad) ∧ W.cell? ⟨w.heap.size, 6, none⟩ = some (.int .i64 Sm) ∧ W.cell? (ad.add (k * 3)) = some (.int .i64 ms[k].sym) ∧ W.cell? ⟨(ad.add (k * 3)).block, (ad.add (k * 3)).off + 1, none⟩ = some (.slice IA ms[k].items.length icap) ∧ W.cell? ⟨(ad.add (k * 3)).block, (ad.add (k * 3)).off + 2, none⟩ = some (.int .i64 ms[k].cost)) := fun W hW => by
        have kk := (show Blk wr.drew w.heap.size 24 _ from kGr).below hW kGr.lt
        have had : ad.block < wr.heap.size := Nat.lt_of_lt_of_le hB hb.size
        exact ⟨kk.cell 0, kk.cell 1, kk.cell 2, kk.cell 3, kk.cell 4, kk.cell 5, kk.cell 6, (hW.cell (by rw [addr_block]; exact had)).trans m0, (hW.cell (by show (ad.add (k * 3)).block < _; rw [addr_block]; exact had)).trans m1, (hW.cell (by show (ad.add (k * 3)).block < _; rw [addr_block]; exact had)).trans m2⟩
      have hbd : Below w.heap.size w wr.drew := hb.drew
      cases hx : mkgB Sy ms[k] with
      | true =>
        have hn : Hid ((ms.take (k + 1)).all (mkgB Sy) = true) := mk_next hlt hall.out hx
        have HX := Lib.hid hx
        clear hall hx hI
        go_wp2_with fail
        go_region_held3 (fun w' => w'.cell? ⟨w.heap.size, 0, none⟩ = some (.int .i64 Sy) ∧ w'.cell? ⟨w.heap.size, 1, none⟩ = some (.int .i64 St) ∧ w'.cell? ⟨w.heap.size, 2, none⟩ = some (.slice (some ad) ms.length gcap) ∧ w'.cell? ⟨w.heap.size, 3, none⟩ = some (.int .i64 Ot) ∧ w'.cell? ⟨w.heap.size, 4, none⟩ = some (.int .i64 Mi) ∧ w'.cell? ⟨w.heap.size, 5, none⟩ = some (.int .i64 Ad) ∧ w'.cell? ⟨w.heap.size, 6, none⟩ = some (.int .i64 Sm) ∧ w'.cell? (ad.add (k * 3)) = some (.int .i64 ms[k].sym) ∧ w'.cell? ⟨(ad.add (k * 3)).block, (ad.add (k * 3)).off + 1, none⟩ = some (.slice IA ms[k].items.length icap) ∧ w'.cell? ⟨(ad.add (k * 3)).block, (ad.add (k * 3)).off + 2, none⟩ = some (.int .i64 ms[k].cost)) (first | exact K3 | exact K0)
          (first
            | (go_at_call 76; refine (refMaking_any _ _ _ _ _ _ _ _ _ ms[k] _ _ _ hI1).mono ?_; rw [HX.out]; rintro e w3 ⟨rfl, hb4⟩; have K3 := HS.out w3 hb4))
        go_wp2_with fail
        go_roundw
        case rel => exact ⟨k + 1, by omega, by go_num, hn, below_next hbd hbd.size hb4, (show Blk wr.drew w.heap.size 24 _ from kGr).below hb4 hlt0⟩
        case measure => simp [intOf]; try omega
      | false =>
        have HX := Lib.hid hx
        have hm : Hid (chkG Sy St Ot Mi Ad Sm ms = 1) := by
          show _ = _
          rw [hR.out, if_neg]
          intro h
          have := List.all_eq_true.1 h ms[k] (List.getElem_mem hlt)
          rw [hx] at this; cases this
        clear hall hx hI hR
        go_wp2_with fail
        go_region_held3 (fun w' => w'.cell? ⟨w.heap.size, 0, none⟩ = some (.int .i64 Sy) ∧ w'.cell? ⟨w.heap.size, 1, none⟩ = some (.int .i64 St) ∧ w'.cell? ⟨w.heap.size, 2, none⟩ = some (.slice (some ad) ms.length gcap) ∧ w'.cell? ⟨w.heap.size, 3, none⟩ = some (.int .i64 Ot) ∧ w'.cell? ⟨w.heap.size, 4, none⟩ = some (.int .i64 Mi) ∧ w'.cell? ⟨w.heap.size, 5, none⟩ = some (.int .i64 Ad) ∧ w'.cell? ⟨w.heap.size, 6, none⟩ = some (.int .i64 Sm) ∧ w'.cell? (ad.add (k * 3)) = some (.int .i64 ms[k].sym) ∧ w'.cell? ⟨(ad.add (k * 3)).block, (ad.add (k * 3)).off + 1, none⟩ = some (.slice IA ms[k].items.length icap) ∧ w'.cell? ⟨(ad.add (k * 3)).block, (ad.add (k * 3)).off + 2, none⟩ = some (.int .i64 ms[k].cost)) (first | exact K3 | exact K0)
          (first
            | (go_at_call 76; refine (refMaking_any _ _ _ _ _ _ _ _ _ ms[k] _ _ _ hI1).mono ?_; rw [HX.out]; rintro e w3 ⟨rfl, hb4⟩; have K3 := HS.out w3 hb4))
        go_wp2_with fail
        go_ret
        exact ⟨ret_int hm.out.symm, below_next hbd hbd.size hb4⟩
    · have hm : Hid (chkG Sy St Ot Mi Ad Sm ms = 0) := by
        show _ = _
        rw [hR.out, if_pos]
        have := hall.out
        rwa [List.take_of_length_le (by omega)] at this
      clear hall hR
      go_wp2_with fail
      go_ret
      exact ⟨ret_int hm.out.symm, hb⟩
theorem refCheck_any (Sy St Ot Mi Ad Sm : Int) (A : Option Addr) (gcap : Nat) (ms : List Mkg) (w : World) (hG : Gr w w.heap.size A ms) : Calls Tryz.prog 26 #[gv Sy St (.slice A ms.length gcap) Ot Mi Ad Sm] w fun e w' => e = .returned (.int .i64 (chkG Sy St Ot Mi Ad Sm ms)) ∧ Below w.heap.size w w' := by
  by_cases h1 : 1 ≤ Sy ∧ Sy ≤ 12
  case neg =>
    by_cases c0 : 1 ≤ Ot ∧ Ot ≤ 1000
    case neg => exact refCheck_00 Sy St Ot Mi Ad Sm A gcap ms w c0 h1
    case pos =>
      by_cases c1 : 1 ≤ Mi ∧ Mi ≤ 1000
      case neg => exact refCheck_10 Sy St Ot Mi Ad Sm A gcap ms w c0 c1 h1
      case pos =>
        by_cases c2 : 1 ≤ Ad ∧ Ad ≤ 1000
        case neg => exact refCheck_20 Sy St Ot Mi Ad Sm A gcap ms w c0 c1 c2 h1
        case pos =>
          by_cases c3 : 1 ≤ Sm ∧ Sm ≤ 1000
          case neg => exact refCheck_30 Sy St Ot Mi Ad Sm A gcap ms w c0 c1 c2 c3 h1
          case pos =>
            exact refCheck_40 Sy St Ot Mi Ad Sm A gcap ms w c0 c1 c2 c3 h1
  case pos =>
    by_cases h2 : 1 ≤ St ∧ St ≤ Sy
    case neg =>
      by_cases c0 : 1 ≤ Ot ∧ Ot ≤ 1000
      case neg => exact refCheck_01 Sy St Ot Mi Ad Sm A gcap ms w c0 h1 h2
      case pos =>
        by_cases c1 : 1 ≤ Mi ∧ Mi ≤ 1000
        case neg => exact refCheck_11 Sy St Ot Mi Ad Sm A gcap ms w c0 c1 h1 h2
        case pos =>
          by_cases c2 : 1 ≤ Ad ∧ Ad ≤ 1000
          case neg => exact refCheck_21 Sy St Ot Mi Ad Sm A gcap ms w c0 c1 c2 h1 h2
          case pos =>
            by_cases c3 : 1 ≤ Sm ∧ Sm ≤ 1000
            case neg => exact refCheck_31 Sy St Ot Mi Ad Sm A gcap ms w c0 c1 c2 c3 h1 h2
            case pos =>
              exact refCheck_41 Sy St Ot Mi Ad Sm A gcap ms w c0 c1 c2 c3 h1 h2
    case pos =>
      by_cases c0 : 1 ≤ Ot ∧ Ot ≤ 1000
      case neg => exact refCheck_02 Sy St Ot Mi Ad Sm A gcap ms w c0 h1 h2
      case pos =>
        by_cases c1 : 1 ≤ Mi ∧ Mi ≤ 1000
        case neg => exact refCheck_12 Sy St Ot Mi Ad Sm A gcap ms w c0 c1 h1 h2
        case pos =>
          by_cases c2 : 1 ≤ Ad ∧ Ad ≤ 1000
          case neg => exact refCheck_22 Sy St Ot Mi Ad Sm A gcap ms w c0 c1 c2 h1 h2
          case pos =>
            by_cases c3 : 1 ≤ Sm ∧ Sm ≤ 1000
            case neg => exact refCheck_32 Sy St Ot Mi Ad Sm A gcap ms w c0 c1 c2 c3 h1 h2
            case pos =>
              by_cases hl : 30 < ms.length
              · exact refCheck_long Sy St Ot Mi Ad Sm A gcap ms w c0 c1 c2 c3 h1 h2 hl
              · exact refCheck_all Sy St Ot Mi Ad Sm A gcap ms w c0 c1 c2 c3 h1 h2 hl hG
end Go.Proofs.YtieclenlldjfjaaGreat
