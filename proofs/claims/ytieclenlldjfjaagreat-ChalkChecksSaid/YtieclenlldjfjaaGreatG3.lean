import Derived.Test.YtieclenlldjfjaaGreatG2
set_option linter.unusedSimpArgs false
set_option linter.unusedVariables false
/- Check 25. -/
namespace Go.Proofs.YtieclenlldjfjaaGreat
open Go.RowKit

def costB (n : Int) : Bool := decide (1 ≤ n ∧ n ≤ 1000)
/-- Check -/
def chkG (Sy St Ot Mi Ad Sm : Int) (ms : List Mkg) : Int :=
  if ¬ (1 ≤ Sy ∧ Sy ≤ 12 ∧ 1 ≤ St ∧ St ≤ Sy) then 1 else if ¬ (costB Ot = true ∧ costB Mi = true ∧ costB Ad = true ∧ costB Sm = true) then 1 else if 30 < ms.length then 2 else if ms.all (mkgB Sy) then 0 else 1

theorem mk_next {Sy : Int} {l : List Mkg} {k : Nat} (hk : k < l.length) (h : (l.take k).all (mkgB Sy) = true) (hx : mkgB Sy l[k] = true) : (l.take (k + 1)).all (mkgB Sy) = true := by
  rw [List.take_succ_eq_append_getElem hk, List.all_append, h]
  simp [hx]

theorem isCost_b (n : Int) (w : World) : Calls Tryz.prog 74 #[.int .i64 n] w fun e w' => e = .returned (.bool (costB n)) ∧ w = w' := isCost_any n w

set_option maxRecDepth 100000 in
set_option maxHeartbeats 1000000 in
theorem check_sy (Sy St Ot Mi Ad Sm : Int) (A : Option Addr) (gcap : Nat) (ms : List Mkg) (w : World) (h : ¬ (1 ≤ Sy ∧ Sy ≤ 12)) : Calls Tryz.prog 25 #[gv Sy St (.slice A ms.length gcap) Ot Mi Ad Sm] w fun e w' => e = .returned (.int .i64 (chkG Sy St Ot Mi Ad Sm ms)) ∧ Below w.heap.size w w' := by
  have hR : Hid (chkG Sy St Ot Mi Ad Sm ms = 1) := by show _ = _; unfold chkG; rw [if_pos (fun hh => h ⟨hh.1, hh.2.1⟩)]
  have hb0 : Below w.heap.size w (w.alloc (.cells #[.int .i64 Sy, .int .i64 St, .slice A ms.length gcap, .int .i64 Ot, .int .i64 Mi, .int .i64 Ad, .int .i64 Sm] 24)) := below_new _ _
  have kG0 : Blk (w.alloc (.cells #[.int .i64 Sy, .int .i64 St, .slice A ms.length gcap, .int .i64 Ot, .int .i64 Mi, .int .i64 Ad, .int .i64 Sm] 24)) w.heap.size 24 #[.int .i64 Sy, .int .i64 St, .slice A ms.length gcap, .int .i64 Ot, .int .i64 Mi, .int .i64 Ad, .int .i64 Sm] := Blk.new _ _ _
  by_cases h1 : Sy < 1
  · have q1 : decide (Sy < 1) = true := decide_eq_true h1
    go_enter Tryz.func25, Tryz.ntmps25
    go_wp2_with fail
    go_ret
    exact ⟨ret_int hR.out.symm, hb0⟩
  · have q1 : decide (Sy < 1) = false := decide_eq_false h1
    have q2 : decide ((12 : Int) < Sy) = true := decide_eq_true (by omega)
    go_enter Tryz.func25, Tryz.ntmps25
    go_wp2_with fail
    go_ret
    exact ⟨ret_int hR.out.symm, hb0⟩
set_option maxRecDepth 100000 in
set_option maxHeartbeats 1000000 in
theorem check_st (Sy St Ot Mi Ad Sm : Int) (A : Option Addr) (gcap : Nat) (ms : List Mkg) (w : World) (h1 : 1 ≤ Sy) (h2 : Sy ≤ 12) (h : ¬ (1 ≤ St ∧ St ≤ Sy)) : Calls Tryz.prog 25 #[gv Sy St (.slice A ms.length gcap) Ot Mi Ad Sm] w fun e w' => e = .returned (.int .i64 (chkG Sy St Ot Mi Ad Sm ms)) ∧ Below w.heap.size w w' := by
  have hR : Hid (chkG Sy St Ot Mi Ad Sm ms = 1) := by show _ = _; unfold chkG; rw [if_pos (fun hh => h ⟨hh.2.2.1, hh.2.2.2⟩)]
  have hb0 : Below w.heap.size w (w.alloc (.cells #[.int .i64 Sy, .int .i64 St, .slice A ms.length gcap, .int .i64 Ot, .int .i64 Mi, .int .i64 Ad, .int .i64 Sm] 24)) := below_new _ _
  have kG0 : Blk (w.alloc (.cells #[.int .i64 Sy, .int .i64 St, .slice A ms.length gcap, .int .i64 Ot, .int .i64 Mi, .int .i64 Ad, .int .i64 Sm] 24)) w.heap.size 24 #[.int .i64 Sy, .int .i64 St, .slice A ms.length gcap, .int .i64 Ot, .int .i64 Mi, .int .i64 Ad, .int .i64 Sm] := Blk.new _ _ _
  have q1 : decide (Sy < 1) = false := decide_eq_false (by omega)
  have q2 : decide ((12 : Int) < Sy) = false := decide_eq_false (by omega)
  have hd : Hid (decide (1 ≤ St ∧ St ≤ Sy) = false) := decide_eq_false h
  clear h1 h2 h
  go_enter Tryz.func25, Tryz.ntmps25
  go_wp2_with (go_at_call 73; refine (isSymbol_any _ _ _ _ _ _ _ _ _ rfl).mono ?_; rw [hd.out]; rintro e w1 ⟨rfl, hb1⟩; have kG1 := kG0.below hb1 (by simp); obtain ⟨a0, a1, a2, a3, a4, a5, a6⟩ : w1.cell? ⟨w.heap.size, 0, none⟩ = some (.int .i64 Sy) ∧ w1.cell? ⟨w.heap.size, 1, none⟩ = some (.int .i64 St) ∧ w1.cell? ⟨w.heap.size, 2, none⟩ = some (.slice A ms.length gcap) ∧ w1.cell? ⟨w.heap.size, 3, none⟩ = some (.int .i64 Ot) ∧ w1.cell? ⟨w.heap.size, 4, none⟩ = some (.int .i64 Mi) ∧ w1.cell? ⟨w.heap.size, 5, none⟩ = some (.int .i64 Ad) ∧ w1.cell? ⟨w.heap.size, 6, none⟩ = some (.int .i64 Sm) := ⟨kG1.cell 0, kG1.cell 1, kG1.cell 2, kG1.cell 3, kG1.cell 4, kG1.cell 5, kG1.cell 6⟩)
  go_ret
  exact ⟨ret_int hR.out.symm, below_next hb0 hb0.size hb1⟩
set_option maxRecDepth 100000 in
set_option maxHeartbeats 1000000 in
theorem check_c0 (Sy St Ot Mi Ad Sm : Int) (A : Option Addr) (gcap : Nat) (ms : List Mkg) (w : World) (h1 : 1 ≤ Sy) (h2 : Sy ≤ 12) (h3 : 1 ≤ St) (h4 : St ≤ Sy)  (c0 : costB Ot = false) : Calls Tryz.prog 25 #[gv Sy St (.slice A ms.length gcap) Ot Mi Ad Sm] w fun e w' => e = .returned (.int .i64 (chkG Sy St Ot Mi Ad Sm ms)) ∧ Below w.heap.size w w' := by
  have hR : Hid (chkG Sy St Ot Mi Ad Sm ms = 1) := by show _ = _; unfold chkG; rw [if_neg (fun hh => hh ⟨h1, h2, h3, h4⟩), if_pos (fun hh => by rw [hh.1] at c0; cases c0)]
  have hb0 : Below w.heap.size w (w.alloc (.cells #[.int .i64 Sy, .int .i64 St, .slice A ms.length gcap, .int .i64 Ot, .int .i64 Mi, .int .i64 Ad, .int .i64 Sm] 24)) := below_new _ _
  have kG0 : Blk (w.alloc (.cells #[.int .i64 Sy, .int .i64 St, .slice A ms.length gcap, .int .i64 Ot, .int .i64 Mi, .int .i64 Ad, .int .i64 Sm] 24)) w.heap.size 24 #[.int .i64 Sy, .int .i64 St, .slice A ms.length gcap, .int .i64 Ot, .int .i64 Mi, .int .i64 Ad, .int .i64 Sm] := Blk.new _ _ _
  have q1 : decide (Sy < 1) = false := decide_eq_false (by omega)
  have q2 : decide ((12 : Int) < Sy) = false := decide_eq_false (by omega)
  have hd : Hid (decide (1 ≤ St ∧ St ≤ Sy) = true) := decide_eq_true ⟨h3, h4⟩
  have hc0 := Lib.hid c0
  clear h1 h2 h3 h4 c0
  go_enter Tryz.func25, Tryz.ntmps25
  go_wp2_with (first
    | (go_at_call 73; refine (isSymbol_any _ _ _ _ _ _ _ _ _ rfl).mono ?_; rw [hd.out]; rintro e w1 ⟨rfl, hb1⟩; have kG1 := kG0.below hb1 (by simp); obtain ⟨a0, a1, a2, a3, a4, a5, a6⟩ : w1.cell? ⟨w.heap.size, 0, none⟩ = some (.int .i64 Sy) ∧ w1.cell? ⟨w.heap.size, 1, none⟩ = some (.int .i64 St) ∧ w1.cell? ⟨w.heap.size, 2, none⟩ = some (.slice A ms.length gcap) ∧ w1.cell? ⟨w.heap.size, 3, none⟩ = some (.int .i64 Ot) ∧ w1.cell? ⟨w.heap.size, 4, none⟩ = some (.int .i64 Mi) ∧ w1.cell? ⟨w.heap.size, 5, none⟩ = some (.int .i64 Ad) ∧ w1.cell? ⟨w.heap.size, 6, none⟩ = some (.int .i64 Sm) := ⟨kG1.cell 0, kG1.cell 1, kG1.cell 2, kG1.cell 3, kG1.cell 4, kG1.cell 5, kG1.cell 6⟩)
    | (go_at_call 74; refine (isCost_b _ _).mono ?_; (first | rw [hc0.out]); rintro e w2 ⟨rfl, rfl⟩)
    )
  go_ret
  exact ⟨ret_int hR.out.symm, below_next hb0 hb0.size hb1⟩
set_option maxRecDepth 100000 in
set_option maxHeartbeats 1000000 in
theorem check_c1 (Sy St Ot Mi Ad Sm : Int) (A : Option Addr) (gcap : Nat) (ms : List Mkg) (w : World) (h1 : 1 ≤ Sy) (h2 : Sy ≤ 12) (h3 : 1 ≤ St) (h4 : St ≤ Sy) (c0 : costB Ot = true) (c1 : costB Mi = false) : Calls Tryz.prog 25 #[gv Sy St (.slice A ms.length gcap) Ot Mi Ad Sm] w fun e w' => e = .returned (.int .i64 (chkG Sy St Ot Mi Ad Sm ms)) ∧ Below w.heap.size w w' := by
  have hR : Hid (chkG Sy St Ot Mi Ad Sm ms = 1) := by show _ = _; unfold chkG; rw [if_neg (fun hh => hh ⟨h1, h2, h3, h4⟩), if_pos (fun hh => by rw [hh.2.1] at c1; cases c1)]
  have hb0 : Below w.heap.size w (w.alloc (.cells #[.int .i64 Sy, .int .i64 St, .slice A ms.length gcap, .int .i64 Ot, .int .i64 Mi, .int .i64 Ad, .int .i64 Sm] 24)) := below_new _ _
  have kG0 : Blk (w.alloc (.cells #[.int .i64 Sy, .int .i64 St, .slice A ms.length gcap, .int .i64 Ot, .int .i64 Mi, .int .i64 Ad, .int .i64 Sm] 24)) w.heap.size 24 #[.int .i64 Sy, .int .i64 St, .slice A ms.length gcap, .int .i64 Ot, .int .i64 Mi, .int .i64 Ad, .int .i64 Sm] := Blk.new _ _ _
  have q1 : decide (Sy < 1) = false := decide_eq_false (by omega)
  have q2 : decide ((12 : Int) < Sy) = false := decide_eq_false (by omega)
  have hd : Hid (decide (1 ≤ St ∧ St ≤ Sy) = true) := decide_eq_true ⟨h3, h4⟩
  have hc0 := Lib.hid c0
  have hc1 := Lib.hid c1
  clear h1 h2 h3 h4 c0 c1
  go_enter Tryz.func25, Tryz.ntmps25
  go_wp2_with (first
    | (go_at_call 73; refine (isSymbol_any _ _ _ _ _ _ _ _ _ rfl).mono ?_; rw [hd.out]; rintro e w1 ⟨rfl, hb1⟩; have kG1 := kG0.below hb1 (by simp); obtain ⟨a0, a1, a2, a3, a4, a5, a6⟩ : w1.cell? ⟨w.heap.size, 0, none⟩ = some (.int .i64 Sy) ∧ w1.cell? ⟨w.heap.size, 1, none⟩ = some (.int .i64 St) ∧ w1.cell? ⟨w.heap.size, 2, none⟩ = some (.slice A ms.length gcap) ∧ w1.cell? ⟨w.heap.size, 3, none⟩ = some (.int .i64 Ot) ∧ w1.cell? ⟨w.heap.size, 4, none⟩ = some (.int .i64 Mi) ∧ w1.cell? ⟨w.heap.size, 5, none⟩ = some (.int .i64 Ad) ∧ w1.cell? ⟨w.heap.size, 6, none⟩ = some (.int .i64 Sm) := ⟨kG1.cell 0, kG1.cell 1, kG1.cell 2, kG1.cell 3, kG1.cell 4, kG1.cell 5, kG1.cell 6⟩)
    | (go_at_call 74; refine (isCost_b _ _).mono ?_; (first | rw [hc0.out] | rw [hc1.out]); rintro e w2 ⟨rfl, rfl⟩)
    )
  go_ret
  exact ⟨ret_int hR.out.symm, below_next hb0 hb0.size hb1⟩
set_option maxRecDepth 100000 in
set_option maxHeartbeats 1000000 in
theorem check_c2 (Sy St Ot Mi Ad Sm : Int) (A : Option Addr) (gcap : Nat) (ms : List Mkg) (w : World) (h1 : 1 ≤ Sy) (h2 : Sy ≤ 12) (h3 : 1 ≤ St) (h4 : St ≤ Sy) (c0 : costB Ot = true) (c1 : costB Mi = true) (c2 : costB Ad = false) : Calls Tryz.prog 25 #[gv Sy St (.slice A ms.length gcap) Ot Mi Ad Sm] w fun e w' => e = .returned (.int .i64 (chkG Sy St Ot Mi Ad Sm ms)) ∧ Below w.heap.size w w' := by
  have hR : Hid (chkG Sy St Ot Mi Ad Sm ms = 1) := by show _ = _; unfold chkG; rw [if_neg (fun hh => hh ⟨h1, h2, h3, h4⟩), if_pos (fun hh => by rw [hh.2.2.1] at c2; cases c2)]
  have hb0 : Below w.heap.size w (w.alloc (.cells #[.int .i64 Sy, .int .i64 St, .slice A ms.length gcap, .int .i64 Ot, .int .i64 Mi, .int .i64 Ad, .int .i64 Sm] 24)) := below_new _ _
  have kG0 : Blk (w.alloc (.cells #[.int .i64 Sy, .int .i64 St, .slice A ms.length gcap, .int .i64 Ot, .int .i64 Mi, .int .i64 Ad, .int .i64 Sm] 24)) w.heap.size 24 #[.int .i64 Sy, .int .i64 St, .slice A ms.length gcap, .int .i64 Ot, .int .i64 Mi, .int .i64 Ad, .int .i64 Sm] := Blk.new _ _ _
  have q1 : decide (Sy < 1) = false := decide_eq_false (by omega)
  have q2 : decide ((12 : Int) < Sy) = false := decide_eq_false (by omega)
  have hd : Hid (decide (1 ≤ St ∧ St ≤ Sy) = true) := decide_eq_true ⟨h3, h4⟩
  have hc0 := Lib.hid c0
  have hc1 := Lib.hid c1
  have hc2 := Lib.hid c2
  clear h1 h2 h3 h4 c0 c1 c2
  go_enter Tryz.func25, Tryz.ntmps25
  go_wp2_with (first
    | (go_at_call 73; refine (isSymbol_any _ _ _ _ _ _ _ _ _ rfl).mono ?_; rw [hd.out]; rintro e w1 ⟨rfl, hb1⟩; have kG1 := kG0.below hb1 (by simp); obtain ⟨a0, a1, a2, a3, a4, a5, a6⟩ : w1.cell? ⟨w.heap.size, 0, none⟩ = some (.int .i64 Sy) ∧ w1.cell? ⟨w.heap.size, 1, none⟩ = some (.int .i64 St) ∧ w1.cell? ⟨w.heap.size, 2, none⟩ = some (.slice A ms.length gcap) ∧ w1.cell? ⟨w.heap.size, 3, none⟩ = some (.int .i64 Ot) ∧ w1.cell? ⟨w.heap.size, 4, none⟩ = some (.int .i64 Mi) ∧ w1.cell? ⟨w.heap.size, 5, none⟩ = some (.int .i64 Ad) ∧ w1.cell? ⟨w.heap.size, 6, none⟩ = some (.int .i64 Sm) := ⟨kG1.cell 0, kG1.cell 1, kG1.cell 2, kG1.cell 3, kG1.cell 4, kG1.cell 5, kG1.cell 6⟩)
    | (go_at_call 74; refine (isCost_b _ _).mono ?_; (first | rw [hc0.out] | rw [hc1.out] | rw [hc2.out]); rintro e w2 ⟨rfl, rfl⟩)
    )
  go_ret
  exact ⟨ret_int hR.out.symm, below_next hb0 hb0.size hb1⟩
set_option maxRecDepth 100000 in
set_option maxHeartbeats 1000000 in
theorem check_c3 (Sy St Ot Mi Ad Sm : Int) (A : Option Addr) (gcap : Nat) (ms : List Mkg) (w : World) (h1 : 1 ≤ Sy) (h2 : Sy ≤ 12) (h3 : 1 ≤ St) (h4 : St ≤ Sy) (c0 : costB Ot = true) (c1 : costB Mi = true) (c2 : costB Ad = true) (c3 : costB Sm = false) : Calls Tryz.prog 25 #[gv Sy St (.slice A ms.length gcap) Ot Mi Ad Sm] w fun e w' => e = .returned (.int .i64 (chkG Sy St Ot Mi Ad Sm ms)) ∧ Below w.heap.size w w' := by
  have hR : Hid (chkG Sy St Ot Mi Ad Sm ms = 1) := by show _ = _; unfold chkG; rw [if_neg (fun hh => hh ⟨h1, h2, h3, h4⟩), if_pos (fun hh => by rw [hh.2.2.2] at c3; cases c3)]
  have hb0 : Below w.heap.size w (w.alloc (.cells #[.int .i64 Sy, .int .i64 St, .slice A ms.length gcap, .int .i64 Ot, .int .i64 Mi, .int .i64 Ad, .int .i64 Sm] 24)) := below_new _ _
  have kG0 : Blk (w.alloc (.cells #[.int .i64 Sy, .int .i64 St, .slice A ms.length gcap, .int .i64 Ot, .int .i64 Mi, .int .i64 Ad, .int .i64 Sm] 24)) w.heap.size 24 #[.int .i64 Sy, .int .i64 St, .slice A ms.length gcap, .int .i64 Ot, .int .i64 Mi, .int .i64 Ad, .int .i64 Sm] := Blk.new _ _ _
  have q1 : decide (Sy < 1) = false := decide_eq_false (by omega)
  have q2 : decide ((12 : Int) < Sy) = false := decide_eq_false (by omega)
  have hd : Hid (decide (1 ≤ St ∧ St ≤ Sy) = true) := decide_eq_true ⟨h3, h4⟩
  have hc0 := Lib.hid c0
  have hc1 := Lib.hid c1
  have hc2 := Lib.hid c2
  have hc3 := Lib.hid c3
  clear h1 h2 h3 h4 c0 c1 c2 c3
  go_enter Tryz.func25, Tryz.ntmps25
  go_wp2_with (first
    | (go_at_call 73; refine (isSymbol_any _ _ _ _ _ _ _ _ _ rfl).mono ?_; rw [hd.out]; rintro e w1 ⟨rfl, hb1⟩; have kG1 := kG0.below hb1 (by simp); obtain ⟨a0, a1, a2, a3, a4, a5, a6⟩ : w1.cell? ⟨w.heap.size, 0, none⟩ = some (.int .i64 Sy) ∧ w1.cell? ⟨w.heap.size, 1, none⟩ = some (.int .i64 St) ∧ w1.cell? ⟨w.heap.size, 2, none⟩ = some (.slice A ms.length gcap) ∧ w1.cell? ⟨w.heap.size, 3, none⟩ = some (.int .i64 Ot) ∧ w1.cell? ⟨w.heap.size, 4, none⟩ = some (.int .i64 Mi) ∧ w1.cell? ⟨w.heap.size, 5, none⟩ = some (.int .i64 Ad) ∧ w1.cell? ⟨w.heap.size, 6, none⟩ = some (.int .i64 Sm) := ⟨kG1.cell 0, kG1.cell 1, kG1.cell 2, kG1.cell 3, kG1.cell 4, kG1.cell 5, kG1.cell 6⟩)
    | (go_at_call 74; refine (isCost_b _ _).mono ?_; (first | rw [hc0.out] | rw [hc1.out] | rw [hc2.out] | rw [hc3.out]); rintro e w2 ⟨rfl, rfl⟩)
    )
  go_ret
  exact ⟨ret_int hR.out.symm, below_next hb0 hb0.size hb1⟩
set_option maxRecDepth 100000 in
set_option maxHeartbeats 1000000 in
theorem check_long (Sy St Ot Mi Ad Sm : Int) (A : Option Addr) (gcap : Nat) (ms : List Mkg) (w : World) (h1 : 1 ≤ Sy) (h2 : Sy ≤ 12) (h3 : 1 ≤ St) (h4 : St ≤ Sy) (c0 : costB Ot = true) (c1 : costB Mi = true) (c2 : costB Ad = true) (c3 : costB Sm = true) (hl : 30 < ms.length) : Calls Tryz.prog 25 #[gv Sy St (.slice A ms.length gcap) Ot Mi Ad Sm] w fun e w' => e = .returned (.int .i64 (chkG Sy St Ot Mi Ad Sm ms)) ∧ Below w.heap.size w w' := by
  have hR : Hid (chkG Sy St Ot Mi Ad Sm ms = 2) := by show _ = _; unfold chkG; rw [if_neg (fun hh => hh ⟨h1, h2, h3, h4⟩), if_neg (fun hh => hh ⟨c0, c1, c2, c3⟩), if_pos hl]
  have hb0 : Below w.heap.size w (w.alloc (.cells #[.int .i64 Sy, .int .i64 St, .slice A ms.length gcap, .int .i64 Ot, .int .i64 Mi, .int .i64 Ad, .int .i64 Sm] 24)) := below_new _ _
  have kG0 : Blk (w.alloc (.cells #[.int .i64 Sy, .int .i64 St, .slice A ms.length gcap, .int .i64 Ot, .int .i64 Mi, .int .i64 Ad, .int .i64 Sm] 24)) w.heap.size 24 #[.int .i64 Sy, .int .i64 St, .slice A ms.length gcap, .int .i64 Ot, .int .i64 Mi, .int .i64 Ad, .int .i64 Sm] := Blk.new _ _ _
  have q1 : decide (Sy < 1) = false := decide_eq_false (by omega)
  have q2 : decide ((12 : Int) < Sy) = false := decide_eq_false (by omega)
  have q3 : decide ((30 : Int) < (ms.length : Int)) = true := decide_eq_true (by omega)
  have q4 : decide (30 < ms.length) = true := decide_eq_true hl
  have hd : Hid (decide (1 ≤ St ∧ St ≤ Sy) = true) := decide_eq_true ⟨h3, h4⟩
  have hc0 := Lib.hid c0
  have hc1 := Lib.hid c1
  have hc2 := Lib.hid c2
  have hc3 := Lib.hid c3
  clear h1 h2 h3 h4 c0 c1 c2 c3
  go_enter Tryz.func25, Tryz.ntmps25
  go_wp2_with (first
    | (go_at_call 73; refine (isSymbol_any _ _ _ _ _ _ _ _ _ rfl).mono ?_; rw [hd.out]; rintro e w1 ⟨rfl, hb1⟩; have kG1 := kG0.below hb1 (by simp); obtain ⟨a0, a1, a2, a3, a4, a5, a6⟩ : w1.cell? ⟨w.heap.size, 0, none⟩ = some (.int .i64 Sy) ∧ w1.cell? ⟨w.heap.size, 1, none⟩ = some (.int .i64 St) ∧ w1.cell? ⟨w.heap.size, 2, none⟩ = some (.slice A ms.length gcap) ∧ w1.cell? ⟨w.heap.size, 3, none⟩ = some (.int .i64 Ot) ∧ w1.cell? ⟨w.heap.size, 4, none⟩ = some (.int .i64 Mi) ∧ w1.cell? ⟨w.heap.size, 5, none⟩ = some (.int .i64 Ad) ∧ w1.cell? ⟨w.heap.size, 6, none⟩ = some (.int .i64 Sm) := ⟨kG1.cell 0, kG1.cell 1, kG1.cell 2, kG1.cell 3, kG1.cell 4, kG1.cell 5, kG1.cell 6⟩)
    | (go_at_call 74; refine (isCost_b _ _).mono ?_; (first | rw [hc0.out] | rw [hc1.out] | rw [hc2.out] | rw [hc3.out]); rintro e w2 ⟨rfl, rfl⟩)
    )
  go_ret
  exact ⟨ret_int hR.out.symm, below_next hb0 hb0.size hb1⟩
set_option maxRecDepth 100000 in
set_option maxHeartbeats 1000000 in
theorem check_all (Sy St Ot Mi Ad Sm : Int) (A : Option Addr) (gcap : Nat) (ms : List Mkg) (w : World) (h1 : 1 ≤ Sy) (h2 : Sy ≤ 12) (h3 : 1 ≤ St) (h4 : St ≤ Sy) (c0 : costB Ot = true) (c1 : costB Mi = true) (c2 : costB Ad = true) (c3 : costB Sm = true) (hl : ¬ 30 < ms.length) (hG : Gr w w.heap.size A ms) : Calls Tryz.prog 25 #[gv Sy St (.slice A ms.length gcap) Ot Mi Ad Sm] w fun e w' => e = .returned (.int .i64 (chkG Sy St Ot Mi Ad Sm ms)) ∧ Below w.heap.size w w' := by
  have hR : Hid (chkG Sy St Ot Mi Ad Sm ms = if ms.all (mkgB Sy) then 0 else 1) := by show _ = _; unfold chkG; rw [if_neg (fun hh => hh ⟨h1, h2, h3, h4⟩), if_neg (fun hh => hh ⟨c0, c1, c2, c3⟩), if_neg hl]
  have hb0 : Below w.heap.size w (w.alloc (.cells #[.int .i64 Sy, .int .i64 St, .slice A ms.length gcap, .int .i64 Ot, .int .i64 Mi, .int .i64 Ad, .int .i64 Sm] 24)) := below_new _ _
  have kG0 : Blk (w.alloc (.cells #[.int .i64 Sy, .int .i64 St, .slice A ms.length gcap, .int .i64 Ot, .int .i64 Mi, .int .i64 Ad, .int .i64 Sm] 24)) w.heap.size 24 #[.int .i64 Sy, .int .i64 St, .slice A ms.length gcap, .int .i64 Ot, .int .i64 Mi, .int .i64 Ad, .int .i64 Sm] := Blk.new _ _ _
  have q1 : decide (Sy < 1) = false := decide_eq_false (by omega)
  have q2 : decide ((12 : Int) < Sy) = false := decide_eq_false (by omega)
  have q3 : decide ((30 : Int) < (ms.length : Int)) = false := decide_eq_false (by omega)
  have q4 : decide (30 < ms.length) = false := decide_eq_false hl
  have hd : Hid (decide (1 ≤ St ∧ St ≤ Sy) = true) := decide_eq_true ⟨h3, h4⟩
  have hc0 := Lib.hid c0
  have hc1 := Lib.hid c1
  have hc2 := Lib.hid c2
  have hc3 := Lib.hid c3
  clear h1 h2 h3 h4 c0 c1 c2 c3
  go_enter Tryz.func25, Tryz.ntmps25
  go_wp2_with (first
    | (go_at_call 73; refine (isSymbol_any _ _ _ _ _ _ _ _ _ rfl).mono ?_; rw [hd.out]; rintro e w1 ⟨rfl, hb1⟩; have kG1 := kG0.below hb1 (by simp); obtain ⟨a0, a1, a2, a3, a4, a5, a6⟩ : w1.cell? ⟨w.heap.size, 0, none⟩ = some (.int .i64 Sy) ∧ w1.cell? ⟨w.heap.size, 1, none⟩ = some (.int .i64 St) ∧ w1.cell? ⟨w.heap.size, 2, none⟩ = some (.slice A ms.length gcap) ∧ w1.cell? ⟨w.heap.size, 3, none⟩ = some (.int .i64 Ot) ∧ w1.cell? ⟨w.heap.size, 4, none⟩ = some (.int .i64 Mi) ∧ w1.cell? ⟨w.heap.size, 5, none⟩ = some (.int .i64 Ad) ∧ w1.cell? ⟨w.heap.size, 6, none⟩ = some (.int .i64 Sm) := ⟨kG1.cell 0, kG1.cell 1, kG1.cell 2, kG1.cell 3, kG1.cell 4, kG1.cell 5, kG1.cell 6⟩)
    | (go_at_call 74; refine (isCost_b _ _).mono ?_; (first | rw [hc0.out] | rw [hc1.out] | rw [hc2.out] | rw [hc3.out]); rintro e w2 ⟨rfl, rfl⟩)
    )
  have hbw := below_next hb0 hb0.size hb1
  clear a0 a1 a2 a3 a4 a5 a6
  go_loopw [49] (fun i wr => ∃ k : Nat, k ≤ ms.length ∧ i = .int .i64 k ∧ Hid ((ms.take k).all (mkgB Sy) = true) ∧ Below w1.heap.size w1 wr)
    (fun i _ => ms.length - (intOf i).toNat)
  case atStart => exact ⟨0, Nat.zero_le _, rfl, by simp [Hid], Below.refl _ _⟩
  case round =>
    obtain ⟨k, hk, rfl, hall, hb⟩ := hrel
    have hbr := below_next hbw hbw.size hb
    have kGr := kG1.below hb kG1.lt
    obtain ⟨a0, a1, a2, a3, a4, a5, a6⟩ : wr.cell? ⟨w.heap.size, 0, none⟩ = some (.int .i64 Sy) ∧ wr.cell? ⟨w.heap.size, 1, none⟩ = some (.int .i64 St) ∧ wr.cell? ⟨w.heap.size, 2, none⟩ = some (.slice A ms.length gcap) ∧ wr.cell? ⟨w.heap.size, 3, none⟩ = some (.int .i64 Ot) ∧ wr.cell? ⟨w.heap.size, 4, none⟩ = some (.int .i64 Mi) ∧ wr.cell? ⟨w.heap.size, 5, none⟩ = some (.int .i64 Ad) ∧ wr.cell? ⟨w.heap.size, 6, none⟩ = some (.int .i64 Sm) := ⟨kGr.cell 0, kGr.cell 1, kGr.cell 2, kGr.cell 3, kGr.cell 4, kGr.cell 5, kGr.cell 6⟩
    by_cases hlt : k < ms.length
    · obtain ⟨ad, rfl, hB, m0, ⟨IA, icap, m1, n1, n2, hI⟩, m2⟩ := (hG.below hbr).get hlt
      have hll2 : (k : Int) < (ms.length : Int) := by omega
      have hI1 : Ints wr wr.heap.size IA ms[k].items := hI.more hbr.size
      have hI2 := hI1.behind (below_new wr (.cells #[.int .i64 ms[k].sym, .slice IA ms[k].items.length icap, .int .i64 ms[k].cost] 105))
      have hlt0 := kGr.lt
      have hb3 : Below w1.heap.size w1 (wr.alloc (.cells #[.int .i64 ms[k].sym, .slice IA ms[k].items.length icap, .int .i64 ms[k].cost] 105)) := hb.alloc hb.size _
      cases hx : mkgB Sy ms[k] with
      | true =>
        have hn : Hid ((ms.take (k + 1)).all (mkgB Sy) = true) := mk_next hlt hall.out hx
        have HX := Lib.hid hx
        clear hall hx hI hI1
        go_wp2_with (go_at_call 75; refine (isMaking_any _ _ _ _ _ _ _ _ _ ms[k] _ _ _ hI2).mono ?_; rw [HX.out]; rintro e w3 ⟨rfl, hb4⟩)
        go_roundw
        case rel => exact ⟨k + 1, by omega, by go_num, hn, below_next hb3 hb3.size hb4⟩
        case measure => simp [intOf]; try omega
      | false =>
        have HX := Lib.hid hx
        have hm : Hid (chkG Sy St Ot Mi Ad Sm ms = 1) := by
          show _ = _
          rw [hR.out, if_neg]
          intro h
          have := List.all_eq_true.1 h ms[k] (List.getElem_mem hlt)
          rw [hx] at this; cases this
        clear hall hx hI hI1 hR
        go_wp2_with (go_at_call 75; refine (isMaking_any _ _ _ _ _ _ _ _ _ ms[k] _ _ _ hI2).mono ?_; rw [HX.out]; rintro e w3 ⟨rfl, hb4⟩)
        go_ret
        have hb5 := below_next hb3 hb3.size hb4
        exact ⟨ret_int hm.out.symm, below_next hbw hbw.size hb5⟩
    · have hm : Hid (chkG Sy St Ot Mi Ad Sm ms = 0) := by
        show _ = _
        rw [hR.out, if_pos]
        have := hall.out
        rwa [List.take_of_length_le (by omega)] at this
      clear hall hR
      go_wp2_with fail
      go_ret
      exact ⟨ret_int hm.out.symm, hbr⟩
theorem check_any (Sy St Ot Mi Ad Sm : Int) (A : Option Addr) (gcap : Nat) (ms : List Mkg) (w : World) (hG : Gr w w.heap.size A ms) : Calls Tryz.prog 25 #[gv Sy St (.slice A ms.length gcap) Ot Mi Ad Sm] w fun e w' => e = .returned (.int .i64 (chkG Sy St Ot Mi Ad Sm ms)) ∧ Below w.heap.size w w' := by
  by_cases h1 : 1 ≤ Sy ∧ Sy ≤ 12
  · by_cases h2 : 1 ≤ St ∧ St ≤ Sy
    · cases c0 : costB Ot with
      | false => exact check_c0 Sy St Ot Mi Ad Sm A gcap ms w h1.1 h1.2 h2.1 h2.2 c0
      | true =>
        cases c1 : costB Mi with
        | false => exact check_c1 Sy St Ot Mi Ad Sm A gcap ms w h1.1 h1.2 h2.1 h2.2 c0 c1
        | true =>
          cases c2 : costB Ad with
          | false => exact check_c2 Sy St Ot Mi Ad Sm A gcap ms w h1.1 h1.2 h2.1 h2.2 c0 c1 c2
          | true =>
            cases c3 : costB Sm with
            | false => exact check_c3 Sy St Ot Mi Ad Sm A gcap ms w h1.1 h1.2 h2.1 h2.2 c0 c1 c2 c3
            | true =>
              by_cases hl : 30 < ms.length
              · exact check_long Sy St Ot Mi Ad Sm A gcap ms w h1.1 h1.2 h2.1 h2.2 c0 c1 c2 c3 hl
              · exact check_all Sy St Ot Mi Ad Sm A gcap ms w h1.1 h1.2 h2.1 h2.2 c0 c1 c2 c3 hl hG
    · exact check_st Sy St Ot Mi Ad Sm A gcap ms w h1.1 h1.2 h2
  · exact check_sy Sy St Ot Mi Ad Sm A gcap ms w h1
end Go.Proofs.YtieclenlldjfjaaGreat
