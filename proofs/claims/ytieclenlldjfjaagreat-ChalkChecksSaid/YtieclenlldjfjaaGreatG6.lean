import Derived.Test.YtieclenlldjfjaaGreatG2
set_option linter.unusedSimpArgs false
set_option linter.unusedVariables false
/- few 16. -/
namespace Go.Proofs.YtieclenlldjfjaaGreat
open Go.RowKit

/-- at most 8 makings, or too many, with at most 5 items each -/
def fewB (ms : List Mkg) : Bool := ms.all (fun m => decide (m.items.length ≤ 5)) && (decide (ms.length ≤ 8) || decide (30 < ms.length) && decide (ms.length ≤ 40))

theorem fewI_next {l : List Mkg} {k : Nat} (hk : k < l.length) (h : (l.take k).all (fun m => decide (m.items.length ≤ 5)) = true) (hx : l[k].items.length ≤ 5) : (l.take (k + 1)).all (fun m => decide (m.items.length ≤ 5)) = true := by
  rw [List.take_succ_eq_append_getElem hk, List.all_append, h]
  simp [hx]

set_option maxRecDepth 100000 in
set_option maxHeartbeats 1000000 in
theorem few_any (Sy St Ot Mi Ad Sm : Int) (A : Option Addr) (gcap : Nat) (ms : List Mkg) (w : World) (hml : ms.length ≤ maxLen) (hG : Gr w w.heap.size A ms) :
    Calls Tryz.prog 16 #[gv Sy St (.slice A ms.length gcap) Ot Mi Ad Sm] w fun e w' => e = .returned (.bool (fewB ms)) ∧ Below w.heap.size w w' := by
  simp only [maxLen] at hml
  have hb0 : Below w.heap.size w (w.alloc (.cells #[.int .i64 Sy, .int .i64 St, .slice A ms.length gcap, .int .i64 Ot, .int .i64 Mi, .int .i64 Ad, .int .i64 Sm] 24)) := below_new _ _
  have kG0 : Blk (w.alloc (.cells #[.int .i64 Sy, .int .i64 St, .slice A ms.length gcap, .int .i64 Ot, .int .i64 Mi, .int .i64 Ad, .int .i64 Sm] 24)) w.heap.size 24 #[.int .i64 Sy, .int .i64 St, .slice A ms.length gcap, .int .i64 Ot, .int .i64 Mi, .int .i64 Ad, .int .i64 Sm] := Blk.new _ _ _
  go_enter Tryz.func16, Tryz.ntmps16
  go_wp2_with fail
  go_loopw [3] (fun i wr => ∃ k : Nat, k ≤ ms.length ∧ i = .int .i64 k ∧ Hid ((ms.take k).all (fun m => decide (m.items.length ≤ 5)) = true) ∧ Below w.heap.size w wr ∧ Blk wr w.heap.size 24 #[.int .i64 Sy, .int .i64 St, .slice A ms.length gcap, .int .i64 Ot, .int .i64 Mi, .int .i64 Ad, .int .i64 Sm])
    (fun i _ => ms.length - (intOf i).toNat)
  case atStart => exact ⟨0, Nat.zero_le _, rfl, by simp [Hid], hb0, kG0⟩
  case round =>
    obtain ⟨k, hk, rfl, hall, hb, kGr⟩ := hrel
    have a2 : wr.cell? ⟨w.heap.size, 2, none⟩ = some (.slice A ms.length gcap) := kGr.cell 2
    by_cases hlt : k < ms.length
    · obtain ⟨ad, rfl, hB, m0, ⟨IA, icap, m1, n1, n2, hI⟩, m2⟩ := (hG.below hb).get hlt
      have hll2 : (k : Int) < (ms.length : Int) := by omega
      clear hI
      by_cases hx : ms[k].items.length ≤ 5
      · have hn : Hid ((ms.take (k + 1)).all (fun m => decide (m.items.length ≤ 5)) = true) := fewI_next hlt hall.out hx
        have q1 : decide ((5 : Int) < (ms[k].items.length : Int)) = false := decide_eq_false (by omega)
        have q2 : decide (5 < ms[k].items.length) = false := decide_eq_false (by omega)
        clear hall hx
        go_wp2_with fail
        go_roundw
        case rel => exact ⟨k + 1, by omega, by go_num, hn, hb, kGr⟩
        case measure => simp [intOf]; try omega
      · have hm : Hid (fewB ms = false) := by
          show _ = _
          unfold fewB
          have : ms.all (fun m => decide (m.items.length ≤ 5)) = false := by
            cases h : ms.all (fun m => decide (m.items.length ≤ 5)) with
            | false => rfl
            | true => exact absurd (of_decide_eq_true (List.all_eq_true.1 h ms[k] (List.getElem_mem hlt))) hx
          rw [this]; rfl
        have q1 : decide ((5 : Int) < (ms[k].items.length : Int)) = true := decide_eq_true (by omega)
        have q2 : decide (5 < ms[k].items.length) = true := decide_eq_true (by omega)
        clear hall hx
        go_wp2_with fail
        go_ret
        exact ⟨ret_bool hm.out.symm, hb⟩
    · have hm : Hid (fewB ms = (decide (ms.length ≤ 8) || decide (30 < ms.length) && decide (ms.length ≤ 40))) := by
        show _ = _
        have := hall.out
        rw [List.take_of_length_le (by omega)] at this
        unfold fewB
        rw [this]; rfl
      clear hall
      by_cases e1 : ms.length ≤ 8
      · have q1 : decide ((ms.length : Int) ≤ 8) = true := decide_eq_true (by omega)
        have q2 : decide (ms.length ≤ 8) = true := decide_eq_true e1
        rw [q2] at hm
        go_wp2_with fail
        go_ret
        exact ⟨ret_bool hm.out.symm, hb⟩
      · have q1 : decide ((ms.length : Int) ≤ 8) = false := decide_eq_false (by omega)
        have q2 : decide (ms.length ≤ 8) = false := decide_eq_false e1
        by_cases e2 : 30 < ms.length
        · have q3 : decide ((30 : Int) < (ms.length : Int)) = true := decide_eq_true (by omega)
          have q4 : decide (30 < ms.length) = true := decide_eq_true e2
          by_cases e3 : ms.length ≤ 40
          · have q5 : decide ((ms.length : Int) ≤ 40) = true := decide_eq_true (by omega)
            have q6 : decide (ms.length ≤ 40) = true := decide_eq_true e3
            rw [q2, q4, q6] at hm
            go_wp2_with fail
            go_ret
            exact ⟨ret_bool hm.out.symm, hb⟩
          · have q5 : decide ((ms.length : Int) ≤ 40) = false := decide_eq_false (by omega)
            have q6 : decide (ms.length ≤ 40) = false := decide_eq_false e3
            rw [q2, q4, q6] at hm
            go_wp2_with fail
            go_ret
            exact ⟨ret_bool hm.out.symm, hb⟩
        · have q3 : decide ((30 : Int) < (ms.length : Int)) = false := decide_eq_false (by omega)
          have q4 : decide (30 < ms.length) = false := decide_eq_false e2
          rw [q2, q4] at hm
          go_wp2_with fail
          go_ret
          exact ⟨ret_bool (by rw [hm.out]; rfl), hb⟩
end Go.Proofs.YtieclenlldjfjaaGreat
