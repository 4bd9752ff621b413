import Derived.Test.YtieclenlldjfjaaGreatG3
set_option linter.unusedSimpArgs false
set_option linter.unusedVariables false
/- The reference's: making 76. -/
namespace Go.Proofs.YtieclenlldjfjaaGreat
open Go.RowKit

set_option maxRecDepth 100000 in
set_option maxHeartbeats 1000000 in
theorem refMaking_any (Sy St Ot Mi Ad Sm : Int) (A : Option Addr) (gn gcap : Nat) (m : Mkg) (IA : Option Addr) (icap : Nat) (w : World) (hI : Ints w w.heap.size IA m.items) :
    Calls Tryz.prog 76 #[gv Sy St (.slice A gn gcap) Ot Mi Ad Sm, .agg #[.int .i64 m.sym, .slice IA m.items.length icap, .int .i64 m.cost]] w fun e w' => e = .returned (.bool (mkgB Sy m)) ∧ Below w.heap.size w w' := by
  obtain ⟨ms, its, mc⟩ := m
  simp only at hI ⊢
  have hb2 : Below w.heap.size w ((w.alloc (.cells #[.int .i64 Sy, .int .i64 St, .slice A gn gcap, .int .i64 Ot, .int .i64 Mi, .int .i64 Ad, .int .i64 Sm] 24)).alloc (.cells #[.int .i64 ms, .slice IA its.length icap, .int .i64 mc] 105)) := (below_new _ _).alloc (by simp) _
  have kG : Blk ((w.alloc (.cells #[.int .i64 Sy, .int .i64 St, .slice A gn gcap, .int .i64 Ot, .int .i64 Mi, .int .i64 Ad, .int .i64 Sm] 24)).alloc (.cells #[.int .i64 ms, .slice IA its.length icap, .int .i64 mc] 105)) w.heap.size 24 #[.int .i64 Sy, .int .i64 St, .slice A gn gcap, .int .i64 Ot, .int .i64 Mi, .int .i64 Ad, .int .i64 Sm] := (Blk.new _ _ _).alloc _
  have kM : Blk ((w.alloc (.cells #[.int .i64 Sy, .int .i64 St, .slice A gn gcap, .int .i64 Ot, .int .i64 Mi, .int .i64 Ad, .int .i64 Sm] 24)).alloc (.cells #[.int .i64 ms, .slice IA its.length icap, .int .i64 mc] 105)) (w.heap.size + 1) 105 #[.int .i64 ms, .slice IA its.length icap, .int .i64 mc] := Blk.newAt (by simp)
  by_cases h1 : 1 ≤ ms ∧ ms ≤ Sy
  · have hd1 : Hid (decide (1 ≤ ms ∧ ms ≤ Sy) = true) := decide_eq_true h1
    by_cases h2 : 1 ≤ mc ∧ mc ≤ 1000
    · have hd2 : Hid (decide (1 ≤ mc ∧ mc ≤ 1000) = true) := decide_eq_true h2
      by_cases h3 : its.length ≤ 3
      · have q1 : decide ((3 : Int) < (its.length : Int)) = false := decide_eq_false (by omega)
        have q2 : decide (3 < its.length) = false := decide_eq_false (by omega)
        have hR : Hid (mkgB Sy ⟨ms, its, mc⟩ = its.all (itemB Sy)) := by show mkgB Sy _ = _; unfold mkgB; simp only [decide_eq_true h1, decide_eq_true h2, decide_eq_true h3]; rfl
        clear h1 h2
        go_enter Tryz.func76, Tryz.ntmps76
        go_wp2_with (go_at_call 71; refine (in_any _ _ _ _).mono ?_; (first | rw [hd1.out] | rw [hd2.out]); rintro e w1 ⟨rfl, rfl⟩)
        go_loopw [5] (fun i wr => ∃ k : Nat, k ≤ its.length ∧ i = .int .i64 k ∧ Hid ((its.take k).all (itemB Sy) = true) ∧ Below w.heap.size w wr ∧ Blk wr w.heap.size 24 #[.int .i64 Sy, .int .i64 St, .slice A gn gcap, .int .i64 Ot, .int .i64 Mi, .int .i64 Ad, .int .i64 Sm] ∧ Blk wr (w.heap.size + 1) 105 #[.int .i64 ms, .slice IA its.length icap, .int .i64 mc])
          (fun i _ => its.length - (intOf i).toNat)
        case atStart => exact ⟨0, Nat.zero_le _, rfl, by simp [Hid], hb2, kG, kM⟩
        case round =>
          obtain ⟨k, hk, rfl, hall, hb, kGr, kMr⟩ := hrel
          obtain ⟨a0, m1⟩ : wr.cell? ⟨w.heap.size, 0, none⟩ = some (.int .i64 Sy) ∧ wr.cell? ⟨w.heap.size + 1, 1, none⟩ = some (.slice IA its.length icap) := ⟨kGr.cell 0, kMr.cell 1⟩
          by_cases hlt : k < its.length
          · obtain ⟨ad, rfl, hB, hc⟩ := (hI.below hb).get hlt
            have hll2 : (k : Int) < (its.length : Int) := by omega
            by_cases s1 : 1 ≤ its[k] ∧ its[k] ≤ Sy
            · have hx : itemB Sy its[k] = true := by unfold itemB; rw [decide_eq_true s1]; rfl
              have hn : Hid ((its.take (k + 1)).all (itemB Sy) = true) := items_next hlt hall.out hx
              have hs1 : Hid (decide (1 ≤ its[k] ∧ its[k] ≤ Sy) = true) := decide_eq_true s1
              clear hall hx s1
              go_wp2_with fail
              go_quiet ((go_at_call 71; exact Calls.quiet_of_same ((in_any _ _ _ _).mono fun e w' h => ⟨by first | rw [h.1, hs1.out], h.2.symm⟩)))
              go_wp2_with fail
              go_roundw
              case rel => exact ⟨k + 1, by omega, by go_num, hn, below_drewN hb _, kGr.drewN _, kMr.drewN _⟩
              case measure => simp [intOf]; try omega
            · have hs1 : Hid (decide (1 ≤ its[k] ∧ its[k] ≤ Sy) = false) := decide_eq_false s1
              by_cases s2 : -20 ≤ its[k] ∧ its[k] ≤ -1
              · have hx : itemB Sy its[k] = true := by unfold itemB; rw [decide_eq_false s1, decide_eq_true s2]; rfl
                have hn : Hid ((its.take (k + 1)).all (itemB Sy) = true) := items_next hlt hall.out hx
                have hs2 : Hid (decide (-20 ≤ its[k] ∧ its[k] ≤ -1) = true) := decide_eq_true s2
                clear hall hx s1 s2
                go_wp2_with fail
                go_quiet ((go_at_call 71; exact Calls.quiet_of_same ((in_any _ _ _ _).mono fun e w' h => ⟨by first | rw [h.1, hs1.out] | rw [h.1, hs2.out], h.2.symm⟩)))
                go_wp2_with fail
                go_roundw
                case rel => exact ⟨k + 1, by omega, by go_num, hn, below_drewN hb _, kGr.drewN _, kMr.drewN _⟩
                case measure => simp [intOf]; try omega
              · have hs2 : Hid (decide (-20 ≤ its[k] ∧ its[k] ≤ -1) = false) := decide_eq_false s2
                have hm : Hid (mkgB Sy ⟨ms, its, mc⟩ = false) := by
                  show _ = _
                  rw [hR.out]
                  cases h : its.all (itemB Sy) with
                  | false => rfl
                  | true =>
                    have := List.all_eq_true.1 h its[k] (List.getElem_mem hlt)
                    unfold itemB at this
                    rw [decide_eq_false s1, decide_eq_false s2] at this; cases this
                clear hall hR s1 s2
                go_wp2_with fail
                go_quiet ((go_at_call 71; exact Calls.quiet_of_same ((in_any _ _ _ _).mono fun e w' h => ⟨by first | rw [h.1, hs1.out] | rw [h.1, hs2.out], h.2.symm⟩)))
                go_wp2_with fail
                go_ret
                exact ⟨ret_bool hm.out.symm, below_drewN hb _⟩
          · have hm : Hid (mkgB Sy ⟨ms, its, mc⟩ = true) := by
              show _ = _
              rw [hR.out]
              have := hall.out
              rwa [List.take_of_length_le (by omega)] at this
            clear hall hR
            go_wp2_with fail
            go_ret
            exact ⟨ret_bool hm.out.symm, hb⟩
      · have q1 : decide ((3 : Int) < (its.length : Int)) = true := decide_eq_true (by omega)
        have q2 : decide (3 < its.length) = true := decide_eq_true (by omega)
        have hR : Hid (mkgB Sy ⟨ms, its, mc⟩ = false) := by show mkgB Sy _ = _; unfold mkgB; simp only [decide_eq_false h3]; simp
        clear h1 h2 h3
        go_enter Tryz.func76, Tryz.ntmps76
        go_wp2_with (go_at_call 71; refine (in_any _ _ _ _).mono ?_; (first | rw [hd1.out] | rw [hd2.out]); rintro e w1 ⟨rfl, rfl⟩)
        go_ret
        exact ⟨ret_bool hR.out.symm, hb2⟩
    · have hd2 : Hid (decide (1 ≤ mc ∧ mc ≤ 1000) = false) := decide_eq_false h2
      have hR : Hid (mkgB Sy ⟨ms, its, mc⟩ = false) := by show mkgB Sy _ = _; unfold mkgB; simp only [decide_eq_false h2]; simp
      clear h1 h2
      go_enter Tryz.func76, Tryz.ntmps76
      go_wp2_with (go_at_call 71; refine (in_any _ _ _ _).mono ?_; (first | rw [hd1.out] | rw [hd2.out]); rintro e w1 ⟨rfl, rfl⟩)
      go_ret
      exact ⟨ret_bool hR.out.symm, hb2⟩
  · have hd1 : Hid (decide (1 ≤ ms ∧ ms ≤ Sy) = false) := decide_eq_false h1
    have hR : Hid (mkgB Sy ⟨ms, its, mc⟩ = false) := by show mkgB Sy _ = _; unfold mkgB; simp only [decide_eq_false h1]; simp
    clear h1
    go_enter Tryz.func76, Tryz.ntmps76
    go_wp2_with (go_at_call 71; refine (in_any _ _ _ _).mono ?_; (first | rw [hd1.out]); rintro e w1 ⟨rfl, rfl⟩)
    go_ret
    exact ⟨ret_bool hR.out.symm, hb2⟩
end Go.Proofs.YtieclenlldjfjaaGreat
