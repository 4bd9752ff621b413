import Derived.Test.YtnjmkdgglpcfpaaC3
namespace Go.Proofs.Ytnjmkdgglpcfpaa
set_option linter.unusedSimpArgs false
set_option linter.unusedVariables false
open Go.RowKit

theorem ckTurn_way {C R B F : Int} {cl : List Int} {s : Int} {l turns : List Int} {len : Int} (h : wayErr C R B F cl s l ≠ 0) : ckTurn C R B F cl s l turns len = wayErr C R B F cl s l := by unfold ckTurn; rw [if_pos h]
theorem ckTurn_many {C R B F : Int} {cl : List Int} {s : Int} {l turns : List Int} {len : Int} (h : wayErr C R B F cl s l = 0) (h2 : 40 < turns.length) : ckTurn C R B F cl s l turns len = 2 := by unfold ckTurn; rw [if_neg (by simp [h]), if_pos h2]
theorem ckTurn_bad {C R B F : Int} {cl : List Int} {s : Int} {l turns : List Int} {len : Int} (h : wayErr C R B F cl s l = 0) (h2 : ¬ 40 < turns.length) (h3 : ¬ ((∀ n ∈ turns, ¬ turnBad C n) ∧ sumAbs turns = len ∧ ∀ x ∈ l, x ∈ (trips C s turns).2)) : ckTurn C R B F cl s l turns len = 8 := by
  unfold ckTurn
  rw [if_neg (by simp [h]), if_neg h2]
  split
  · rfl
  · rename_i h4
    split
    · rfl
    · rename_i h5
      rw [if_neg]
      intro h6
      exact h3 ⟨fun n hn hb => h4 ⟨n, hn, hb⟩, Classical.byContradiction h5, h6⟩
theorem ckTurn_good {C R B F : Int} {cl : List Int} {s : Int} {l turns : List Int} {len : Int} (h : wayErr C R B F cl s l = 0) (h2 : ¬ 40 < turns.length) (h3 : (∀ n ∈ turns, ¬ turnBad C n) ∧ sumAbs turns = len ∧ ∀ x ∈ l, x ∈ (trips C s turns).2) : ckTurn C R B F cl s l turns len = 0 := by
  unfold ckTurn
  rw [if_neg (by simp [h]), if_neg h2, if_neg (fun ⟨n, hn, hb⟩ => h3.1 n hn hb), if_neg (by simp [h3.2.1]), if_pos h3.2.2]

set_option maxRecDepth 100000 in
set_option maxHeartbeats 8000000 in
theorem checkTurn_loop (C R B F : Int) (A : Option Addr) (cap : Nat) (cl : List Int) (s : Int) (D : Option Addr) (dap : Nat) (l : List Int) (TA : Option Addr) (tap : Nat) (turns : List Int) (len : Int) (w : World) (hB : B ≤ 9223372036854775807) (hcl : cl.length ≤ 9223372036854775807) (hll : l.length ≤ 9223372036854775807) (htl : turns.length ≤ 9223372036854775807) (hr : Ints w w.heap.size A cl) (hl : Ints w w.heap.size D l) (ht : Ints w w.heap.size TA turns) (hok : Ok C R B F cl) (s0 : 0 ≤ s) (s1 : s < C) (hway : wayErr C R B F cl s l = 0) (hM0 : ∀ x ∈ l, 0 ≤ x ∧ x < C) (hl2 : l.length ≤ 200) (h40 : turns.length ≤ 40) (res : Int)
    (hyes : Hid (((∀ n ∈ turns, ¬ turnBad C n) ∧ sumAbs turns = len ∧ ∀ x ∈ l, x ∈ (trips C s turns).2) → res = 0)) (hno : Hid (¬ ((∀ n ∈ turns, ¬ turnBad C n) ∧ sumAbs turns = len ∧ ∀ x ∈ l, x ∈ (trips C s turns).2) → res = 8)) :
    Calls Try.prog 54 #[.agg #[.int .i64 C, .int .i64 R, .int .i64 B, .int .i64 F, .slice A cl.length cap], .int .i64 s, .slice D l.length dap, .agg #[.slice TA turns.length tap, .int .i64 len]] w fun e w' => e = .returned (.int .i64 res) ∧ Below w.heap.size w w' := by
  have q1 := hok.c3
  have q2 := hok.c120
  have hb0 : Below w.heap.size w ((w.alloc (.cells #[.int .i64 C, .int .i64 R, .int .i64 B, .int .i64 F, .slice A cl.length cap] 24)).alloc (.cells #[.slice TA turns.length tap, .int .i64 len] 67)) := (below_new w (.cells #[.int .i64 C, .int .i64 R, .int .i64 B, .int .i64 F, .slice A cl.length cap] 24)).alloc (by simp) _
  have hbk : Blk ((w.alloc (.cells #[.int .i64 C, .int .i64 R, .int .i64 B, .int .i64 F, .slice A cl.length cap] 24)).alloc (.cells #[.slice TA turns.length tap, .int .i64 len] 67)) w.heap.size 24 #[.int .i64 C, .int .i64 R, .int .i64 B, .int .i64 F, .slice A cl.length cap] := (Blk.new _ _ _).alloc _
  have hbt : Blk ((w.alloc (.cells #[.int .i64 C, .int .i64 R, .int .i64 B, .int .i64 F, .slice A cl.length cap] 24)).alloc (.cells #[.slice TA turns.length tap, .int .i64 len] 67)) (w.heap.size + 1) 67 #[.slice TA turns.length tap, .int .i64 len] := Blk.newAt (by simp)
  have hr1 := hr.behind hb0
  have hl1 := hl.behind hb0
  have HW := Lib.hid hway
  have hM : Hid (∀ x ∈ l, 0 ≤ x ∧ x < C) := hM0
  have e1 : ¬ (40 : Int) < (turns.length : Int) := by omega
  have e2 : decide ((40 : Int) < (turns.length : Int)) = false := decide_eq_false e1
  clear hway hM0 hok
  have hin : ∀ x ∈ [s], 0 ≤ x ∧ x < 120 := fun x hx => by rw [List.mem_singleton.1 hx]; omega
  go_enter Try.func54, Try.ntmps54
  go_wp2_with (first
    | (go_at_call 99; refine (checkWay_any C R B F A cap cl s D dap l _ hB hcl hr1 hl1 hll).mono ?_; rw [HW.out]; rintro e w1 ⟨rfl, hb1⟩; have hbk1 := hbk.below hb1 (by simp; omega); have hbt1 := hbt.below hb1 (by simp); obtain ⟨d0, d1, d2, d3, d4⟩ := hbk1.five; have f0 := hbt1.cell 0; have f1 := hbt1.cell 1)
    | (go_at_call 68; refine (marked_any [s] (some ⟨w1.heap.size, 0, none⟩) 1 _ (by simp) hin (own_facts (own_one w1 s)).2.2).mono ?_; rintro e w2 ⟨rfl, hb2⟩; have hba1 := below_next hb0 (by simp; omega) hb1; have hba : Below w.heap.size w w2 := (hba1.alloc hba1.size _).trans (hb2.mono (by have := hba1.size; simp; omega)); have hbk2 := (hbk1.alloc (.cells #[.int .i64 s] 3)).below hb2 (by have := hbk1.lt; simp; omega); have hbt2 := (hbt1.alloc (.cells #[.int .i64 s] 3)).below hb2 (by have := hbt1.lt; simp; omega))
    | (refine wpList_store_row (by rfl) 93 _ _ (by rfl) _ _ (by rfl) (by rfl) 93 _ (Blk.new _ _ _) (info93 _) (z93_size _) (mk_one _) ?_; obtain ⟨w3, he3, hbB, hbH, hbT, hbM⟩ : ∃ w3, w3 = ((w2.alloc (.cells Try.zeroCells93 93)).setRow w2.heap.size (mk (isIn [s]))) ∧ Below w.heap.size w w3 ∧ Blk w3 w.heap.size 24 #[.int .i64 C, .int .i64 R, .int .i64 B, .int .i64 F, .slice A cl.length cap] ∧ Blk w3 (w.heap.size + 1) 67 #[.slice TA turns.length tap, .int .i64 len] ∧ Blk w3 w2.heap.size 93 (mk (isIn [s])) := ⟨_, rfl, below_setRow (hba.alloc hba.size _) hba.size _, (hbk2.alloc _).farRow (Nat.ne_of_lt hbk2.lt) _, (hbt2.alloc _).farRow (Nat.ne_of_lt hbt2.lt) _, (Blk.new _ _ _).setRow _⟩; rw [← he3]; clear he3 d0 d1 d2 d3 d4 f0 f1; obtain ⟨d0, d1, d2, d3, d4⟩ := hbH.five; have f0 := hbT.cell 0; have f1 := hbT.cell 1)
    | fail)
  have hg1 := hbt2.lt
  generalize w2.heap.size = g at *
  clear hb0 hbk hbt hr1 hl1 hb1 hbk1 hbt1 hb2 hba1 hba hbk2 hbt2 d0 d1 d2 d3 d4 f0 f1
  have hb := hbB
  go_loopw [10, 11, 37] (fun su v i wr => ∃ k : Nat, k ≤ turns.length ∧ i = .int .i64 k ∧ su = .int .i64 (sumAbs (turns.take k)) ∧ v = .int .i64 (trips C s (turns.take k)).1 ∧ Hid (∀ n ∈ turns.take k, ¬ turnBad C n) ∧ Below w.heap.size w wr ∧ Blk wr w.heap.size 24 #[.int .i64 C, .int .i64 R, .int .i64 B, .int .i64 F, .slice A cl.length cap] ∧ Blk wr (w.heap.size + 1) 67 #[.slice TA turns.length tap, .int .i64 len] ∧ Blk wr g 93 (mk (isIn (trips C s (turns.take k)).2)))
    (fun _ _ i _ => turns.length - (intOf i).toNat)
  case atStart => exact ⟨0, Nat.zero_le _, rfl, rfl, rfl, (by simp [Hid]), hbB, hbH, hbT, hbM⟩
  case round =>
    clear hbB hbH hbT hbM hb
    obtain ⟨k, hk, rfl, rfl, rfl, hgood, hb, hbH, hbT, hbM⟩ := hrel
    obtain ⟨d0, d1, d2, d3, d4⟩ := hbH.five
    have f0 := hbT.cell 0
    have f1 := hbT.cell 1
    have htk := trips_ok (by omega : 1 ≤ C) q2 s0 s1 k (turns.take k) (by rw [List.length_take]; omega) hgood.out
    have hmul : (120 : Int) * (k : Int) ≤ 4800 := by omega
    by_cases hlt : k < turns.length
    · obtain ⟨ad, hA, hadb, hce⟩ := (ht.below hb).get hlt
      subst hA
      have hlt2 : (k : Int) < (turns.length : Int) := by omega
      by_cases hbad : turnBad C turns[k]
      · have hres : Hid (res = 8) := hno.out fun h => h.1 _ (List.getElem_mem hlt) hbad
        have hw0 : IntKind.i64.wrap (-C) = -C := IntWalk.i64_in _ (by omega)
        clear hgood hyes hno htk
        generalize turns[k] = x at *
        generalize sumAbs (turns.take k) = su at *
        generalize (trips C s (turns.take k)).1 = a0 at *
        by_cases c0 : x = 0
        · have n1 : (x == 0) = true := by simpa using c0
          clear hbad
          go_wp2_with fail
          go_ret
          exact ⟨ret_int hres.out.symm, hb⟩
        · have n1 : (x == 0) = false := by simpa using c0
          by_cases c1 : x < -C
          · have n2 : decide (x < -C) = true := decide_eq_true c1
            clear hbad
            go_wp2_with fail
            go_ret
            exact ⟨ret_int hres.out.symm, hb⟩
          · have n2 : decide (x < -C) = false := decide_eq_false c1
            have c2 : C < x := by unfold turnBad at hbad; omega
            have n3 : decide (C < x) = true := decide_eq_true c2
            clear hbad
            go_wp2_with fail
            go_ret
            exact ⟨ret_int hres.out.symm, hb⟩
      · have hgood2 : Hid (∀ n ∈ turns.take (k + 1), ¬ turnBad C n) := by
          unfold Hid
          rw [List.take_succ_eq_append_getElem hlt]
          intro y hy
          rcases List.mem_append.1 hy with hy | hy
          · exact hgood.out y hy
          · rw [List.mem_singleton.1 hy]; exact hbad
        have HT : Hid (trips C s (turns.take (k + 1)) = (stepTo C (trips C s (turns.take k)).1 (sg turns[k]) turns[k].natAbs, (trips C s (turns.take k)).2 ++ stepL C (trips C s (turns.take k)).1 (sg turns[k]) turns[k].natAbs)) := by
          unfold Hid; rw [List.take_succ_eq_append_getElem hlt, trips_snoc]; rfl
        have HSM : Hid (sumAbs (turns.take (k + 1)) = sumAbs (turns.take k) + turns[k].natAbs) := by
          unfold Hid; rw [List.take_succ_eq_append_getElem hlt, sumAbs_snoc]
        have hw0 : IntKind.i64.wrap (-C) = -C := IntWalk.i64_in _ (by omega)
        obtain ⟨ha0, ha1, _, hs0, hs1⟩ := htk
        have hx : turns[k] ≠ 0 ∧ -C ≤ turns[k] ∧ turns[k] ≤ C := by unfold turnBad at hbad; omega
        clear hgood hbad hyes hno
        generalize turns[k] = x at *
        generalize sumAbs (turns.take k) = su at *
        generalize (trips C s (turns.take k)).1 = a0 at *
        generalize (trips C s (turns.take k)).2 = past at *
        obtain ⟨x0, x1, x2⟩ := hx
        have n1 : (x == 0) = false := by simpa using x0
        have n2 : decide (x < -C) = false := decide_eq_false (by omega)
        have n3 : decide (C < x) = false := decide_eq_false (by omega)
        have n4 : ¬ x < -C := by omega
        have n5 : ¬ C < x := by omega
        by_cases hneg : x < 0
        · obtain ⟨N, hN⟩ := Int.eq_ofNat_of_zero_le (show 0 ≤ -x by omega)
          obtain rfl : x = -(N : Int) := by omega
          have n6 : decide (-(N : Int) < 0) = true := decide_eq_true hneg
          have hw2 : IntKind.i64.wrap (- -(N : Int)) = (N : Int) := by rw [Int.neg_neg]; exact IntWalk.i64_in _ (by omega)
          have hw3 : IntKind.i64.wrap (N : Int) = (N : Int) := IntWalk.i64_in _ (by omega)
          have hN0 : 0 < N := by omega
          clear hN
          have hsg : sg (-(N : Int)) = -1 := by unfold sg; rw [if_pos (by omega)]
          have hna : ((-(N : Int))).natAbs = N := by omega
          rw [hsg, hna] at HT
          rw [hna] at HSM
          clear hsg hna
          go_wp2_with fail
          go_loopw [11, 62] (fun v i wr => ∃ j : Nat, j ≤ N ∧ i = .int .i64 j ∧ v = .int .i64 (stepTo C a0 (-1) j) ∧ Below w.heap.size w wr ∧ Blk wr w.heap.size 24 #[.int .i64 C, .int .i64 R, .int .i64 B, .int .i64 F, .slice A cl.length cap] ∧ Blk wr (w.heap.size + 1) 67 #[.slice (some ad) turns.length tap, .int .i64 len] ∧ Blk wr g 93 (mk (isIn (past ++ stepL C a0 (-1) j))))
            (fun _ i _ => N - (intOf i).toNat)
          case atStart => exact ⟨0, Nat.zero_le _, rfl, rfl, hb, hbH, hbT, by simpa [stepL] using hbM⟩
          case round =>
            clear hb hbH hbT hbM d0 d1 d2 d3 d4 f0 f1
            obtain ⟨j, hj, rfl, rfl, hb, hbH, hbT, hbM⟩ := hrel
            have hltH := hbH.lt
            have hltT := hbT.lt
            have hltM := hbM.lt
            obtain ⟨d0, d1, d2, d3, d4⟩ := hbH.five
            have f0 := hbT.cell 0
            have f1 := hbT.cell 1
            by_cases hjn : j < N
            · have hji : (j : Int) < (N : Int) := by omega
              have hst := stepTo_in (C := C) (a := a0) (s := -1) (by omega) ha0 ha1 j
              have hm0 := Int.emod_nonneg (stepTo C a0 (-1) j + -1) (b := C) (by omega)
              have hm1 := Int.emod_lt_of_pos (stepTo C a0 (-1) j + -1) (b := C) (by omega)
              obtain ⟨m, hm⟩ := Int.eq_ofNat_of_zero_le hm0
              have hmi : (m : Int) < 120 := by omega
              have hmn : m < 120 := by omega
              have HS1 : Hid (stepTo C a0 (-1) (j + 1) = (m : Int)) := hm
              have HS2 : Hid (stepL C a0 (-1) (j + 1) = stepL C a0 (-1) j ++ [(m : Int)]) := by unfold Hid; rw [stepL_succ, hm]
              have HM := Lib.hid hm
              clear hm hm0 hm1
              generalize stepTo C a0 (-1) j = v0 at *
              generalize stepL C a0 (-1) j = sl at *
              go_wp2_with (first
                | (go_at_call 70; refine (further_any C R B F _ v0 (-1) _ (by omega) q2 (by omega) (by omega) (by omega) (by omega)).mono ?_; rw [HM.out]; rintro e w5 ⟨rfl, hb5⟩; have hbM5 := hbM.below hb5 hltM; have hc5 := hbM5.cell m; have hf5 := hbM5.frozen m; rw [mk_get _ _ hmn] at hc5))
              go_roundw
              case rel =>
                have hgm : w.heap.size + 1 < g := hg1
                refine ⟨j + 1, by omega, by go_num, by rw [HS1.out], (below_next hb hb.size hb5).setCell (p := ⟨g, m, none⟩) (by simp; omega) _, (hbH.below hb5 hltH).far (p := ⟨g, m, none⟩) (by simp; omega) _, (hbT.below hb5 hltT).far (p := ⟨g, m, none⟩) (by simp; omega) _, ?_⟩
                have h6 := hbM5.store m (.bool true)
                rw [mk_in_snoc _ _ hmn, List.append_assoc] at h6
                rw [HS2.out]
                exact h6
              case measure => simp [intOf]; try omega
            · obtain rfl : j = N := by omega
              have hw1 : IntKind.i64.wrap (su + (j : Int)) = su + (j : Int) := IntWalk.i64_in _ (by omega)
              go_wp2_with fail
              go_roundw
              case rel => exact ⟨k + 1, by omega, by go_num, by rw [HSM.out], by rw [HT.out], hgood2, hb, hbH, hbT, by rw [HT.out]; exact hbM⟩
              case measure => simp [intOf]; try omega

        · obtain ⟨N, rfl⟩ := Int.eq_ofNat_of_zero_le (show 0 ≤ x by omega)
          have n6 : decide ((N : Int) < 0) = false := decide_eq_false hneg
          have hN0 : 0 < N := by omega
          have hsg : sg (N : Int) = 1 := by unfold sg; rw [if_neg (by omega)]
          have hna : ((N : Int)).natAbs = N := by omega
          rw [hsg, hna] at HT
          rw [hna] at HSM
          clear hsg hna
          go_wp2_with fail
          go_loopw [11, 62] (fun v i wr => ∃ j : Nat, j ≤ N ∧ i = .int .i64 j ∧ v = .int .i64 (stepTo C a0 (1) j) ∧ Below w.heap.size w wr ∧ Blk wr w.heap.size 24 #[.int .i64 C, .int .i64 R, .int .i64 B, .int .i64 F, .slice A cl.length cap] ∧ Blk wr (w.heap.size + 1) 67 #[.slice (some ad) turns.length tap, .int .i64 len] ∧ Blk wr g 93 (mk (isIn (past ++ stepL C a0 (1) j))))
            (fun _ i _ => N - (intOf i).toNat)
          case atStart => exact ⟨0, Nat.zero_le _, rfl, rfl, hb, hbH, hbT, by simpa [stepL] using hbM⟩
          case round =>
            clear hb hbH hbT hbM d0 d1 d2 d3 d4 f0 f1
            obtain ⟨j, hj, rfl, rfl, hb, hbH, hbT, hbM⟩ := hrel
            have hltH := hbH.lt
            have hltT := hbT.lt
            have hltM := hbM.lt
            obtain ⟨d0, d1, d2, d3, d4⟩ := hbH.five
            have f0 := hbT.cell 0
            have f1 := hbT.cell 1
            by_cases hjn : j < N
            · have hji : (j : Int) < (N : Int) := by omega
              have hst := stepTo_in (C := C) (a := a0) (s := 1) (by omega) ha0 ha1 j
              have hm0 := Int.emod_nonneg (stepTo C a0 (1) j + 1) (b := C) (by omega)
              have hm1 := Int.emod_lt_of_pos (stepTo C a0 (1) j + 1) (b := C) (by omega)
              obtain ⟨m, hm⟩ := Int.eq_ofNat_of_zero_le hm0
              have hmi : (m : Int) < 120 := by omega
              have hmn : m < 120 := by omega
              have HS1 : Hid (stepTo C a0 (1) (j + 1) = (m : Int)) := hm
              have HS2 : Hid (stepL C a0 (1) (j + 1) = stepL C a0 (1) j ++ [(m : Int)]) := by unfold Hid; rw [stepL_succ, hm]
              have HM := Lib.hid hm
              clear hm hm0 hm1
              generalize stepTo C a0 (1) j = v0 at *
              generalize stepL C a0 (1) j = sl at *
              go_wp2_with (first
                | (go_at_call 70; refine (further_any C R B F _ v0 (1) _ (by omega) q2 (by omega) (by omega) (by omega) (by omega)).mono ?_; rw [HM.out]; rintro e w5 ⟨rfl, hb5⟩; have hbM5 := hbM.below hb5 hltM; have hc5 := hbM5.cell m; have hf5 := hbM5.frozen m; rw [mk_get _ _ hmn] at hc5))
              go_roundw
              case rel =>
                have hgm : w.heap.size + 1 < g := hg1
                refine ⟨j + 1, by omega, by go_num, by rw [HS1.out], (below_next hb hb.size hb5).setCell (p := ⟨g, m, none⟩) (by simp; omega) _, (hbH.below hb5 hltH).far (p := ⟨g, m, none⟩) (by simp; omega) _, (hbT.below hb5 hltT).far (p := ⟨g, m, none⟩) (by simp; omega) _, ?_⟩
                have h6 := hbM5.store m (.bool true)
                rw [mk_in_snoc _ _ hmn, List.append_assoc] at h6
                rw [HS2.out]
                exact h6
              case measure => simp [intOf]; try omega
            · obtain rfl : j = N := by omega
              have hw1 : IntKind.i64.wrap (su + (j : Int)) = su + (j : Int) := IntWalk.i64_in _ (by omega)
              go_wp2_with fail
              go_roundw
              case rel => exact ⟨k + 1, by omega, by go_num, by rw [HSM.out], by rw [HT.out], hgood2, hb, hbH, hbT, by rw [HT.out]; exact hbM⟩
              case measure => simp [intOf]; try omega

    · have ek : turns.take k = turns := List.take_of_length_le (by omega)
      rw [ek] at hgood htk hbM ⊢
      clear ek
      have hgoodA : ∀ n ∈ turns, ¬ turnBad C n := hgood.out
      by_cases hsum : sumAbs turns = len
      · have hy2 : Hid ((∀ x ∈ l, x ∈ (trips C s turns).2) → res = 0) := fun h => hyes.out ⟨hgoodA, hsum, h⟩
        have hn2 : Hid (¬ (∀ x ∈ l, x ∈ (trips C s turns).2) → res = 8) := fun h => hno.out fun h' => h h'.2.2
        clear hgood hgoodA hyes hno htk
        have n1 : (sumAbs turns == len) = true := by simpa using hsum
        have n2 : (sumAbs turns != len) = false := by simpa using hsum
        generalize (trips C s turns).2 = past at *
        generalize sumAbs turns = su at *
        generalize (trips C s turns).1 = a0 at *
        go_wp2_with fail
        go_loopw [81] (fun i wr => ∃ k : Nat, k ≤ l.length ∧ i = .int .i64 k ∧ Hid (∀ x ∈ l.take k, x ∈ past) ∧ Below w.heap.size w wr ∧ Blk wr g 93 (mk (isIn past)))
          (fun i _ => l.length - (intOf i).toNat)
        case atStart => exact ⟨0, Nat.zero_le _, rfl, (by simp [Hid]), hb, hbM⟩
        case round =>
          clear hb hbH hbT hbM d0 d1 d2 d3 d4 f0 f1
          obtain ⟨j, hj, rfl, hall, hb, hbM⟩ := hrel
          by_cases hjl : j < l.length
          · obtain ⟨ad, hA, hadb, hce⟩ := (hl.below hb).get hjl
            subst hA
            have hji : (j : Int) < (l.length : Int) := by omega
            have hx := hM.out _ (List.getElem_mem hjl)
            obtain ⟨m, hm⟩ := Int.eq_ofNat_of_zero_le hx.1
            have hmi : (m : Int) < 120 := by omega
            have hmn : m < 120 := by omega
            have hc5 := hbM.cell m
            rw [mk_get _ _ hmn, isIn_true hm] at hc5
            by_cases hp : l[j] ∈ past
            · have hall2 : Hid (∀ x ∈ l.take (j + 1), x ∈ past) := by
                unfold Hid
                rw [List.take_succ_eq_append_getElem hjl]
                intro y hy
                rcases List.mem_append.1 hy with hy | hy
                · exact hall.out y hy
                · rw [List.mem_singleton.1 hy]; exact hp
              rw [decide_eq_true hp] at hc5
              rw [hm] at hce
              clear hp hall hy2 hn2 hx hm
              go_wp2_with fail
              go_roundw
              case rel => exact ⟨j + 1, by omega, by go_num, hall2, hb, hbM⟩
              case measure => simp [intOf]; try omega
            · have hres : Hid (res = 8) := hn2.out fun h => hp (h _ (List.getElem_mem hjl))
              rw [decide_eq_false hp] at hc5
              rw [hm] at hce
              clear hp hall hy2 hn2 hx hm
              go_wp2_with fail
              go_ret
              exact ⟨ret_int hres.out.symm, hb⟩
          · have hres : Hid (res = 0) := hy2.out (by have := hall.out; rwa [List.take_of_length_le (by omega)] at this)
            clear hall hy2 hn2
            go_wp2_with fail
            go_ret
            exact ⟨ret_int hres.out.symm, hb⟩
      · have hres : Hid (res = 8) := hno.out fun h => hsum h.2.1
        have n1 : (sumAbs turns == len) = false := by simpa using hsum
        have n2 : (sumAbs turns != len) = true := by simpa using hsum
        clear hgood hgoodA hyes hno htk
        generalize (trips C s turns).2 = past at *
        generalize sumAbs turns = su at *
        generalize (trips C s turns).1 = a0 at *
        go_wp2_with fail
        go_ret
        exact ⟨ret_int hres.out.symm, hb⟩

set_option maxRecDepth 100000 in
set_option maxHeartbeats 1000000 in
/-- CheckTurn, whatever it is handed -/
theorem checkTurn_any (C R B F : Int) (A : Option Addr) (cap : Nat) (cl : List Int) (s : Int) (D : Option Addr) (dap : Nat) (l : List Int) (TA : Option Addr) (tap : Nat) (turns : List Int) (len : Int) (w : World) (hB : B ≤ 9223372036854775807) (hcl : cl.length ≤ 9223372036854775807) (hll : l.length ≤ 9223372036854775807) (htl : turns.length ≤ 9223372036854775807) (hr : Ints w w.heap.size A cl) (hl : Ints w w.heap.size D l) (ht : Ints w w.heap.size TA turns) :
    Calls Try.prog 54 #[.agg #[.int .i64 C, .int .i64 R, .int .i64 B, .int .i64 F, .slice A cl.length cap], .int .i64 s, .slice D l.length dap, .agg #[.slice TA turns.length tap, .int .i64 len]] w fun e w' => e = .returned (.int .i64 (ckTurn C R B F cl s l turns len)) ∧ Below w.heap.size w w' := by
  by_cases hway : wayErr C R B F cl s l = 0
  · obtain ⟨hok, hs, hst⟩ := wayErr_zero hway
    obtain ⟨hl2, hrise, _⟩ := standsErr_zero hst
    by_cases h40 : 40 < turns.length
    · have hb0 : Below w.heap.size w ((w.alloc (.cells #[.int .i64 C, .int .i64 R, .int .i64 B, .int .i64 F, .slice A cl.length cap] 24)).alloc (.cells #[.slice TA turns.length tap, .int .i64 len] 67)) := (below_new w (.cells #[.int .i64 C, .int .i64 R, .int .i64 B, .int .i64 F, .slice A cl.length cap] 24)).alloc (by simp) _
      have hbt : Blk ((w.alloc (.cells #[.int .i64 C, .int .i64 R, .int .i64 B, .int .i64 F, .slice A cl.length cap] 24)).alloc (.cells #[.slice TA turns.length tap, .int .i64 len] 67)) (w.heap.size + 1) 67 #[.slice TA turns.length tap, .int .i64 len] := Blk.newAt (by simp)
      have hr1 := hr.behind hb0
      have hl1 := hl.behind hb0
      have HW := Lib.hid hway
      have e1 : (40 : Int) < (turns.length : Int) := by omega
      have e2 : decide ((40 : Int) < (turns.length : Int)) = true := decide_eq_true e1
      rw [ckTurn_many hway h40]
      clear hway hok hst hrise
      go_enter Try.func54, Try.ntmps54
      go_wp2_with (first
        | (go_at_call 99; refine (checkWay_any C R B F A cap cl s D dap l _ hB hcl hr1 hl1 hll).mono ?_; rw [HW.out]; rintro e w1 ⟨rfl, hb1⟩; have hbt1 := hbt.below hb1 (by simp); have f0 := hbt1.cell 0; have f1 := hbt1.cell 1)
        | fail)
      go_ret
      exact ⟨rfl, below_next hb0 (by simp; omega) hb1⟩
    · exact checkTurn_loop C R B F A cap cl s D dap l TA tap turns len w hB hcl hll htl hr hl ht hok hs.1 hs.2 hway hrise.2 hl2 (by omega) _ (fun h => ckTurn_good hway h40 h) (fun h => ckTurn_bad hway h40 h)
  · have hb0 : Below w.heap.size w ((w.alloc (.cells #[.int .i64 C, .int .i64 R, .int .i64 B, .int .i64 F, .slice A cl.length cap] 24)).alloc (.cells #[.slice TA turns.length tap, .int .i64 len] 67)) := (below_new w (.cells #[.int .i64 C, .int .i64 R, .int .i64 B, .int .i64 F, .slice A cl.length cap] 24)).alloc (by simp) _
    have hr1 := hr.behind hb0
    have hl1 := hl.behind hb0
    have n1 : (wayErr C R B F cl s l == 0) = false := by simpa using hway
    have n2 : (wayErr C R B F cl s l != 0) = true := by simpa using hway
    rw [ckTurn_way hway]
    clear hway
    go_enter Try.func54, Try.ntmps54
    go_wp2_with (first
      | (go_at_call 99; refine (checkWay_any C R B F A cap cl s D dap l _ hB hcl hr1 hl1 hll).mono ?_; rintro e w1 ⟨rfl, hb1⟩)
      | fail)
    go_ret
    exact ⟨rfl, below_next hb0 (by simp; omega) hb1⟩

end Go.Proofs.Ytnjmkdgglpcfpaa
