import Derived.Test.YtieclenlldjfjaaGreatM2
set_option linter.unusedSimpArgs false
set_option linter.unusedVariables false
/- The reference's shortest 66. -/
namespace Go.Proofs.YtieclenlldjfjaaGreat
open Go.RowKit

/-- what shortest hands back: the numbers of a state that no round changes, in a row of its own -/
def RetShort (N : Nat) (ms : List Mkg) (w : World) (e : Ending) (w' : World) : Prop :=
  ∃ j g, e = .returned (.slice (some ⟨g, 0, none⟩) N N) ∧ rnd ms (iter ms (List.replicate N (-1)) j) = iter ms (List.replicate N (-1)) j ∧ w.heap.size ≤ g ∧ Blk w' g 3 (nums (iter ms (List.replicate N (-1)) j)) ∧ Below w.heap.size w w'

theorem rep_next {N k : Nat} (hk : k < N) : (List.replicate k (-1 : Int) ++ List.replicate (N - k) 0).set k (-1) = List.replicate (k + 1) (-1) ++ List.replicate (N - (k + 1)) 0 := by
  have e : N - k = (N - (k + 1)) + 1 := by omega
  rw [e, List.replicate_succ, List.set_append_right _ _ (by simp), List.length_replicate, Nat.sub_self, List.set_cons_zero, List.replicate_succ', List.append_assoc]
  rfl

theorem zeros (N : Nat) : madeCells #[.int .i64 0] N = nums (List.replicate N 0) := by
  apply Array.ext_getElem?
  intro i
  by_cases hi : i < N
  · simp [nums, madeCells, hi, Nat.mod_one]
  · simp [nums, madeCells, hi]

set_option maxRecDepth 100000 in
set_option maxHeartbeats 2000000 in
theorem refShortest_any (N : Nat) (h1 : 1 ≤ N) (h12 : N ≤ 12) (St Ot Mi Ad Sm : Int) (A : Option Addr) (gcap : Nat) (ms : List Mkg) (w : World) (hml : ms.length ≤ 30) (hf : ∀ m ∈ ms, Fit N m) (hG : Gr w w.heap.size A ms) :
    Calls Tryz.prog 66 #[gv (N : Int) St (.slice A ms.length gcap) Ot Mi Ad Sm] w (RetShort N ms w) := by
  have hmk := run_make_row' (P := Tryz.prog) 25 3 (.int .i64 0) 8 Tryz.underlying25 int_info rfl .i64 .i64 N (by omega) (by omega)
  have kG0 : Blk (w.alloc (.cells #[.int .i64 (N : Int), .int .i64 St, .slice A ms.length gcap, .int .i64 Ot, .int .i64 Mi, .int .i64 Ad, .int .i64 Sm] 24)) w.heap.size 24 #[.int .i64 (N : Int), .int .i64 St, .slice A ms.length gcap, .int .i64 Ot, .int .i64 Mi, .int .i64 Ad, .int .i64 Sm] := Blk.new _ _ _
  have kG1 : Blk ((w.alloc (.cells #[.int .i64 (N : Int), .int .i64 St, .slice A ms.length gcap, .int .i64 Ot, .int .i64 Mi, .int .i64 Ad, .int .i64 Sm] 24)).alloc (.cells (madeCells #[.int .i64 0] N) 3)) w.heap.size 24 #[.int .i64 (N : Int), .int .i64 St, .slice A ms.length gcap, .int .i64 Ot, .int .i64 Mi, .int .i64 Ad, .int .i64 Sm] := kG0.alloc _
  have kO1 : Blk ((w.alloc (.cells #[.int .i64 (N : Int), .int .i64 St, .slice A ms.length gcap, .int .i64 Ot, .int .i64 Mi, .int .i64 Ad, .int .i64 Sm] 24)).alloc (.cells (madeCells #[.int .i64 0] N) 3)) (w.heap.size + 1) 3 (nums (List.replicate 0 (-1) ++ List.replicate (N - 0) 0)) := by
    have : nums (List.replicate 0 (-1) ++ List.replicate (N - 0) 0) = madeCells #[.int .i64 0] N := by rw [zeros]; rfl
    rw [this]
    exact Blk.newAt (by simp)
  have hb1 : Below w.heap.size w ((w.alloc (.cells #[.int .i64 (N : Int), .int .i64 St, .slice A ms.length gcap, .int .i64 Ot, .int .i64 Mi, .int .i64 Ad, .int .i64 Sm] 24)).alloc (.cells (madeCells #[.int .i64 0] N) 3)) := (below_new _ _).alloc (by simp) _
  clear kG0
  go_enter Tryz.func66, Tryz.ntmps66
  go_wp2_with fail
  go_loopw [4] (fun i wr => ∃ k : Nat, k ≤ N ∧ i = .int .i64 k ∧ Below w.heap.size w wr ∧ Blk wr w.heap.size 24 #[.int .i64 (N : Int), .int .i64 St, .slice A ms.length gcap, .int .i64 Ot, .int .i64 Mi, .int .i64 Ad, .int .i64 Sm] ∧ Blk wr (w.heap.size + 1) 3 (nums (List.replicate k (-1) ++ List.replicate (N - k) 0)))
    (fun i _ => N - (intOf i).toNat)
  case atStart => exact ⟨0, Nat.zero_le _, rfl, hb1, kG1, kO1⟩
  case round =>
    obtain ⟨k, hk, rfl, hb, kG, kO⟩ := hrel
    by_cases hlt : k < N
    · have hll2 : (k : Int) < (N : Int) := by omega
      have hkl : k < (List.replicate k (-1 : Int) ++ List.replicate (N - k) 0).length := by simp; omega
      have c0 : wr.cell? ⟨w.heap.size + 1, k, none⟩ = some (.int .i64 (List.replicate k (-1 : Int) ++ List.replicate (N - k) 0)[k]) := by rw [kO.cell, nums_get hkl]
      have f0 := kO.frozen k
      have hst := kO.store k (.int .i64 (-1))
      rw [nums_set, rep_next hlt] at hst
      generalize (List.replicate k (-1 : Int) ++ List.replicate (N - k) 0)[k] = u at c0
      go_wp2_with fail
      go_roundw
      case rel => exact ⟨k + 1, by omega, by go_num, hb.setCell (p := ⟨w.heap.size + 1, k, none⟩) (by simp) _, kG.far (p := ⟨w.heap.size + 1, k, none⟩) (by simp) _, hst⟩
      case measure => simp [intOf]; try omega
    · obtain rfl : k = N := by omega
      have e0 : List.replicate k (-1 : Int) ++ List.replicate (k - k) 0 = List.replicate k (-1) := by simp
      rw [e0] at kO
      clear e0
      obtain ⟨O, hO⟩ : ∃ O, O = w.heap.size + 1 := ⟨_, rfl⟩
      rw [← hO] at kO ⊢
      have hOw : w.heap.size ≤ O := by omega
      have hOg : w.heap.size ≠ O := by omega
      clear hO
      go_wp2_with fail
      go_loopw [5] (fun b w2 => ∃ (j : Nat) (c : Bool), b = .bool c ∧ Hid (c = false → rnd ms (iter ms (List.replicate k (-1)) j) = iter ms (List.replicate k (-1)) j) ∧ Below w.heap.size w w2 ∧ Blk w2 w.heap.size 24 #[.int .i64 (k : Int), .int .i64 St, .slice A ms.length gcap, .int .i64 Ot, .int .i64 Mi, .int .i64 Ad, .int .i64 Sm] ∧ Blk w2 O 3 (nums (iter ms (List.replicate k (-1)) j)))
        (fun b w2 => 2 * pot (readW O w2) + vN b)
      case atStart => exact ⟨0, true, rfl, (fun h => by cases h), hb, kG, kO⟩
      case round =>
        obtain ⟨j, c, rfl, hstab, hb2, kG2, kO2⟩ := hrel
        cases c with
        | false =>
          have hs := Lib.hid (hstab.out rfl)
          clear hstab
          go_wp2_with fail
          go_ret
          exact ⟨j, O, rfl, hs.out, hOw, kO2, hb2⟩
        | true =>
          have hX : StOk k (iter ms (List.replicate k (-1)) j) := (StOk.start k).iter hf j
          have hnext : Hid (iter ms (List.replicate k (-1)) (j + 1) = ms.foldl relax (iter ms (List.replicate k (-1)) j)) := rfl
          obtain ⟨X, hXe⟩ : ∃ X, X = iter ms (List.replicate k (-1)) j := ⟨_, rfl⟩
          have HXe := Lib.hid hXe
          rw [← hXe] at hX hnext kO2
          have hrd := readW_eq kO2
          clear hstab hXe
          go_wp2_with fail
          go_loopw [5, 6] (fun b i w3 => ∃ q : Nat, q ≤ ms.length ∧ i = .int .i64 q ∧ b = .bool (decide ((ms.take q).foldl relax X ≠ X)) ∧ Below w.heap.size w w3 ∧ Blk w3 w.heap.size 24 #[.int .i64 (k : Int), .int .i64 St, .slice A ms.length gcap, .int .i64 Ot, .int .i64 Mi, .int .i64 Ad, .int .i64 Sm] ∧ Blk w3 O 3 (nums ((ms.take q).foldl relax X)))
            (fun _ i _ => ms.length - (intOf i).toNat)
          case atStart => exact ⟨0, Nat.zero_le _, rfl, by simp, hb2, kG2, kO2⟩
          case round =>
            obtain ⟨q, hq, rfl, rfl, hb3, kG3, kO3⟩ := hrel
            have a2 : wr.cell? ⟨w.heap.size, 2, none⟩ = some (.slice A ms.length gcap) := kG3.cell 2
            by_cases hqlt : q < ms.length
            · obtain ⟨ad, rfl, hB, m0, ⟨IA, icap, m1, n1, n2, hI⟩, m2⟩ := (hG.below hb3).get hqlt
              have hll3 : (q : Int) < (ms.length : Int) := by omega
              have hfq : Fit k ms[q] := hf _ (List.getElem_mem hqlt)
              have hnx := fold_next hqlt X
              have hfq1 : ∀ m ∈ ms.take q, Fit k m := fun m hm => hf m (List.mem_of_mem_take hm)
              have hY : StOk k ((ms.take q).foldl relax X) := hX.fold hfq1
              have hmv := fold_moved h12 hX hfq1 hfq
              obtain ⟨Y, hYe⟩ : ∃ Y, Y = (ms.take q).foldl relax X := ⟨_, rfl⟩
              obtain ⟨Z, hZe⟩ : ∃ Z, Z = (ms.take (q + 1)).foldl relax X := ⟨_, rfl⟩
              rw [← hZe, ← hYe] at hnx
              rw [← hYe] at hY hmv kO3 ⊢
              obtain ⟨mq, hmq⟩ : ∃ mq, mq = ms[q] := ⟨_, rfl⟩
              rw [← hmq] at m0 m1 m2 n1 hI hfq hnx hmv
              have HZ := Lib.hid hnx
              have HZe := Lib.hid hZe
              have HMV := Lib.hid hmv
              clear hYe hZe hnx hmv hfq1 hmq
              obtain ⟨msym, items, mcost⟩ := mq
              simp only at m0 m1 m2 n1 hI
              have HFQ := Lib.hid hfq
              have hil : items.length ≤ 3 := hfq.2.2.1
              have hwr := kG3.lt
              have hwO := kO3.lt
              have hbW : Below w.heap.size w (wr.alloc (.cells #[.int .i64 msym, .slice IA items.length icap, .int .i64 mcost] 105)) := hb3.alloc hb3.size _
              have kGW : Blk (wr.alloc (.cells #[.int .i64 msym, .slice IA items.length icap, .int .i64 mcost] 105)) w.heap.size 24 #[.int .i64 (k : Int), .int .i64 St, .slice (some ad) ms.length gcap, .int .i64 Ot, .int .i64 Mi, .int .i64 Ad, .int .i64 Sm] := kG3.alloc _
              have kOW : Blk (wr.alloc (.cells #[.int .i64 msym, .slice IA items.length icap, .int .i64 mcost] 105)) O 3 (nums Y) := kO3.alloc _
              have kM : Blk (wr.alloc (.cells #[.int .i64 msym, .slice IA items.length icap, .int .i64 mcost] 105)) wr.heap.size 105 #[.int .i64 msym, .slice IA items.length icap, .int .i64 mcost] := Blk.new _ _ _
              have hIW : Ints (wr.alloc (.cells #[.int .i64 msym, .slice IA items.length icap, .int .i64 mcost] 105)) w.heap.size IA items := hI.alloc hb3.size _
              have hwrw : w.heap.size < wr.heap.size := hwr
              have hwrO : O < wr.heap.size := hwO
              go_wp2_with fail
              obtain ⟨W, hW⟩ : ∃ W, W = wr.alloc (.cells #[.int .i64 msym, .slice IA items.length icap, .int .i64 mcost] 105) := ⟨_, rfl⟩
              obtain ⟨M, hM⟩ : ∃ M, M = wr.heap.size := ⟨_, rfl⟩
              rw [← hW] at hbW kGW kOW kM hIW ⊢
              rw [← hM] at kM hwrw hwrO ⊢
              clear hW hM hI hb3 kG3 kO3 hwr hwO m0 m1 m2
              go_loopw [8, 9, 10] (fun n ok i w4 => ∃ p : Nat, p ≤ items.length ∧ i = .int .i64 p ∧ n = .int .i64 (sumL Y (items.take p)) ∧ ok = .bool (okL Y (items.take p)) ∧ W = w4)
                (fun _ _ i _ => items.length - (intOf i).toNat)
              case atStart => exact ⟨0, Nat.zero_le _, rfl, rfl, rfl, (by first | rfl | trivial)⟩
              case round =>
                obtain ⟨p, hp, rfl, rfl, rfl, rfl⟩ := hrel
                obtain ⟨e0, e1⟩ : W.cell? ⟨M, 0, none⟩ = some (.int .i64 msym) ∧ W.cell? ⟨M, 1, none⟩ = some (.slice IA items.length icap) := ⟨kM.cell 0, kM.cell 1⟩
                have hsb := sum_bound hY h12 (items.take p)
                have htl : (items.take p).length ≤ 3 := by rw [List.length_take]; omega
                by_cases hplt : p < items.length
                · have hll4 : (p : Int) < (items.length : Int) := by omega
                  obtain ⟨ai, rfl, hBi, hci⟩ := hIW.get hplt
                  have HS := Lib.hid (sum_next (out := Y) hplt)
                  have HO := Lib.hid (ok_next (out := Y) hplt)
                  have hxf := hfq.2.2.2 _ (List.getElem_mem hplt)
                  obtain ⟨x, hx⟩ : ∃ x, x = items[p] := ⟨_, rfl⟩
                  rw [← hx] at hci HS HO hxf
                  clear hx
                  obtain ⟨s, hs⟩ : ∃ s, s = sumL Y (items.take p) := ⟨_, rfl⟩
                  obtain ⟨o, ho⟩ : ∃ o, o = okL Y (items.take p) := ⟨_, rfl⟩
                  rw [← hs] at HS hsb ⊢
                  rw [← ho] at HO ⊢
                  clear hs ho
                  by_cases hneg : x < 0
                  · have hv : val Y x = 1 := if_pos hneg
                    rw [hv] at HS HO
                    have hq1 : decide (x < 0) = true := decide_eq_true hneg
                    clear hv hneg hxf
                    go_wp2_with fail
                    go_roundw
                    case rel => exact ⟨p + 1, by omega, by go_num, by rw [HS.out], by rw [HO.out]; simp, (by first | rfl | trivial)⟩
                    case measure => simp [intOf]; try omega
                  · have hq1 : decide (x < 0) = false := decide_eq_false hneg
                    obtain ⟨x', rfl⟩ : ∃ x' : Nat, x = (x' : Int) + 1 := ⟨(x - 1).toNat, by omega⟩
                    have hx'k : x' < k := by omega
                    have hyl : x' < Y.length := by rw [hY.len]; exact hx'k
                    have hx'k2 : (x' : Int) < (k : Int) := by omega
                    have hv : val Y ((x' : Int) + 1) = Y[x'] := by
                      unfold val
                      rw [if_neg (by omega), List.getD_eq_getElem?_getD, show ((x' : Int) + 1 - 1).toNat = x' by omega, List.getElem?_eq_getElem hyl]
                      rfl
                    rw [hv] at HS HO
                    have hcy : W.cell? ⟨O, x', none⟩ = some (.int .i64 Y[x']) := by rw [kOW.cell, nums_get hyl]
                    have hvb := hY.le h12 (List.getElem_mem hyl)
                    generalize Y[x'] = v at HS HO hcy hvb
                    clear hv hneg hxf
                    cases o with
                    | true =>
                      by_cases hv0 : 0 ≤ v
                      · have hq2 : decide (0 ≤ v) = true := decide_eq_true hv0
                        rw [hq2] at HO
                        go_wp2_with fail
                        go_roundw
                        case rel => exact ⟨p + 1, by omega, by go_num, by rw [HS.out], by rw [HO.out]; rfl, (by first | rfl | trivial)⟩
                        case measure => simp [intOf]; try omega
                      · have hq2 : decide (0 ≤ v) = false := decide_eq_false hv0
                        rw [hq2] at HO
                        go_wp2_with fail
                        go_roundw
                        case rel => exact ⟨p + 1, by omega, by go_num, by rw [HS.out], by rw [HO.out]; rfl, (by first | rfl | trivial)⟩
                        case measure => simp [intOf]; try omega
                    | false =>
                      rw [Bool.false_and] at HO
                      go_wp2_with fail
                      go_roundw
                      case rel => exact ⟨p + 1, by omega, by go_num, by rw [HS.out], by rw [HO.out], (by first | rfl | trivial)⟩
                      case measure => simp [intOf]; try omega
                · obtain rfl : p = items.length := by omega
                  rw [List.take_length] at hsb htl ⊢
                  obtain ⟨s', rfl⟩ : ∃ s' : Nat, msym = (s' : Int) + 1 := ⟨(msym - 1).toNat, by have := hfq.1; simp only at this; omega⟩
                  have hs'k : s' < k := by have := hfq.2.1; simp only at this; omega
                  have hs'k2 : (s' : Int) < (k : Int) := by omega
                  have hyl : s' < Y.length := by rw [hY.len]; exact hs'k
                  have hcy : W.cell? ⟨O, s', none⟩ = some (.int .i64 Y[s']) := by rw [kOW.cell, nums_get hyl]
                  have hfz := kOW.frozen s'
                  have hget : Y.getD (((s' : Int) + 1) - 1).toNat (-1) = Y[s'] := by
                    rw [List.getD_eq_getElem?_getD, show ((s' : Int) + 1 - 1).toNat = s' by omega, List.getElem?_eq_getElem hyl]; rfl
                  have hyes := fun h1 h2 => relax_yes h12 hY hfq h1 h2
                  have hno := fun h => relax_no (out := Y) (m := ⟨(s' : Int) + 1, items, mcost⟩) h
                  simp only at hyes hno
                  rw [hget] at hyes hno
                  rw [show ((s' : Int) + 1 - 1).toNat = s' by omega] at hyes
                  have HYES := Lib.hid hyes
                  have HNO := Lib.hid hno
                  have hst := kOW.store s' (.int .i64 (sumL Y items))
                  rw [nums_set] at hst
                  have hvb := hY.le h12 (List.getElem_mem hyl)
                  obtain ⟨v, hv⟩ : ∃ v, v = Y[s'] := ⟨_, rfl⟩
                  obtain ⟨s, hs⟩ : ∃ s, s = sumL Y items := ⟨_, rfl⟩
                  obtain ⟨o, ho⟩ : ∃ o, o = okL Y items := ⟨_, rfl⟩
                  rw [← hv] at hcy HYES HNO hvb
                  rw [← hs] at hsb hst HYES HNO ⊢
                  rw [← ho] at HYES HNO ⊢
                  clear hv hs ho hget hyes hno
                  have hstb : Below w.heap.size w (W.setCell ⟨O, s', none⟩ (.int .i64 s)) := hbW.setCell (p := ⟨O, s', none⟩) hOw _
                  have hstg : Blk (W.setCell ⟨O, s', none⟩ (.int .i64 s)) w.heap.size 24 #[.int .i64 (k : Int), .int .i64 St, .slice (some ad) ms.length gcap, .int .i64 Ot, .int .i64 Mi, .int .i64 Ad, .int .i64 Sm] := kGW.far (p := ⟨O, s', none⟩) hOg _
                  cases o with
                  | false =>
                    have HN : Hid (Z = Y) := HZ.out.trans (HNO.out (fun h => by cases h.1))
                    clear HYES HNO hst
                    go_wp2_with fail
                    go_roundw
                    case rel => exact ⟨q + 1, by omega, by go_num, by rw [← HZe.out, HN.out], hbW, kGW, by rw [← HZe.out, HN.out]; exact kOW⟩
                    case measure => simp [intOf]; try omega
                  | true =>
                    by_cases hv0 : v < 0
                    · have hq2 : decide (v < 0) = true := decide_eq_true hv0
                      have HN : Hid (Z = Y.set s' s ∧ decide (Z ≠ X) = true) := by
                        obtain ⟨g1, g2⟩ := HYES.out rfl (.inl hv0)
                        exact ⟨HZ.out.trans g1, decide_eq_true (by rw [HZ.out]; exact HMV.out g2)⟩
                      clear HYES HNO
                      go_wp2_with fail
                      go_roundw
                      case rel => exact ⟨q + 1, by omega, by go_num, by rw [← HZe.out, HN.out.2], hstb, hstg, by rw [← HZe.out, HN.out.1]; exact hst⟩
                      case measure => simp [intOf]; try omega
                    · have hq2 : decide (v < 0) = false := decide_eq_false hv0
                      by_cases hlt5 : s < v
                      · have hq3 : decide (s < v) = true := decide_eq_true hlt5
                        have HN : Hid (Z = Y.set s' s ∧ decide (Z ≠ X) = true) := by
                          obtain ⟨g1, g2⟩ := HYES.out rfl (.inr hlt5)
                          exact ⟨HZ.out.trans g1, decide_eq_true (by rw [HZ.out]; exact HMV.out g2)⟩
                        clear HYES HNO
                        go_wp2_with fail
                        go_roundw
                        case rel => exact ⟨q + 1, by omega, by go_num, by rw [← HZe.out, HN.out.2], hstb, hstg, by rw [← HZe.out, HN.out.1]; exact hst⟩
                        case measure => simp [intOf]; try omega
                      · have hq3 : decide (s < v) = false := decide_eq_false hlt5
                        have HN : Hid (Z = Y) := HZ.out.trans (HNO.out (fun h => h.2.elim hv0 hlt5))
                        clear HYES HNO hst
                        go_wp2_with fail
                        go_roundw
                        case rel => exact ⟨q + 1, by omega, by go_num, by rw [← HZe.out, HN.out], hbW, kGW, by rw [← HZe.out, HN.out]; exact kOW⟩
                        case measure => simp [intOf]; try omega
            · obtain rfl : q = ms.length := by omega
              rw [List.take_length] at kO3 ⊢
              have hp := fold_pot h12 hX.len hX.bd hf
              have hr3 := readW_eq kO3
              have hcase : Hid (decide (ms.foldl relax X ≠ X) = false → ms.foldl relax X = X) := fun h => by simpa using h
              generalize hc : decide (ms.foldl relax X ≠ X) = c at hcase ⊢
              have HP : Hid (2 * pot (ms.foldl relax X) + vN (.bool c) < 2 * pot X + 1) := by
                show _ < _
                rcases hp with hp | hp
                · have : c = false := by rw [← hc]; simp [hp]
                  rw [hp, this]; simp [vN]
                · cases c <;> simp [vN] <;> omega
              have hst : Hid (c = false → rnd ms (iter ms (List.replicate k (-1)) (j + 1)) = iter ms (List.replicate k (-1)) (j + 1)) := fun h => by
                have e := hcase.out h
                have e1 : iter ms (List.replicate k (-1)) (j + 1) = X := by rw [hnext.out]; exact e
                rw [e1]
                exact e
              clear hc hcase hp
              go_wp2_with fail
              go_roundw
              case rel => exact ⟨j + 1, c, rfl, hst, hb3, kG3, by rw [hnext.out]; exact kO3⟩
              case measure =>
                rw [hr3, hrd]
                exact HP.out
end Go.Proofs.YtieclenlldjfjaaGreat
