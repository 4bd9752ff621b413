import Derived.Test.YtieclenlldjfjaaGreatR2
import Derived.Test.YtieclenlldjfjaaGreatM3
import Derived.Test.YtieclenlldjfjaaGreatS5
set_option linter.unusedSimpArgs false
set_option linter.unusedVariables false
/- The reference's Useless 18. -/
namespace Go.Proofs.YtieclenlldjfjaaGreat
open Go.RowKit

/-- what the reference's Useless hands back for a right grammar -/
def RetUse18 (N : Nat) (St : Int) (ms : List Mkg) (w : World) (e : Ending) (w' : World) : Prop :=
  ∃ L A c, e = .returned (.agg #[.slice A L.length c, .int .i64 0]) ∧ IsUseless N St ms L ∧ L.length ≤ N ∧ Ints w' w'.heap.size A L ∧ Below w.heap.size w w'

theorem info4 : (Tryz.prog.info? 4).map (fun i => (i.zero, i.size, i.bytes)) = some (some (.bool false), 1, 1) := by kernel_rfl
theorem falses (N : Nat) : madeCells #[.bool false] N = flags (List.replicate N false) := by
  apply Array.ext_getElem?
  intro i
  by_cases hi : i < N
  · simp [flags, madeCells, hi, Nat.mod_one]
  · simp [flags, madeCells, hi]

set_option maxRecDepth 100000 in
set_option maxHeartbeats 2000000 in
theorem refUseless18_ok (N s0 : Nat) (Ot Mi Ad Sm : Int) (A : Option Addr) (gcap : Nat) (ms : List Mkg) (w : World) (hN : GOk (N : Int) ((s0 : Int) + 1) Ot Mi Ad Sm ms N) (hG : Gr w w.heap.size A ms) (h : chkG (N : Int) ((s0 : Int) + 1) Ot Mi Ad Sm ms = 0) :
    Calls Tryz.prog 18 #[gv (N : Int) ((s0 : Int) + 1) (.slice A ms.length gcap) Ot Mi Ad Sm] w (RetUse18 N ((s0 : Int) + 1) ms w) := by
  have hC := Lib.hid fun W (hG : Gr W W.heap.size A ms) => refCheck_any (N : Int) ((s0 : Int) + 1) Ot Mi Ad Sm A gcap ms W hG
  have hS := Lib.hid fun W (hG : Gr W W.heap.size A ms) => refShortest_any N hN.n1 hN.n12 ((s0 : Int) + 1) Ot Mi Ad Sm A gcap ms W hN.len hN.fit hG
  rw [h] at hC
  have h1 := hN.n1
  have h12 := hN.n12
  have hml := hN.len
  have hf := Lib.hid hN.fit
  have hs0 : s0 < N := by have := hN.st2; omega
  have hs02 : (s0 : Int) < (N : Int) := by omega
  have hmk := run_make_row' (P := Tryz.prog) 109 4 (.bool false) 1 Tryz.underlying109 info4 rfl .i64 .i64 N (by omega) (by omega)
  clear hN h
  have hb0 : Below w.heap.size w ((w.alloc (.cells #[.int .i64 (N : Int), .int .i64 ((s0 : Int) + 1), .slice A ms.length gcap, .int .i64 Ot, .int .i64 Mi, .int .i64 Ad, .int .i64 Sm] 24)).alloc (.cells #[.slice none 0 0, .int .i64 0] 32)) := (below_new _ _).alloc (by simp) _
  have kR : Blk ((w.alloc (.cells #[.int .i64 (N : Int), .int .i64 ((s0 : Int) + 1), .slice A ms.length gcap, .int .i64 Ot, .int .i64 Mi, .int .i64 Ad, .int .i64 Sm] 24)).alloc (.cells #[.slice none 0 0, .int .i64 0] 32)) (w.heap.size + 1) 32 #[.slice none 0 0, .int .i64 0] := Blk.newAt (by simp)
  have kG : Blk ((w.alloc (.cells #[.int .i64 (N : Int), .int .i64 ((s0 : Int) + 1), .slice A ms.length gcap, .int .i64 Ot, .int .i64 Mi, .int .i64 Ad, .int .i64 Sm] 24)).alloc (.cells #[.slice none 0 0, .int .i64 0] 32)) w.heap.size 24 #[.int .i64 (N : Int), .int .i64 ((s0 : Int) + 1), .slice A ms.length gcap, .int .i64 Ot, .int .i64 Mi, .int .i64 Ad, .int .i64 Sm] := (Blk.new _ _ _).alloc _
  have hG1 := hG.behind hb0
  go_enter Tryz.func18, Tryz.ntmps18
  go_wp2_with (first
    | (go_at_call 26; refine (hC.out _ hG1).mono ?_; rintro e w1 ⟨rfl, hb1⟩; have hG2 := hG1.behind hb1; have kG1 := kG.below hb1 (by first | (simp; done) | (simp; omega) | omega); obtain ⟨a0, a1, a2, a3, a4, a5, a6⟩ : w1.cell? ⟨w.heap.size, 0, none⟩ = some (.int .i64 (N : Int)) ∧ w1.cell? ⟨w.heap.size, 1, none⟩ = some (.int .i64 ((s0 : Int) + 1)) ∧ w1.cell? ⟨w.heap.size, 2, none⟩ = some (.slice A ms.length gcap) ∧ w1.cell? ⟨w.heap.size, 3, none⟩ = some (.int .i64 Ot) ∧ w1.cell? ⟨w.heap.size, 4, none⟩ = some (.int .i64 Mi) ∧ w1.cell? ⟨w.heap.size, 5, none⟩ = some (.int .i64 Ad) ∧ w1.cell? ⟨w.heap.size, 6, none⟩ = some (.int .i64 Sm) := ⟨kG1.cell 0, kG1.cell 1, kG1.cell 2, kG1.cell 3, kG1.cell 4, kG1.cell 5, kG1.cell 6⟩)
    | (go_at_call 66; refine (hS.out _ hG2).mono ?_; rintro e w2 ⟨jx, gX, rfl, hst, hg, kX, hb2⟩; have kG2 := kG1.below hb2 kG1.lt; clear a0 a1 a2 a3 a4 a5 a6; obtain ⟨a0, a1, a2, a3, a4, a5, a6⟩ : w2.cell? ⟨w.heap.size, 0, none⟩ = some (.int .i64 (N : Int)) ∧ w2.cell? ⟨w.heap.size, 1, none⟩ = some (.int .i64 ((s0 : Int) + 1)) ∧ w2.cell? ⟨w.heap.size, 2, none⟩ = some (.slice A ms.length gcap) ∧ w2.cell? ⟨w.heap.size, 3, none⟩ = some (.int .i64 Ot) ∧ w2.cell? ⟨w.heap.size, 4, none⟩ = some (.int .i64 Mi) ∧ w2.cell? ⟨w.heap.size, 5, none⟩ = some (.int .i64 Ad) ∧ w2.cell? ⟨w.heap.size, 6, none⟩ = some (.int .i64 Sm) := ⟨kG2.cell 0, kG2.cell 1, kG2.cell 2, kG2.cell 3, kG2.cell 4, kG2.cell 5, kG2.cell 6⟩))
  have hbw2 := below_next (below_next hb0 hb0.size hb1) (below_next hb0 hb0.size hb1).size hb2
  have kR2 := (kR.below hb1 (by first | (simp; done) | (simp; omega) | omega)).below hb2 (by have := (kR.below hb1 (by first | (simp; done) | (simp; omega) | omega)).lt; exact this)
  have hG3 := hG2.behind hb2
  have hlX := kX.lt
  have hlG := kG2.lt
  have hlR := kR2.lt
  have hsz1 := hb1.size
  have hgX : w.heap.size + 1 < gX := by simp at hsz1; omega
  obtain ⟨X, hX⟩ : ∃ X, X = iter ms (List.replicate N (-1)) jx := ⟨_, rfl⟩
  have hXok : StOk N X := by rw [hX]; exact (StOk.start N).iter hf.out jx
  rw [← hX] at kX
  have HX := Lib.hid hX
  have HST := Lib.hid hst
  clear hX hst hb2 hb1 kG1 hG1 hG2 kG kR hC hS hb0 a0 a1 a2 a3 a4 a5 a6 hsz1
  have hbw3 : Below w.heap.size w (w2.alloc (.cells (madeCells #[.bool false] N) 4)) := hbw2.alloc hbw2.size _
  have kG3 : Blk (w2.alloc (.cells (madeCells #[.bool false] N) 4)) w.heap.size 24 #[.int .i64 (N : Int), .int .i64 ((s0 : Int) + 1), .slice A ms.length gcap, .int .i64 Ot, .int .i64 Mi, .int .i64 Ad, .int .i64 Sm] := kG2.alloc _
  have kR3 : Blk (w2.alloc (.cells (madeCells #[.bool false] N) 4)) (w.heap.size + 1) 32 #[.slice none 0 0, .int .i64 0] := kR2.alloc _
  have kX3 : Blk (w2.alloc (.cells (madeCells #[.bool false] N) 4)) gX 3 (nums X) := kX.alloc _
  have kU3 : Blk (w2.alloc (.cells (madeCells #[.bool false] N) 4)) w2.heap.size 4 (flags (List.replicate N false)) := by rw [← falses]; exact Blk.new _ _ _
  obtain ⟨W3, hW3⟩ : ∃ W3, W3 = w2.alloc (.cells (madeCells #[.bool false] N) 4) := ⟨_, rfl⟩
  obtain ⟨U, hU⟩ : ∃ U, U = w2.heap.size := ⟨_, rfl⟩
  rw [← hW3] at hbw3 kG3 kR3 kX3 kU3 ⊢
  rw [← hU] at kU3 hlX hlG hlR ⊢
  clear hW3 hU hbw2 kG2 kR2 kX hG3
  have hXl : s0 < X.length := by rw [hXok.len]; exact hs0
  have cX : W3.cell? ⟨gX, s0, none⟩ = some (.int .i64 X[s0]) := by rw [kX3.cell, nums_get hXl]
  have cU : W3.cell? ⟨U, s0, none⟩ = some (.bool false) := by rw [kU3.cell, flags_get (by simpa using hs0)]; simp
  have fU := kU3.frozen s0
  have cS : W3.cell? ⟨w.heap.size, 1, none⟩ = some (.int .i64 ((s0 : Int) + 1)) := kG3.cell 1
  have hst4 := kU3.store s0 (.bool (decide (0 ≤ X[s0])))
  rw [flags_set] at hst4
  have hu0 : (List.replicate N false).set s0 (decide (0 ≤ X[s0])) = use0 N X ((s0 : Int) + 1) := by
    unfold use0
    rw [show ((s0 : Int) + 1 - 1).toNat = s0 by omega, List.getD_eq_getElem?_getD, List.getElem?_eq_getElem hXl]; rfl
  rw [hu0] at hst4
  obtain ⟨x0, hx0⟩ : ∃ x0, x0 = X[s0] := ⟨_, rfl⟩
  rw [← hx0] at cX hst4
  clear hx0 hu0
  have hUw : w.heap.size ≤ U := by omega
  have hUg : w.heap.size ≠ U := by omega
  have hUr : w.heap.size + 1 ≠ U := by omega
  have hUx : gX ≠ U := by omega
  have hb4 : Below w.heap.size w (W3.drew.setCell ⟨U, s0, none⟩ (.bool (decide (0 ≤ x0)))) := hbw3.drew.setCell (p := ⟨U, s0, none⟩) hUw _
  have kG4 : Blk (W3.drew.setCell ⟨U, s0, none⟩ (.bool (decide (0 ≤ x0)))) w.heap.size 24 #[.int .i64 (N : Int), .int .i64 ((s0 : Int) + 1), .slice A ms.length gcap, .int .i64 Ot, .int .i64 Mi, .int .i64 Ad, .int .i64 Sm] := (show Blk W3.drew w.heap.size 24 _ from kG3).far (p := ⟨U, s0, none⟩) hUg _
  have kR4 : Blk (W3.drew.setCell ⟨U, s0, none⟩ (.bool (decide (0 ≤ x0)))) (w.heap.size + 1) 32 #[.slice none 0 0, .int .i64 0] := (show Blk W3.drew (w.heap.size + 1) 32 _ from kR3).far (p := ⟨U, s0, none⟩) hUr _
  have kX4 : Blk (W3.drew.setCell ⟨U, s0, none⟩ (.bool (decide (0 ≤ x0)))) gX 3 (nums X) := (show Blk W3.drew gX 3 _ from kX3).far (p := ⟨U, s0, none⟩) hUx _
  have kU4 : Blk (W3.drew.setCell ⟨U, s0, none⟩ (.bool (decide (0 ≤ x0)))) U 4 (flags (use0 N X ((s0 : Int) + 1))) := hst4
  have hul : (use0 N X ((s0 : Int) + 1)).length = N := by simp [use0]
  go_region
  go_wp2_with fail
  clear hbw3 kG3 kR3 kX3 kU3 hst4 cX cU fU cS hXl hmk
  obtain ⟨u0, hu0⟩ : ∃ u0, u0 = use0 N X ((s0 : Int) + 1) := ⟨_, rfl⟩
  rw [← hu0] at kU4 hul
  have HU0 := Lib.hid hu0
  clear hu0
  go_loopw [6] (fun b w3 => ∃ (j : Nat) (c : Bool), b = .bool c ∧ Hid (c = false → useR X ms (useI X ms u0 j) = useI X ms u0 j) ∧ Below w.heap.size w w3 ∧ Blk w3 w.heap.size 24 #[.int .i64 (N : Int), .int .i64 ((s0 : Int) + 1), .slice A ms.length gcap, .int .i64 Ot, .int .i64 Mi, .int .i64 Ad, .int .i64 Sm] ∧ Blk w3 (w.heap.size + 1) 32 #[.slice none 0 0, .int .i64 0] ∧ Blk w3 gX 3 (nums X) ∧ Blk w3 U 4 (flags (useI X ms u0 j)))
    (fun b w3 => 2 * open_ (readF U w3) + vN b)
  case atStart => exact ⟨0, true, rfl, (fun h => by cases h), hb4, kG4, kR4, kX4, kU4⟩
  case round =>
    obtain ⟨j, c, rfl, hstab, hb5, kG5, kR5, kX5, kU5⟩ := hrel
    cases c with
    | true =>
      have hVl : (useI X ms u0 j).length = N := by rw [useI_len, hul]
      have hnext : Hid (useI X ms u0 (j + 1) = ms.foldl (useM X) (useI X ms u0 j)) := rfl
      obtain ⟨V, hVe⟩ : ∃ V, V = useI X ms u0 j := ⟨_, rfl⟩
      rw [← hVe] at hVl hnext kU5
      have hrd := readF_eq kU5
      clear hstab hVe
      go_wp2_with fail
      go_loopw [6, 7] (fun b i w4 => ∃ q : Nat, q ≤ ms.length ∧ i = .int .i64 q ∧ b = .bool (decide ((ms.take q).foldl (useM X) V ≠ V)) ∧ Below w.heap.size w w4 ∧ Blk w4 w.heap.size 24 #[.int .i64 (N : Int), .int .i64 ((s0 : Int) + 1), .slice A ms.length gcap, .int .i64 Ot, .int .i64 Mi, .int .i64 Ad, .int .i64 Sm] ∧ Blk w4 (w.heap.size + 1) 32 #[.slice none 0 0, .int .i64 0] ∧ Blk w4 gX 3 (nums X) ∧ Blk w4 U 4 (flags ((ms.take q).foldl (useM X) V)))
        (fun _ i _ => ms.length - (intOf i).toNat)
      case atStart => exact ⟨0, Nat.zero_le _, rfl, by simp, hb5, kG5, kR5, kX5, kU5⟩
      case round =>
        obtain ⟨q, hq, rfl, rfl, hb6, kG6, kR6, kX6, kU6⟩ := hrel
        have a2 : wr.cell? ⟨w.heap.size, 2, none⟩ = some (.slice A ms.length gcap) := kG6.cell 2
        by_cases hqlt : q < ms.length
        · obtain ⟨ad, rfl, hB, m0, ⟨IA, icap, m1, n1, n2, hI⟩, m2⟩ := (hG.below hb6).get hqlt
          have hll3 : (q : Int) < (ms.length : Int) := by omega
          have hfq : Fit N ms[q] := hf.out _ (List.getElem_mem hqlt)
          have hnx : (ms.take (q + 1)).foldl (useM X) V = useM X ((ms.take q).foldl (useM X) V) ms[q] := by rw [List.take_succ_eq_append_getElem hqlt, List.foldl_append]; rfl
          have hYl : ((ms.take q).foldl (useM X) V).length = N := by rw [useR_len, hVl]
          have hle := (useM_down X).le (ms.take q) V
          obtain ⟨Y, hYe⟩ : ∃ Y, Y = (ms.take q).foldl (useM X) V := ⟨_, rfl⟩
          obtain ⟨Z, hZe⟩ : ∃ Z, Z = (ms.take (q + 1)).foldl (useM X) V := ⟨_, rfl⟩
          rw [← hZe, ← hYe] at hnx
          rw [← hYe] at hYl hle kU6 ⊢
          obtain ⟨mq, hmq⟩ : ∃ mq, mq = ms[q] := ⟨_, rfl⟩
          rw [← hmq] at m0 m1 m2 n1 hI hfq hnx
          have HZ := Lib.hid hnx
          have HZe := Lib.hid hZe
          clear hYe hZe hnx hmq
          obtain ⟨msym, items, mcost⟩ := mq
          simp only at m0 m1 m2 n1 hI
          have hil : items.length ≤ 3 := hfq.2.2.1
          obtain ⟨s', rfl⟩ : ∃ s' : Nat, msym = (s' : Int) + 1 := ⟨(msym - 1).toNat, by have := hfq.1; simp only at this; omega⟩
          have hs'k : s' < N := by have := hfq.2.1; simp only at this; omega
          have hs'k2 : (s' : Int) < (N : Int) := by omega
          have hwG := kG6.lt
          have hwR := kR6.lt
          have hwX := kX6.lt
          have hwU := kU6.lt
          have hbW : Below w.heap.size w (wr.alloc (.cells #[.int .i64 ((s' : Int) + 1), .slice IA items.length icap, .int .i64 mcost] 105)) := hb6.alloc hb6.size _
          have kGW : Blk (wr.alloc (.cells #[.int .i64 ((s' : Int) + 1), .slice IA items.length icap, .int .i64 mcost] 105)) w.heap.size 24 #[.int .i64 (N : Int), .int .i64 ((s0 : Int) + 1), .slice (some ad) ms.length gcap, .int .i64 Ot, .int .i64 Mi, .int .i64 Ad, .int .i64 Sm] := kG6.alloc _
          have kRW : Blk (wr.alloc (.cells #[.int .i64 ((s' : Int) + 1), .slice IA items.length icap, .int .i64 mcost] 105)) (w.heap.size + 1) 32 #[.slice none 0 0, .int .i64 0] := kR6.alloc _
          have kXW : Blk (wr.alloc (.cells #[.int .i64 ((s' : Int) + 1), .slice IA items.length icap, .int .i64 mcost] 105)) gX 3 (nums X) := kX6.alloc _
          have kUW : Blk (wr.alloc (.cells #[.int .i64 ((s' : Int) + 1), .slice IA items.length icap, .int .i64 mcost] 105)) U 4 (flags Y) := kU6.alloc _
          have kM : Blk (wr.alloc (.cells #[.int .i64 ((s' : Int) + 1), .slice IA items.length icap, .int .i64 mcost] 105)) wr.heap.size 105 #[.int .i64 ((s' : Int) + 1), .slice IA items.length icap, .int .i64 mcost] := Blk.new _ _ _
          have hIW : Ints (wr.alloc (.cells #[.int .i64 ((s' : Int) + 1), .slice IA items.length icap, .int .i64 mcost] 105)) w.heap.size IA items := hI.alloc hb6.size _
          have hyl : s' < Y.length := by omega
          have cUs : (wr.alloc (.cells #[.int .i64 ((s' : Int) + 1), .slice IA items.length icap, .int .i64 mcost] 105)).cell? ⟨U, s', none⟩ = some (.bool Y[s']) := by rw [kUW.cell, flags_get hyl]
          have hgd : Y.getD ((s' : Int) + 1 - 1).toNat false = Y[s'] := by rw [show ((s' : Int) + 1 - 1).toNat = s' by omega, List.getD_eq_getElem?_getD, List.getElem?_eq_getElem hyl]; rfl
          obtain ⟨b0, hb0e⟩ : ∃ b0, b0 = Y[s'] := ⟨_, rfl⟩
          rw [← hb0e] at cUs hgd
          have HGD := Lib.hid hgd
          clear hb0e hgd
          go_wp2_with fail
          obtain ⟨W, hW⟩ : ∃ W, W = wr.alloc (.cells #[.int .i64 ((s' : Int) + 1), .slice IA items.length icap, .int .i64 mcost] 105) := ⟨_, rfl⟩
          obtain ⟨M, hM⟩ : ∃ M, M = wr.heap.size := ⟨_, rfl⟩
          rw [← hW] at hbW kGW kRW kXW kUW kM hIW ⊢
          rw [← hM] at kM hwG hwR hwX hwU ⊢
          clear hW hM hI hb6 kG6 kR6 kX6 kU6 m0 m1 m2 cUs
          have hMG : w.heap.size ≠ M := by omega
          have hMU : U ≠ M := by omega
          go_loopw [9, 10] (fun al i w4 => ∃ p : Nat, p ≤ items.length ∧ i = .int .i64 p ∧ al = .bool (b0 && okL X (items.take p)) ∧ W = w4)
            (fun _ i _ => items.length - (intOf i).toNat)
          case atStart => exact ⟨0, Nat.zero_le _, rfl, by simp [okL], (by first | rfl | trivial)⟩
          case round =>
            obtain ⟨p, hp, rfl, rfl, rfl⟩ := hrel
            have e1 : W.cell? ⟨M, 1, none⟩ = some (.slice IA items.length icap) := kM.cell 1
            by_cases hplt : p < items.length
            · have hll4 : (p : Int) < (items.length : Int) := by omega
              obtain ⟨ai, rfl, hBi, hci⟩ := hIW.get hplt
              have HO : Hid ((b0 && okL X (items.take (p + 1))) = ((b0 && okL X (items.take p)) && decide (0 ≤ val X items[p]))) := by show _ = _; rw [ok_next hplt, Bool.and_assoc]
              have hxf := hfq.2.2.2 _ (List.getElem_mem hplt)
              obtain ⟨x, hx⟩ : ∃ x, x = items[p] := ⟨_, rfl⟩
              rw [← hx] at hci HO hxf
              clear hx
              obtain ⟨o, ho⟩ : ∃ o, o = (b0 && okL X (items.take p)) := ⟨_, rfl⟩
              rw [← ho] at HO ⊢
              clear ho
              cases o with
              | false =>
                rw [Bool.false_and] at HO
                go_wp2_with fail
                go_roundw
                case rel => exact ⟨p + 1, by omega, by go_num, by rw [HO.out], (by first | rfl | trivial)⟩
                case measure => simp [intOf]; try omega
              | true =>
                rw [Bool.true_and] at HO
                by_cases hneg : x < 0
                · have hv : val X x = 1 := if_pos hneg
                  rw [hv] at HO
                  have hq1 : decide (x < 0) = true := decide_eq_true hneg
                  clear hv hneg hxf
                  go_wp2_with fail
                  go_roundw
                  case rel => exact ⟨p + 1, by omega, by go_num, by rw [HO.out]; rfl, (by first | rfl | trivial)⟩
                  case measure => simp [intOf]; try omega
                · have hq1 : decide (x < 0) = false := decide_eq_false hneg
                  obtain ⟨x', rfl⟩ : ∃ x' : Nat, x = (x' : Int) + 1 := ⟨(x - 1).toNat, by omega⟩
                  have hx'k : x' < N := by omega
                  have hxl : x' < X.length := by rw [hXok.len]; exact hx'k
                  have hx'k2 : (x' : Int) < (N : Int) := by omega
                  have hv : val X ((x' : Int) + 1) = X[x'] := by
                    unfold val
                    rw [if_neg (by omega), List.getD_eq_getElem?_getD, show ((x' : Int) + 1 - 1).toNat = x' by omega, List.getElem?_eq_getElem hxl]
                    rfl
                  rw [hv] at HO
                  have hcy : W.cell? ⟨gX, x', none⟩ = some (.int .i64 X[x']) := by rw [kXW.cell, nums_get hxl]
                  generalize X[x'] = v at HO hcy
                  clear hv hneg hxf
                  by_cases hv0 : 0 ≤ v
                  · have hq2 : decide (0 ≤ v) = true := decide_eq_true hv0
                    rw [hq2] at HO
                    go_wp2_with fail
                    go_roundw
                    case rel => exact ⟨p + 1, by omega, by go_num, by rw [HO.out], (by first | rfl | trivial)⟩
                    case measure => simp [intOf]; try omega
                  · have hq2 : decide (0 ≤ v) = false := decide_eq_false hv0
                    rw [hq2] at HO
                    go_wp2_with fail
                    go_roundw
                    case rel => exact ⟨p + 1, by omega, by go_num, by rw [HO.out], (by first | rfl | trivial)⟩
                    case measure => simp [intOf]; try omega
            · obtain rfl : p = items.length := by omega
              rw [List.take_length]
              obtain ⟨a, hae⟩ : ∃ a, a = (b0 && okL X items) := ⟨_, rfl⟩
              rw [← hae]
              have HZ2 : Hid (Z = if a = true then items.foldl mark Y else Y) := by
                show _ = _
                have := HZ.out
                unfold useM at this
                simp only at this
                rw [HGD.out] at this
                rw [this, hae]
                cases b0 <;> cases okL X items <;> rfl
              clear hae HZ HGD
              go_wp2_with fail
              go_loopw [6, 11] (fun b i w5 => ∃ p : Nat, p ≤ items.length ∧ i = .int .i64 p ∧ (a = false → p = 0) ∧ b = .bool (decide ((items.take p).foldl mark Y ≠ V)) ∧ Below w.heap.size w w5 ∧ Blk w5 w.heap.size 24 #[.int .i64 (N : Int), .int .i64 ((s0 : Int) + 1), .slice (some ad) ms.length gcap, .int .i64 Ot, .int .i64 Mi, .int .i64 Ad, .int .i64 Sm] ∧ Blk w5 (w.heap.size + 1) 32 #[.slice none 0 0, .int .i64 0] ∧ Blk w5 gX 3 (nums X) ∧ Blk w5 M 105 #[.int .i64 ((s' : Int) + 1), .slice IA items.length icap, .int .i64 mcost] ∧ Blk w5 U 4 (flags ((items.take p).foldl mark Y)))
                (fun _ i _ => items.length - (intOf i).toNat)
              case atStart => exact ⟨0, Nat.zero_le _, rfl, fun _ => rfl, rfl, hbW, kGW, kRW, kXW, kM, kUW⟩
              case round =>
                obtain ⟨p, hp, rfl, hap, rfl, hb7, kG7, kR7, kX7, kM7, kU7⟩ := hrel
                have e1 : wr.cell? ⟨M, 1, none⟩ = some (.slice IA items.length icap) := kM7.cell 1
                by_cases hplt : p < items.length
                · have hll4 : (p : Int) < (items.length : Int) := by omega
                  have hll5 : decide ((p : Int) < (items.length : Int)) = true := decide_eq_true hll4
                  cases a with
                  | false =>
                    have hp0 := hap rfl
                    subst hp0
                    have HZ3 : Hid (Z = (items.take 0).foldl mark Y) := by show _ = _; rw [HZ2.out]; rfl
                    clear hap HZ2
                    obtain ⟨T, hT⟩ : ∃ T, T = (items.take 0).foldl mark Y := ⟨_, rfl⟩
                    rw [← hT] at HZ3 kU7 ⊢
                    clear hT
                    go_wp2_with fail
                    go_roundw
                    case rel => exact ⟨q + 1, by omega, by go_num, by rw [← HZe.out, HZ3.out], hb7, kG7, kR7, kX7, by rw [← HZe.out, HZ3.out]; exact kU7⟩
                    case measure => simp [intOf]; try omega
                  | true =>
                    have hI7 : Ints wr w.heap.size IA items := hIW.moved (fun p hp => (hb7.cell hp).trans (hbW.cell hp).symm)
                    obtain ⟨ai, rfl, hBi, hci⟩ := hI7.get hplt
                    have hnx : (items.take (p + 1)).foldl mark Y = mark ((items.take p).foldl mark Y) items[p] := by rw [List.take_succ_eq_append_getElem hplt, List.foldl_append]; rfl
                    have hxf := hfq.2.2.2 _ (List.getElem_mem hplt)
                    have hTl : ((items.take p).foldl mark Y).length = N := by rw [marks_len, hYl]
                    have hleT := mark_down.le (items.take p) Y
                    obtain ⟨x, hx⟩ : ∃ x, x = items[p] := ⟨_, rfl⟩
                    obtain ⟨T, hT⟩ : ∃ T, T = (items.take p).foldl mark Y := ⟨_, rfl⟩
                    obtain ⟨T2, hT2⟩ : ∃ T2, T2 = (items.take (p + 1)).foldl mark Y := ⟨_, rfl⟩
                    rw [← hx] at hci hxf hnx
                    rw [← hT2, ← hT] at hnx
                    rw [← hT] at hTl hleT kU7 ⊢
                    have HT2 := Lib.hid hT2
                    clear hx hT hT2 hap
                    by_cases hpos : 0 < x
                    · have hq1 : decide (0 < x) = true := decide_eq_true hpos
                      obtain ⟨x', rfl⟩ : ∃ x' : Nat, x = (x' : Int) + 1 := ⟨(x - 1).toNat, by omega⟩
                      have hx'k : x' < N := by omega
                      have hxl : x' < T.length := by omega
                      have hx'k2 : (x' : Int) < (N : Int) := by omega
                      have hcy : wr.cell? ⟨U, x', none⟩ = some (.bool T[x']) := by rw [kU7.cell, flags_get hxl]
                      have hgd : T.getD ((x' : Int) + 1 - 1).toNat true = T[x'] := by rw [show ((x' : Int) + 1 - 1).toNat = x' by omega, List.getD_eq_getElem?_getD, List.getElem?_eq_getElem hxl]; rfl
                      cases hv : T[x'] with
                      | true =>
                        rw [hv] at hcy hgd
                        have HN : Hid (T2 = T) := hnx.trans (mark_no (fun h => by rw [hgd] at h; cases h.2))
                        clear hnx hgd hv hpos hxf
                        go_wp2_with fail
                        go_roundw
                        case rel => exact ⟨p + 1, by omega, by go_num, (fun h => by cases h), by rw [← HT2.out, HN.out], hb7, kG7, kR7, kX7, kM7, by rw [← HT2.out, HN.out]; exact kU7⟩
                        case measure => simp [intOf]; try omega
                      | false =>
                        rw [hv] at hcy hgd
                        obtain ⟨g1, g2⟩ := mark_yes hpos hgd
                        rw [show ((x' : Int) + 1 - 1).toNat = x' by omega] at g1
                        have HN : Hid (T2 = T.set x' true) := hnx.trans g1
                        have HD : Hid (decide (T2 ≠ V) = true) := decide_eq_true (fun e => by rw [← hnx, e] at g2; omega)
                        have fzU := kU7.frozen x'
                        have kU8 := kU7.store x' (.bool true)
                        rw [flags_set] at kU8
                        have hb8 : Below w.heap.size w (wr.setCell ⟨U, x', none⟩ (.bool true)) := hb7.setCell (p := ⟨U, x', none⟩) hUw _
                        have kG8 := kG7.far (p := ⟨U, x', none⟩) hUg (.bool true)
                        have kR8 := kR7.far (p := ⟨U, x', none⟩) hUr (.bool true)
                        have kX8 := kX7.far (p := ⟨U, x', none⟩) hUx (.bool true)
                        have kM8 := kM7.far (p := ⟨U, x', none⟩) (Ne.symm hMU) (.bool true)
                        clear hnx hgd hv hpos hxf g1 g2
                        go_wp2_with fail
                        go_roundw
                        case rel => exact ⟨p + 1, by omega, by go_num, (fun h => by cases h), by rw [← HT2.out, HD.out], hb8, kG8, kR8, kX8, kM8, by rw [← HT2.out, HN.out]; exact kU8⟩
                        case measure => simp [intOf]; try omega
                    · have hq1 : decide (0 < x) = false := decide_eq_false hpos
                      have HN : Hid (T2 = T) := hnx.trans (mark_no (fun h => hpos h.1))
                      clear hnx hpos hxf
                      go_wp2_with fail
                      go_roundw
                      case rel => exact ⟨p + 1, by omega, by go_num, (fun h => by cases h), by rw [← HT2.out, HN.out], hb7, kG7, kR7, kX7, kM7, by rw [← HT2.out, HN.out]; exact kU7⟩
                      case measure => simp [intOf]; try omega
                · obtain rfl : p = items.length := by omega
                  have HZ3 : Hid (Z = (items.take items.length).foldl mark Y) := by
                    show _ = _
                    rw [HZ2.out, List.take_length]
                    cases a with
                    | true => rfl
                    | false =>
                      have := hap rfl
                      have : items = [] := List.eq_nil_of_length_eq_zero this
                      subst this
                      rfl
                  clear hap HZ2
                  obtain ⟨T, hT⟩ : ∃ T, T = (items.take items.length).foldl mark Y := ⟨_, rfl⟩
                  rw [← hT] at HZ3 kU7 ⊢
                  clear hT
                  go_wp2_with fail
                  go_roundw
                  case rel => exact ⟨q + 1, by omega, by go_num, by rw [← HZe.out, HZ3.out], hb7, kG7, kR7, kX7, by rw [← HZe.out, HZ3.out]; exact kU7⟩
                  case measure => simp [intOf]; try omega
        · obtain rfl : q = ms.length := by omega
          rw [List.take_length] at kU6 ⊢
          have hp := (useM_down X).fold ms V
          have hr3 := readF_eq kU6
          have hcase : Hid (decide (ms.foldl (useM X) V ≠ V) = false → ms.foldl (useM X) V = V) := fun h => by simpa using h
          generalize hc : decide (ms.foldl (useM X) V ≠ V) = c at hcase ⊢
          have HP : Hid (2 * open_ (ms.foldl (useM X) V) + vN (.bool c) < 2 * open_ V + 1) := by
            show _ < _
            rcases hp with hp | hp
            · have : c = false := by rw [← hc]; simp [hp]
              rw [hp, this]; simp [vN]
            · cases c <;> simp [vN] <;> omega
          have hstb : Hid (c = false → useR X ms (useI X ms u0 (j + 1)) = useI X ms u0 (j + 1)) := fun h => by
            have e := hcase.out h
            have e1 : useI X ms u0 (j + 1) = V := by rw [hnext.out]; exact e
            rw [e1]
            exact e
          clear hc hcase hp
          go_wp2_with fail
          go_roundw
          case rel => exact ⟨j + 1, c, rfl, hstb, hb6, kG6, kR6, kX6, by rw [hnext.out]; exact kU6⟩
          case measure =>
            rw [hr3, hrd]
            exact HP.out
    | false =>
      have hstu := Lib.hid (hstab.out rfl)
      obtain ⟨u, hue⟩ : ∃ u, u = useI X ms u0 j := ⟨_, rfl⟩
      have hul2 : u.length = N := by rw [hue, useI_len, hul]
      rw [← hue] at hstu kU5
      have HUS : Hid (∀ L, L = openTo u N → IsUseless N ((s0 : Int) + 1) ms L) := fun L hL => by
        refine ⟨jx, j, HST.out, ?_, ?_⟩
        · rw [← HX.out, ← HU0.out, ← hue]; exact hstu.out
        · rw [← HX.out, ← HU0.out, ← hue]; exact hL
      have hszr := hb5.size
      clear hstab hue
      go_wp2_with fail
      obtain ⟨Bs, hBs⟩ : ∃ Bs, Bs = wr.heap.size := ⟨_, rfl⟩
      have hb5' : Below Bs wr wr := Below.refl _ _
      have hRl := kR5.lt
      have hUl := kU5.lt
      have hGl := kG5.lt
      have hBle : Bs ≤ wr.heap.size := by omega
      rw [← hBs] at hRl hUl hGl hszr
      clear hBs
      go_loopw [12, 13] (fun v i w5 => ∃ k : Nat, ∃ A c, k ≤ N ∧ i = .int .i64 ((k : Int) + 1) ∧ v = .slice A (openTo u k).length c ∧ Below Bs wr w5 ∧ w5.ownsRow Bs 3 1 (.slice A (openTo u k).length c) (openTo u k).length ((openTo u k).map (Value.int .i64)))
        (fun _ i _ => N + 1 - (intOf i).toNat)
      case atStart => exact ⟨0, none, 0, by omega, rfl, rfl, hb5', World.ownsRow_nil _ _ _ _⟩
      case round =>
        obtain ⟨k, A', c, hk, rfl, rfl, hb6, hown⟩ := hrel
        have kG6 := kG5.below hb6 hGl
        have kR6 := kR5.below hb6 hRl
        have kU6 := kU5.below hb6 hUl
        have b0 : wr.cell? ⟨w.heap.size, 0, none⟩ = some (.int .i64 (N : Int)) := kG6.cell 0
        have hszb : Bs ≤ wr.heap.size := by have := hb6.size; omega
        have hol := openTo_len u k
        by_cases hlt : k < N
        · have hku : k < u.length := by omega
          have q1 : decide ((k : Int) + 1 ≤ (N : Int)) = true := decide_eq_true (by omega)
          have q2 : (k : Int) < (N : Int) := by omega
          have bU : wr.cell? ⟨U, k, none⟩ = some (.bool u[k]) := by rw [kU6.cell, flags_get hku]
          have hgd : u.getD k true = u[k] := by rw [List.getD_eq_getElem?_getD, List.getElem?_eq_getElem hku]; rfl
          cases hv : u[k] with
          | false =>
            rw [hv] at bU hgd
            have HY := Lib.hid (openTo_yes hgd)
            clear hgd hv
            go_wp2_with (at_builtin; refine app1 (by rfl) _ _ (by rfl) Bs (openTo u k) ((k : Int) + 1) _ (by rfl) hown (by rfl) (by omega) hszb ?_; intro A2 c2 w6 hown1 hb7)
            go_roundw
            case rel => exact ⟨k + 1, A2, c2, by omega, by go_num, by rw [HY.out]; simp, hb6.trans hb7, by rw [HY.out]; exact hown1⟩
            case measure => simp [intOf]; try omega
          | true =>
            rw [hv] at bU hgd
            have HY := Lib.hid (openTo_no hgd)
            clear hgd hv
            go_wp2_with fail
            go_roundw
            case rel => exact ⟨k + 1, A', c, by omega, by go_num, by rw [HY.out], hb6, by rw [HY.out]; exact hown⟩
            case measure => simp [intOf]; try omega
        · obtain rfl : k = N := by omega
          have q1 : decide ((k : Int) + 1 ≤ (k : Int)) = false := decide_eq_false (by omega)
          have q2 : ¬ (k : Int) + 1 ≤ (k : Int) := by omega
          obtain ⟨c0, c1, f0, f1⟩ : wr.cell? ⟨w.heap.size + 1, 0, none⟩ = some (.slice none 0 0) ∧ wr.cell? ⟨w.heap.size + 1, 1, none⟩ = some (.int .i64 0) ∧ wr.frozen? ⟨w.heap.size + 1, 0, none⟩ = false ∧ wr.frozen? ⟨w.heap.size + 1, 1, none⟩ = false := ⟨kR6.cell 0, kR6.cell 1, kR6.frozen 0, kR6.frozen 1⟩
          have HUL := HUS.out _ rfl
          have hI := ints_far hown
          obtain ⟨A2, c2, e1, e2, e3⟩ := own_form hown
          cases e1
          generalize openTo u k = L at hown HUL hI e2 hol ⊢
          have hbw6 := hb5.trans (hb6.mono hszr)
          go_wp2_with fail
          refine bodyPost_ret (v := .agg #[.slice A' L.length c, .int .i64 0]) (results_cell_row (g := w.heap.size + 1) rfl _ _ 32 _ (0, 0) _ rfl ((kR6.store 0 (.slice A' L.length c)).store 1 (.int .i64 0)) Tryz.underlying32 rfl info32) rfl ?_
          exact ⟨L, A', c, rfl, HUL, hol, hI _ (fun p hp => (World.cell?_setCell_far _ ⟨w.heap.size + 1, 1, none⟩ p _ (by show w.heap.size + 1 ≠ p.block; omega)).trans (World.cell?_setCell_far _ ⟨w.heap.size + 1, 0, none⟩ p _ (by show w.heap.size + 1 ≠ p.block; omega))) (by simp), (hbw6.setCell (p := ⟨w.heap.size + 1, 0, none⟩) (by simp) _).setCell (p := ⟨w.heap.size + 1, 1, none⟩) (by simp) _⟩
end Go.Proofs.YtieclenlldjfjaaGreat
