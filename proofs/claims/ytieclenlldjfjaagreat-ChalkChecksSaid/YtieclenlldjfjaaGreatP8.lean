import Derived.Test.YtieclenlldjfjaaGreatP7
import Derived.Test.YtieclenlldjfjaaGreatP6
set_option linter.unusedSimpArgs false
set_option linter.unusedVariables false
/- useful 65. -/
namespace Go.Proofs.YtieclenlldjfjaaGreat
open Go.RowKit

/-- what useful hands back -/
def RetUseP (N : Nat) (St : Int) (ms : List Mkg) (w : World) (e : Ending) (w' : World) : Prop :=
  ∃ j i, e = .returned (.agg (flags (bOf N (useI (iter ms (List.replicate N (-1)) j) ms (use0 N (iter ms (List.replicate N (-1)) j) St) i)))) ∧ rnd ms (iter ms (List.replicate N (-1)) j) = iter ms (List.replicate N (-1)) j ∧
    useR (iter ms (List.replicate N (-1)) j) ms (useI (iter ms (List.replicate N (-1)) j) ms (use0 N (iter ms (List.replicate N (-1)) j) St) i) = useI (iter ms (List.replicate N (-1)) j) ms (use0 N (iter ms (List.replicate N (-1)) j) St) i ∧ Below w.heap.size w w'

/-- a whole array loaded where a guard lets it -/
theorem ldC {ops : Array Oper} {rest : List Oper} {o : Oper} {a : Act} {w : World} {Q : Exit → Act → World → Prop} (hgd : Region.wanted o (yielded ops a.tmps) = true) (x : Operand) (ho : o.op = .load 111 x)
    {g : Nat} (hx : a.eval x = .pointer (some ⟨g, 0, none⟩)) {c : List Int} (hc : c.length = 13) (hB : Blk w g 111 (nums c))
    (h : wpList Tryz.prog ops Q rest (a.put o.dst (.agg (nums c))) w) : wpList Tryz.prog ops Q (o :: rest) a w :=
  wpList_step fun _ hK => by rw [if_pos hgd]; exact wp_load_row 111 _ ho g hx 111 _ (0, 0) _ hB Tryz.underlying111 rfl (info111 _ hc) (hK _ _ h)

set_option maxRecDepth 100000 in
set_option maxHeartbeats 4000000 in
theorem useful_any (N s0 : Nat) (Ot Mi Ad Sm : Int) (A : Option Addr) (gcap : Nat) (ms : List Mkg) (w : World) (hN : GOk (N : Int) ((s0 : Int) + 1) Ot Mi Ad Sm ms N) (hG : Gr w w.heap.size A ms) :
    Calls Tryz.prog 65 #[gv (N : Int) ((s0 : Int) + 1) (.slice A ms.length gcap) Ot Mi Ad Sm] w (RetUseP N ((s0 : Int) + 1) ms w) := by
  have hM := Lib.hid fun W (hG : Gr W W.heap.size A ms) => makingsOf_any (N : Int) ((s0 : Int) + 1) Ot Mi Ad Sm A gcap ms W hN.len (fun m hm => ⟨(hN.rng m hm).1, fun x hx => ⟨((hN.rng m hm).2 x hx).1, Int.le_trans ((hN.rng m hm).2 x hx).2 (by decide)⟩⟩) hG
  have hS := Lib.hid fun W (A' : Option Addr) (cap : Nat) (hG : GrI W W.heap.size A' ms) => shortest_any N hN.n1 hN.n12 ms A' cap W hN.len hN.fit (fun m hm => (hN.rng m hm).2) hG
  have HFT := Lib.hid hN.fit
  have HRG := Lib.hid hN.rng
  have hN12 := hN.n12
  have hml := hN.len
  have hs0 : s0 < N := by have := hN.st2; omega
  have hs13 : (s0 : Int) + 1 < 13 := by omega
  have hneq := binNeqF
  clear hN
  have hb0 : Below w.heap.size w ((w.alloc (.cells #[.int .i64 (N : Int), .int .i64 ((s0 : Int) + 1), .slice A ms.length gcap, .int .i64 Ot, .int .i64 Mi, .int .i64 Ad, .int .i64 Sm] 24)).alloc (.cells #[.bool false, .bool false, .bool false, .bool false, .bool false, .bool false, .bool false, .bool false, .bool false, .bool false, .bool false, .bool false, .bool false] 106)) := (below_new _ _).alloc (by simp) _
  have kG : Blk ((w.alloc (.cells #[.int .i64 (N : Int), .int .i64 ((s0 : Int) + 1), .slice A ms.length gcap, .int .i64 Ot, .int .i64 Mi, .int .i64 Ad, .int .i64 Sm] 24)).alloc (.cells #[.bool false, .bool false, .bool false, .bool false, .bool false, .bool false, .bool false, .bool false, .bool false, .bool false, .bool false, .bool false, .bool false] 106)) w.heap.size 24 #[.int .i64 (N : Int), .int .i64 ((s0 : Int) + 1), .slice A ms.length gcap, .int .i64 Ot, .int .i64 Mi, .int .i64 Ad, .int .i64 Sm] := (Blk.new _ _ _).alloc _
  have kR : Blk ((w.alloc (.cells #[.int .i64 (N : Int), .int .i64 ((s0 : Int) + 1), .slice A ms.length gcap, .int .i64 Ot, .int .i64 Mi, .int .i64 Ad, .int .i64 Sm] 24)).alloc (.cells #[.bool false, .bool false, .bool false, .bool false, .bool false, .bool false, .bool false, .bool false, .bool false, .bool false, .bool false, .bool false, .bool false] 106)) (w.heap.size + 1) 106 #[.bool false, .bool false, .bool false, .bool false, .bool false, .bool false, .bool false, .bool false, .bool false, .bool false, .bool false, .bool false, .bool false] := Blk.newAt (by simp)
  have hG1 := hG.behind hb0
  go_enter Tryz.func65, Tryz.ntmps65
  go_wp2_with (first
    | (go_at_call 68; refine (hM.out _ hG1).mono ?_; rintro e w2 ⟨g, rfl, hGI, hb2⟩; have kG2 := kG.below hb2 kG.lt; have kR2 := kR.below hb2 kR.lt)
    | (go_at_call 67; refine (hS.out _ _ _ hGI).mono ?_; rintro e w3 ⟨j, rfl, hst, hb3⟩; have hXs := (StOk.start N).iter HFT.out j; have HJ : Hid (rnd ms (iter ms (List.replicate N (-1)) j) = iter ms (List.replicate N (-1)) j) := hst; clear hst; obtain ⟨X, hXe⟩ : ∃ X, X = iter ms (List.replicate N (-1)) j := ⟨_, rfl⟩; rw [← hXe] at hXs HJ ⊢; have HX := Lib.hid hXe; clear hXe; have hc13 := cOf_len (N := N) hXs.len hN12; have kB0 : Blk (w3.alloc (.cells #[.int .i64 0, .int .i64 0, .int .i64 0, .int .i64 0, .int .i64 0, .int .i64 0, .int .i64 0, .int .i64 0, .int .i64 0, .int .i64 0, .int .i64 0, .int .i64 0, .int .i64 0] 111)) w3.heap.size 111 #[.int .i64 0, .int .i64 0, .int .i64 0, .int .i64 0, .int .i64 0, .int .i64 0, .int .i64 0, .int .i64 0, .int .i64 0, .int .i64 0, .int .i64 0, .int .i64 0, .int .i64 0] := Blk.new _ _ _; have kG3 := kG2.below hb3 kG2.lt; have kR3 := kR2.below hb3 kR2.lt; have hzz : (#[.int .i64 0, .int .i64 0, .int .i64 0, .int .i64 0, .int .i64 0, .int .i64 0, .int .i64 0, .int .i64 0, .int .i64 0, .int .i64 0, .int .i64 0, .int .i64 0, .int .i64 0] : Array Value).size = (nums (cOf N X)).size := by rw [nums_size, hc13]; rfl)
    | (refine wpList_store_row rfl 111 _ _ rfl _ _ rfl rfl 111 _ kB0 (info111 _ hc13) hzz (nums_one _) ?_))
  obtain ⟨u, hcu, hu0⟩ := bOf_use0 hN12 hXs hs0
  have kC5 : Blk (((w3.alloc (.cells #[.int .i64 0, .int .i64 0, .int .i64 0, .int .i64 0, .int .i64 0, .int .i64 0, .int .i64 0, .int .i64 0, .int .i64 0, .int .i64 0, .int .i64 0, .int .i64 0, .int .i64 0] 111)).setRow w3.heap.size (nums (cOf N X))).alloc (.cells #[.bool false, .bool false, .bool false, .bool false, .bool false, .bool false, .bool false, .bool false, .bool false, .bool false, .bool false, .bool false, .bool false] 106)) w3.heap.size 111 (nums (cOf N X)) := (kB0.setRow _).alloc _
  have kU5 : Blk (((w3.alloc (.cells #[.int .i64 0, .int .i64 0, .int .i64 0, .int .i64 0, .int .i64 0, .int .i64 0, .int .i64 0, .int .i64 0, .int .i64 0, .int .i64 0, .int .i64 0, .int .i64 0, .int .i64 0] 111)).setRow w3.heap.size (nums (cOf N X))).alloc (.cells #[.bool false, .bool false, .bool false, .bool false, .bool false, .bool false, .bool false, .bool false, .bool false, .bool false, .bool false, .bool false, .bool false] 106)) (w3.heap.size + 1) 106 (flags (List.replicate 13 false)) := Blk.newAt (by simp [World.setRow])
  have hwlt : w.heap.size + 1 < w3.heap.size := kR3.lt
  have kG5 : Blk (((w3.alloc (.cells #[.int .i64 0, .int .i64 0, .int .i64 0, .int .i64 0, .int .i64 0, .int .i64 0, .int .i64 0, .int .i64 0, .int .i64 0, .int .i64 0, .int .i64 0, .int .i64 0, .int .i64 0] 111)).setRow w3.heap.size (nums (cOf N X))).alloc (.cells #[.bool false, .bool false, .bool false, .bool false, .bool false, .bool false, .bool false, .bool false, .bool false, .bool false, .bool false, .bool false, .bool false] 106)) w.heap.size 24 #[.int .i64 (N : Int), .int .i64 ((s0 : Int) + 1), .slice A ms.length gcap, .int .i64 Ot, .int .i64 Mi, .int .i64 Ad, .int .i64 Sm] := ((kG3.alloc _).farRow (g' := w3.heap.size) (by omega) _).alloc _
  have kR5 : Blk (((w3.alloc (.cells #[.int .i64 0, .int .i64 0, .int .i64 0, .int .i64 0, .int .i64 0, .int .i64 0, .int .i64 0, .int .i64 0, .int .i64 0, .int .i64 0, .int .i64 0, .int .i64 0, .int .i64 0] 111)).setRow w3.heap.size (nums (cOf N X))).alloc (.cells #[.bool false, .bool false, .bool false, .bool false, .bool false, .bool false, .bool false, .bool false, .bool false, .bool false, .bool false, .bool false, .bool false] 106)) (w.heap.size + 1) 106 #[.bool false, .bool false, .bool false, .bool false, .bool false, .bool false, .bool false, .bool false, .bool false, .bool false, .bool false, .bool false, .bool false] := ((kR3.alloc _).farRow (g' := w3.heap.size) (by omega) _).alloc _
  have hb02 := below_next hb0 hb0.size hb2
  have hb03 := below_next hb02 hb02.size hb3
  have hbC : Below w3.heap.size w3 (((w3.alloc (.cells #[.int .i64 0, .int .i64 0, .int .i64 0, .int .i64 0, .int .i64 0, .int .i64 0, .int .i64 0, .int .i64 0, .int .i64 0, .int .i64 0, .int .i64 0, .int .i64 0, .int .i64 0] 111)).setRow w3.heap.size (nums (cOf N X))).alloc (.cells #[.bool false, .bool false, .bool false, .bool false, .bool false, .bool false, .bool false, .bool false, .bool false, .bool false, .bool false, .bool false, .bool false] 106)) := (below_setRow (below_new w3 (.cells #[.int .i64 0, .int .i64 0, .int .i64 0, .int .i64 0, .int .i64 0, .int .i64 0, .int .i64 0, .int .i64 0, .int .i64 0, .int .i64 0, .int .i64 0, .int .i64 0, .int .i64 0] 111)) (Nat.le_refl _) _).alloc (by simp [World.setRow]) _
  have hb5 : Below w.heap.size w (((w3.alloc (.cells #[.int .i64 0, .int .i64 0, .int .i64 0, .int .i64 0, .int .i64 0, .int .i64 0, .int .i64 0, .int .i64 0, .int .i64 0, .int .i64 0, .int .i64 0, .int .i64 0, .int .i64 0] 111)).setRow w3.heap.size (nums (cOf N X))).alloc (.cells #[.bool false, .bool false, .bool false, .bool false, .bool false, .bool false, .bool false, .bool false, .bool false, .bool false, .bool false, .bool false, .bool false] 106)) := hb03.trans (hbC.mono hb03.size)
  have hG5 : GrI (((w3.alloc (.cells #[.int .i64 0, .int .i64 0, .int .i64 0, .int .i64 0, .int .i64 0, .int .i64 0, .int .i64 0, .int .i64 0, .int .i64 0, .int .i64 0, .int .i64 0, .int .i64 0, .int .i64 0] 111)).setRow w3.heap.size (nums (cOf N X))).alloc (.cells #[.bool false, .bool false, .bool false, .bool false, .bool false, .bool false, .bool false, .bool false, .bool false, .bool false, .bool false, .bool false, .bool false] 106)) w3.heap.size (some ⟨g, 0, none⟩) ms := ((hGI.below hb3).more hb3.size).below hbC
  obtain ⟨W5, hW5⟩ : ∃ W5, W5 = (((w3.alloc (.cells #[.int .i64 0, .int .i64 0, .int .i64 0, .int .i64 0, .int .i64 0, .int .i64 0, .int .i64 0, .int .i64 0, .int .i64 0, .int .i64 0, .int .i64 0, .int .i64 0, .int .i64 0] 111)).setRow w3.heap.size (nums (cOf N X))).alloc (.cells #[.bool false, .bool false, .bool false, .bool false, .bool false, .bool false, .bool false, .bool false, .bool false, .bool false, .bool false, .bool false, .bool false] 106)) := ⟨_, rfl⟩
  obtain ⟨C, hCe⟩ : ∃ C, C = w3.heap.size := ⟨_, rfl⟩
  obtain ⟨U, hUe⟩ : ∃ U, U = w3.heap.size + 1 := ⟨_, rfl⟩
  rw [← hW5] at kC5 kU5 kG5 kR5 hb5 hG5 ⊢
  rw [← hUe] at kU5 ⊢
  rw [← hCe] at kC5 hwlt hG5 ⊢
  have hCU : C < U := by omega
  clear hbC hb03 hb02 hW5 hUe hCe kB0 kG3 kR3 kG2 kR2 hzz hb3 hGI hb2 kG kR hb0 hM hS hG hG1
  have cS : W5.cell? ⟨w.heap.size, 1, none⟩ = some (.int .i64 ((s0 : Int) + 1)) := kG5.cell 1
  have cC : W5.cell? ⟨C, s0 + 1, none⟩ = some (.int .i64 u) := by rw [kC5.cell]; simp [nums, hcu]
  have cU : W5.cell? ⟨U, s0 + 1, none⟩ = some (.bool false) := by rw [kU5.cell, flags_get (by simp; omega), List.getElem_replicate]
  have fU := kU5.frozen (s0 + 1)
  have hst4 := kU5.store (s0 + 1) (.bool (decide (u < 1125899906842624)))
  rw [flags_set, hu0] at hst4
  have hCw : w.heap.size + 1 < C := hwlt
  have hb6 : Below w.heap.size w (W5.setCell ⟨U, s0 + 1, none⟩ (.bool (decide (u < 1125899906842624)))).drew := (hb5.setCell (p := ⟨U, s0 + 1, none⟩) (by show w.heap.size ≤ U; omega) _).drew
  have kC6 : Blk ((W5.setCell ⟨U, s0 + 1, none⟩ (.bool (decide (u < 1125899906842624)))).drew) C 111 (nums (cOf N X)) := (show Blk W5.drew C 111 _ from kC5).far (p := ⟨U, s0 + 1, none⟩) (by show C ≠ U; omega) _
  have kR6 : Blk ((W5.setCell ⟨U, s0 + 1, none⟩ (.bool (decide (u < 1125899906842624)))).drew) (w.heap.size + 1) 106 #[.bool false, .bool false, .bool false, .bool false, .bool false, .bool false, .bool false, .bool false, .bool false, .bool false, .bool false, .bool false, .bool false] := (show Blk W5.drew (w.heap.size + 1) 106 _ from kR5).far (p := ⟨U, s0 + 1, none⟩) (by show w.heap.size + 1 ≠ U; omega) _
  have kU6 : Blk ((W5.setCell ⟨U, s0 + 1, none⟩ (.bool (decide (u < 1125899906842624)))).drew) U 106 (flags (bOf N (use0 N X ((s0 : Int) + 1)))) := hst4
  have hG6 : GrI ((W5.setCell ⟨U, s0 + 1, none⟩ (.bool (decide (u < 1125899906842624)))).drew) C (some ⟨g, 0, none⟩) ms := hG5.moved fun p hp => World.cell?_setCell_far W5.drew ⟨U, s0 + 1, none⟩ p _ (by show U ≠ p.block; omega)
  have hul : (use0 N X ((s0 : Int) + 1)).length = N := by simp [use0]
  go_region
  go_wp2_with fail
  obtain ⟨W6, hW6⟩ : ∃ W6, W6 = (W5.setCell ⟨U, s0 + 1, none⟩ (.bool (decide (u < 1125899906842624)))).drew := ⟨_, rfl⟩
  rw [← hW6] at hb6 kC6 kR6 kU6 hG6 ⊢
  clear hW6 hst4 cS cC cU fU hb5 kC5 kU5 kG5 kR5 hG5 hcu
  obtain ⟨u0, hu0e⟩ : ∃ u0, u0 = use0 N X ((s0 : Int) + 1) := ⟨_, rfl⟩
  rw [← hu0e] at kU6 hul
  have HU0 := Lib.hid hu0e
  clear hu0e hu0
  have hb7 : Below C W6 W6 := Below.refl _ _
  go_loopw [6] (fun b w3 => ∃ (j : Nat) (c : Bool), b = .bool c ∧ Hid (c = false → useR X ms (useI X ms u0 j) = useI X ms u0 j) ∧ Below C W6 w3 ∧ Blk w3 C 111 (nums (cOf N X)) ∧ Blk w3 U 106 (flags (bOf N (useI X ms u0 j))))
    (fun b w3 => 2 * open_ (readF U w3) + vN b)
  case atStart => exact ⟨0, true, rfl, (fun h => by cases h), hb7, kC6, kU6⟩
  case round =>
    clear hb7 kC6 kU6
    obtain ⟨i, b, rfl, hstab, hb8, kC8, kU8⟩ := hrel
    have hVl : (useI X ms u0 i).length = N := by rw [useI_len, hul]
    cases b with
    | false =>
      have hs := Lib.hid (hstab.out rfl)
      clear hstab
      have kR8 := kR6.below hb8 hCw
      have hb13 := bOf_len hVl hN12
      have hbf := hb6.trans (hb8.mono (by omega))
      obtain ⟨V, hVe⟩ : ∃ V, V = useI X ms u0 i := ⟨_, rfl⟩
      rw [← hVe] at kU8 hb13
      have HV := Lib.hid hVe
      have hzz : (#[.bool false, .bool false, .bool false, .bool false, .bool false, .bool false, .bool false, .bool false, .bool false, .bool false, .bool false, .bool false, .bool false] : Array Value).size = (flags (bOf N V)).size := by rw [flags_size, hb13]; rfl
      clear hVe
      go_wp2_with (first
        | (refine wpList_load_row rfl 106 _ rfl _ rfl 106 _ (0, 0) _ kU8 Tryz.underlying106 rfl (info106 _ hb13) ?_)
        | (refine wpList_store_row rfl 106 _ _ rfl _ _ rfl rfl 106 _ kR8 (info106 _ hb13) hzz (flags_one _) ?_))
      refine bodyPost_ret (v := .agg (flags (bOf N V))) (results_cell_row (g := w.heap.size + 1) rfl _ _ 106 _ (0, 0) _ rfl (kR8.setRow _) Tryz.underlying106 rfl (info106 _ hb13)) rfl ?_
      exact ⟨j, i, by rw [HV.out, HU0.out, HX.out], by rw [← HX.out]; exact HJ.out, by rw [← HX.out, ← HU0.out]; exact hs.out, below_setRow hbf (by omega) _⟩
    | true =>
      have hnext : Hid (useI X ms u0 (i + 1) = ms.foldl (useM X) (useI X ms u0 i)) := rfl
      obtain ⟨V, hVe⟩ : ∃ V, V = useI X ms u0 i := ⟨_, rfl⟩
      rw [← hVe] at hVl hnext kU8
      have hrd := readF_eq kU8
      have hb13 := bOf_len hVl hN12
      have hl2 := kU8.lt
      clear hstab hVe
      have kB0 : Blk (wr.alloc (.cells #[.bool false, .bool false, .bool false, .bool false, .bool false, .bool false, .bool false, .bool false, .bool false, .bool false, .bool false, .bool false, .bool false] 106)) wr.heap.size 106 #[.bool false, .bool false, .bool false, .bool false, .bool false, .bool false, .bool false, .bool false, .bool false, .bool false, .bool false, .bool false, .bool false] := Blk.new _ _ _
      have hzz : (#[.bool false, .bool false, .bool false, .bool false, .bool false, .bool false, .bool false, .bool false, .bool false, .bool false, .bool false, .bool false, .bool false] : Array Value).size = (flags (bOf N V)).size := by rw [flags_size, hb13]; rfl
      go_wp2_with (first
        | (refine wpList_load_row rfl 106 _ rfl _ rfl 106 _ (0, 0) _ kU8 Tryz.underlying106 rfl (info106 _ hb13) ?_)
        | (refine wpList_store_row rfl 106 _ _ rfl _ _ rfl rfl 106 _ kB0 (info106 _ hb13) hzz (flags_one _) ?_))
      have hCwr : C ≤ wr.heap.size := by omega
      have kB3 : Blk ((wr.alloc (.cells #[.bool false, .bool false, .bool false, .bool false, .bool false, .bool false, .bool false, .bool false, .bool false, .bool false, .bool false, .bool false, .bool false] 106)).setRow wr.heap.size (flags (bOf N V))) wr.heap.size 106 (flags (bOf N V)) := kB0.setRow _
      have kU3 : Blk ((wr.alloc (.cells #[.bool false, .bool false, .bool false, .bool false, .bool false, .bool false, .bool false, .bool false, .bool false, .bool false, .bool false, .bool false, .bool false] 106)).setRow wr.heap.size (flags (bOf N V))) U 106 (flags (bOf N V)) := (kU8.alloc _).farRow (g' := wr.heap.size) (by omega) _
      have kC3 : Blk ((wr.alloc (.cells #[.bool false, .bool false, .bool false, .bool false, .bool false, .bool false, .bool false, .bool false, .bool false, .bool false, .bool false, .bool false, .bool false] 106)).setRow wr.heap.size (flags (bOf N V))) C 111 (nums (cOf N X)) := (kC8.alloc _).farRow (g' := wr.heap.size) (by omega) _
      have hb3 : Below C W6 ((wr.alloc (.cells #[.bool false, .bool false, .bool false, .bool false, .bool false, .bool false, .bool false, .bool false, .bool false, .bool false, .bool false, .bool false, .bool false] 106)).setRow wr.heap.size (flags (bOf N V))) := below_setRow (hb8.alloc hCwr _) hCwr _
      obtain ⟨Bf, hBf⟩ : ∃ Bf, Bf = wr.heap.size := ⟨_, rfl⟩
      obtain ⟨W3, hW3⟩ : ∃ W3, W3 = (wr.alloc (.cells #[.bool false, .bool false, .bool false, .bool false, .bool false, .bool false, .bool false, .bool false, .bool false, .bool false, .bool false, .bool false, .bool false] 106)).setRow wr.heap.size (flags (bOf N V)) := ⟨_, rfl⟩
      rw [← hW3] at kB3 kU3 kC3 hb3 ⊢
      rw [← hBf] at kB3 hl2 ⊢
      have hUB : U ≠ Bf := by omega
      have hrdw : Hid (readF U wr = bOf N V) := hrd
      clear hrd hW3 hBf kB0 hzz kC8 kU8 hb8 hCwr
      go_loopw [30] (fun i w4 => ∃ q : Nat, q ≤ ms.length ∧ i = .int .i64 q ∧ Below C W6 w4 ∧ Blk w4 C 111 (nums (cOf N X)) ∧ Blk w4 U 106 (flags (bOf N ((ms.take q).foldl (useM X) V))) ∧ Blk w4 Bf 106 (flags (bOf N V)))
        (fun i _ => ms.length - (intOf i).toNat)
      case atStart => exact ⟨0, Nat.zero_le _, rfl, hb3, kC3, kU3, kB3⟩
      case round =>
        clear kC3 kU3 kB3 hb3
        obtain ⟨q, hq, rfl, hb4, kC4, kU4, kB4⟩ := hrel
        by_cases hqlt : q < ms.length
        · obtain ⟨ad, had, hBa, m0, ⟨IA, icap, m1, n1, n2, hI⟩, m2⟩ := (hG6.below hb4).get hqlt
          cases had
          have ead : (⟨g, 0, none⟩ : Addr).add (q * 3) = ⟨g, q * 3, none⟩ := by unfold Addr.add; split <;> simp_all
          rw [ead] at m0 m1 m2
          clear ead hBa
          have hll2 : (q : Int) < (ms.length : Int) := by omega
          have hfit := HFT.out _ (List.getElem_mem hqlt)
          obtain ⟨hil, hix⟩ := HRG.out _ (List.getElem_mem hqlt)
          have hYl : ((ms.take q).foldl (useM X) V).length = N := by rw [useR_len]; exact hVl
          have hnx : (ms.take (q + 1)).foldl (useM X) V = useM X ((ms.take q).foldl (useM X) V) ms[q] := by rw [List.take_succ_eq_append_getElem hqlt, List.foldl_append]; rfl
          have hno := none_iff hN12 hXs hfit
          have hco := cOf_ok hN12 hXs
          obtain ⟨Y, hYe⟩ : ∃ Y, Y = (ms.take q).foldl (useM X) V := ⟨_, rfl⟩
          obtain ⟨Z, hZe⟩ : ∃ Z, Z = (ms.take (q + 1)).foldl (useM X) V := ⟨_, rfl⟩
          rw [← hZe, ← hYe] at hnx
          rw [← hYe] at hYl kU4
          obtain ⟨mq, hmq⟩ : ∃ mq, mq = ms[q] := ⟨_, rfl⟩
          rw [← hmq] at m0 m1 m2 n1 hI hil hix hfit hnx hno
          have HZe := Lib.hid hZe
          clear hYe hZe hmq
          obtain ⟨msym, items, mcost⟩ := mq
          simp only at m0 m1 m2 n1 hI hil hix hno
          obtain ⟨s', rfl⟩ : ∃ s' : Nat, msym = (s' : Int) + 1 := ⟨(msym - 1).toNat, by have := hfit.1; simp only at this; omega⟩
          have hs'k : s' < N := by have := hfit.2.1; simp only at this; omega
          have hs'13 : (s' : Int) + 1 < 13 := by omega
          have hitf := hfit.2.2.2
          simp only at hitf
          have hyl : s' < Y.length := by omega
          have hgd : Y.getD ((s' : Int) + 1 - 1).toNat false = Y[s'] := by rw [show ((s' : Int) + 1 - 1).toNat = s' by omega, List.getD_eq_getElem?_getD, List.getElem?_eq_getElem hyl]; rfl
          have hY1 : (bOf N Y)[s' + 1]? = some Y[s'] := bOf_get hyl
          obtain ⟨yb, hyb⟩ : ∃ yb, yb = Y[s'] := ⟨_, rfl⟩
          rw [← hyb] at hgd hY1
          clear hyb
          obtain ⟨c0, hc0⟩ : ∃ c0, c0 = cOf N X := ⟨_, rfl⟩
          rw [← hc0] at hno hco kC4 hc13
          have HC0 := Lib.hid hc0
          clear hc0
          have HCO := Lib.hid hco
          have hc0l := hco.len
          obtain ⟨M, hMe⟩ : ∃ M, M = wr.heap.size := ⟨_, rfl⟩
          obtain ⟨W7, hW7⟩ : ∃ W7, W7 = wr.alloc (.cells #[.int .i64 ((s' : Int) + 1), .slice IA items.length icap, .int .i64 mcost] 198) := ⟨_, rfl⟩
          have hUlt := kU4.lt
          have hClt := kC4.lt
          have hBlt := kB4.lt
          have kM7 : Blk W7 M 198 #[.int .i64 ((s' : Int) + 1), .slice IA items.length icap, .int .i64 mcost] := by rw [hW7, hMe]; exact Blk.new _ _ _
          have kC7 : Blk W7 C 111 (nums c0) := by rw [hW7]; exact kC4.alloc _
          have kU7 : Blk W7 U 106 (flags (bOf N Y)) := by rw [hW7]; exact kU4.alloc _
          have kB7 : Blk W7 Bf 106 (flags (bOf N V)) := by rw [hW7]; exact kB4.alloc _
          have hb7 : Below C W6 W7 := by rw [hW7]; exact hb4.alloc (by omega) _
          have hUM : U < M := by rw [hMe]; exact hUlt
          have hBM : Bf < M := by rw [hMe]; exact hBlt
          have hCM : C < M := by omega
          have hM7 : M < W7.heap.size := kM7.lt
          have hI7 : Its W7 0 C IA items := by
            rw [hW7]
            exact hI.moved fun p _ hp => World.cell?_alloc_lt _ _ _ (by omega)
          have g0 : W7.cell? ⟨M, 0, none⟩ = some (.int .i64 ((s' : Int) + 1)) := kM7.cell 0
          have g1 : W7.cell? ⟨M, 1, none⟩ = some (.slice IA items.length icap) := kM7.cell 1
          have g2 : W7.cell? ⟨M, 2, none⟩ = some (.int .i64 mcost) := kM7.cell 2
          have cy : W7.cell? ⟨U, s' + 1, none⟩ = some (.bool yb) := by rw [kU7.cell]; simp [flags, hY1]
          obtain ⟨ok, hoke⟩ : ∃ ok, ok = okL X items := ⟨_, rfl⟩
          rw [← hoke] at hno
          rw [hW7, hMe] at g0 g1 g2
          rw [hW7] at cy
          have hll13 := hs'13
          cases yb with
          | false =>
            have hZY : Z = Y := by rw [hnx]; exact useM_bit hgd rfl (.inl rfl)
            have hfin : Blk W7 U 106 (flags (bOf N Z)) := by rw [hZY]; exact kU7
            clear hnx hZY hno hoke
            go_wp2_with (first | go_skip)
            rw [← hW7]
            rw [HC0.out] at kC7
            rw [HZe.out] at hfin
            go_roundw
            case rel => exact ⟨q + 1, by omega, by go_num, hb7, kC7, hfin, kB7⟩
            case measure => simp [intOf]; try omega
          | true =>
            have hIc : Its (wr.alloc (.cells #[.int .i64 ((s' : Int) + 1), .slice IA items.length icap, .int .i64 mcost] 198)) 0 C IA items := by rw [← hW7]; exact hI7
            have kCc : Blk (wr.alloc (.cells #[.int .i64 ((s' : Int) + 1), .slice IA items.length icap, .int .i64 mcost] 198)) C 111 (nums c0) := by rw [← hW7]; exact kC7
            obtain ⟨st, hst⟩ : ∃ st, st = strokesC c0 items := ⟨_, rfl⟩
            rw [← hst] at hno
            have HST := Lib.hid hst
            clear hst
            cases ok with
            | false =>
              have hZY : Z = Y := by rw [hnx]; exact useM_bit rfl hoke.symm (.inr rfl)
              have hno' : (st == 1125899906842624) = true := hno
              clear hnx hno hoke hgd
              go_wp2_with (first
                | go_skip
                | (refine ldC (by rfl) _ (by rfl) (by rfl) hc0l kCc ?_)
                | (go_at_call 118; refine (strokes_any c0 HCO.out ((s' : Int) + 1) mcost items IA icap _ hil hix C (by simp; omega) hIc).mono ?_; rw [← HST.out]; rintro e w8 ⟨rfl, hb8'⟩; rw [← hW7] at hb8'; have hb8 : Below W7.heap.size W7 w8 := hb8'))
              have hfin : Blk w8 U 106 (flags (bOf N Z)) := by rw [hZY]; exact kU7.below hb8 kU7.lt
              have kC8 := kC7.below hb8 kC7.lt
              have kB8 := kB7.below hb8 kB7.lt
              have hb9 : Below C W6 w8 := hb7.trans (hb8.mono (by omega))
              rw [HC0.out] at kC8
              rw [HZe.out] at hfin
              clear hZY
              go_roundw
              case rel => exact ⟨q + 1, by omega, by go_num, hb9, kC8, hfin, kB8⟩
              case measure => simp [intOf]; try omega
            | true =>
              have hZY : Z = items.foldl mark Y := by rw [hnx]; exact useM_bits hgd hoke.symm
              have hno' : (st == 1125899906842624) = false := hno
              clear hnx hno hoke hgd
              go_wp2_with (first
                | go_skip
                | (refine ldC (by rfl) _ (by rfl) (by rfl) hc0l kCc ?_)
                | (go_at_call 118; refine (strokes_any c0 HCO.out ((s' : Int) + 1) mcost items IA icap _ hil hix C (by simp; omega) hIc).mono ?_; rw [← HST.out]; rintro e w8 ⟨rfl, hb8'⟩; rw [← hW7] at hb8'; have hb8 : Below W7.heap.size W7 w8 := hb8'; obtain ⟨G0, G1, G2⟩ : w8.cell? ⟨wr.heap.size, 0, none⟩ = some (.int .i64 ((s' : Int) + 1)) ∧ w8.cell? ⟨wr.heap.size, 1, none⟩ = some (.slice IA items.length icap) ∧ w8.cell? ⟨wr.heap.size, 2, none⟩ = some (.int .i64 mcost) := by rw [← hMe]; have kM8 := kM7.below hb8 kM7.lt; exact ⟨kM8.cell 0, kM8.cell 1, kM8.cell 2⟩))
              have kU8 : Blk w8 U 106 (flags (bOf N Y)) := kU7.below hb8 kU7.lt
              have kC8 := kC7.below hb8 kC7.lt
              have kB8 := kB7.below hb8 kB7.lt
              have hb9 : Below C W6 w8 := hb7.trans (hb8.mono (by omega))
              have hI8 : Its w8 0 C IA items := hI7.moved fun p _ hp => hb8.cell (by omega)
              rw [← hMe]
              rw [← hMe] at G0 G1 G2
              clear hb8 hb8' hb7 kU7 kC7 kB7 kM7 hI7 g0 g1 g2 cy hIc kCc hW7 hMe hb4 kC4 kU4 kB4 m0 m1 m2 hI
              go_loopw [48] (fun i w9 => ∃ p : Nat, p ≤ items.length ∧ i = .int .i64 p ∧ Below C w8 w9 ∧ Blk w9 C 111 (nums c0) ∧ Blk w9 U 106 (flags (bOf N ((items.take p).foldl mark Y))) ∧ Blk w9 Bf 106 (flags (bOf N V)))
                (fun i _ => items.length - (intOf i).toNat)
              case atStart => exact ⟨0, Nat.zero_le _, rfl, Below.refl _ _, kC8, kU8, kB8⟩
              case round =>
                clear kC8 kU8 kB8
                obtain ⟨p, hp, rfl, hb10, kC10, kU10, kB10⟩ := hrel
                by_cases hplt : p < items.length
                · have hll5 : (p : Int) < (items.length : Int) := by omega
                  obtain ⟨ai, hai, _, hBi, hci8⟩ := hI8 p _ (List.getElem?_eq_getElem hplt)
                  cases hai
                  have hci := (hb10.cell (p := ai.add p) (by rw [addr_block]; exact hBi)).trans hci8
                  have hxf := hitf _ (List.getElem_mem hplt)
                  have hnx : (items.take (p + 1)).foldl mark Y = mark ((items.take p).foldl mark Y) items[p] := by rw [List.take_succ_eq_append_getElem hplt, List.foldl_append]; rfl
                  have hTl : ((items.take p).foldl mark Y).length = N := by rw [marks_len]; exact hYl
                  obtain ⟨T, hTe⟩ : ∃ T, T = (items.take p).foldl mark Y := ⟨_, rfl⟩
                  obtain ⟨T', hTe'⟩ : ∃ T', T' = (items.take (p + 1)).foldl mark Y := ⟨_, rfl⟩
                  rw [← hTe, ← hTe'] at hnx
                  rw [← hTe] at hTl kU10
                  have HT' := Lib.hid hTe'
                  clear hTe hTe' hci8
                  obtain ⟨x, hx⟩ : ∃ x, x = items[p] := ⟨_, rfl⟩
                  rw [← hx] at hci hxf hnx
                  clear hx
                  by_cases hneg : x < 0
                  · have hit : itv x = .iface 213 (.int .i64 (-x)) := if_pos hneg
                    rw [hit] at hci
                    have hTT : T' = T := by rw [hnx]; exact if_neg (by omega)
                    have hfin : Blk wr U 106 (flags (bOf N T')) := by rw [hTT]; exact kU10
                    rw [HT'.out] at hfin
                    have t4 := ta4
                    clear hnx hTT hit hxf hneg
                    go_wp2_with fail
                    go_roundw
                    case rel => exact ⟨p + 1, by omega, by go_num, hb10, kC10, hfin, kB10⟩
                    case measure => simp [intOf]; try omega
                  · have hit : itv x = .iface 195 (.int .i64 x) := if_neg hneg
                    rw [hit] at hci
                    obtain ⟨x', rfl⟩ : ∃ x' : Nat, x = (x' : Int) + 1 := ⟨(x - 1).toNat, by omega⟩
                    have hx'N : x' < N := by omega
                    have hx13 : (x' : Int) + 1 < 13 := by omega
                    have hxT : x' < T.length := by omega
                    have hTT : T' = T.set x' true := by
                      rw [hnx]
                      unfold mark
                      rw [if_pos (by omega), show ((x' : Int) + 1 - 1).toNat = x' by omega]
                    have cx : wr.cell? ⟨U, x' + 1, none⟩ = some (.bool T[x']) := by rw [kU10.cell]; simp [flags, bOf_get hxT]
                    have fx := kU10.frozen (x' + 1)
                    have hfin := kU10.store (x' + 1) (.bool true)
                    rw [flags_set, bOf_set hxT, ← hTT, HT'.out] at hfin
                    have kC11 := kC10.far (p := ⟨U, x' + 1, none⟩) (by show C ≠ U; omega) (.bool true)
                    have kB11 := kB10.far (p := ⟨U, x' + 1, none⟩) (by show Bf ≠ U; omega) (.bool true)
                    have hb11 := hb10.setCell (p := ⟨U, x' + 1, none⟩) (by show C ≤ U; omega) (.bool true)
                    generalize T[x'] = tb at cx
                    have t3 := ta3
                    clear hnx hTT hit hxf hneg
                    go_wp2_with fail
                    go_roundw
                    case rel => exact ⟨p + 1, by omega, by go_num, hb11, kC11, hfin, kB11⟩
                    case measure => simp [intOf]; try omega
                · obtain rfl : p = items.length := by omega
                  rw [List.take_length, ← hZY, HZe.out] at kU10
                  rw [HC0.out] at kC10
                  have hb12 := hb9.trans hb10
                  clear hZY
                  go_wp2_with fail
                  go_roundw
                  case rel => exact ⟨q + 1, by omega, by go_num, hb12, kC10, kU10, kB10⟩
                  case measure => simp [intOf]; try omega
        · obtain rfl : q = ms.length := by omega
          rw [List.take_length] at kU4
          have hVn : (ms.foldl (useM X) V).length = N := by rw [useR_len]; exact hVl
          have hbn := bOf_len hVn hN12
          have hp := (useM_down X).fold ms V
          have hr4 := readF_eq kU4
          have hneq2 := hneq (bOf N (ms.foldl (useM X) V)) (bOf N V) hbn hb13
          obtain ⟨c, hc⟩ : ∃ c, c = decide (bOf N (ms.foldl (useM X) V) ≠ bOf N V) := ⟨_, rfl⟩
          rw [← hc] at hneq2
          have hcase : Hid (c = false → ms.foldl (useM X) V = V) := fun h => bOf_inj hVn hVl (by rw [h] at hc; exact Decidable.not_not.1 (of_decide_eq_false hc.symm))
          have HP : Hid (2 * open_ (bOf N (ms.foldl (useM X) V)) + vN (.bool c) < 2 * open_ (bOf N V) + 1) := by
            show _ < _
            rw [bOf_open, bOf_open]
            rcases hp with hp | hp
            · have : c = false := by rw [hc, hp]; simp
              rw [hp, this]; simp [vN]
            · cases c <;> simp [vN] <;> omega
          have hst : Hid (c = false → useR X ms (useI X ms u0 (i + 1)) = useI X ms u0 (i + 1)) := fun h => by
            have e := hcase.out h
            have e1 : useI X ms u0 (i + 1) = V := by rw [hnext.out]; exact e
            rw [e1]
            exact e
          have HD : Hid (readF U wr = bOf N (ms.foldl (useM X) V)) := hr4
          clear hc hcase hp hneq hr4
          go_wp2_with (first
            | (refine wpList_load_row rfl 106 _ rfl U rfl 106 _ (0, 0) _ kU4 Tryz.underlying106 rfl (info106 _ hbn) ?_)
            | (refine wpList_load_row rfl 106 _ rfl Bf rfl 106 _ (0, 0) _ kB4 Tryz.underlying106 rfl (info106 _ hb13) ?_))
          go_roundw
          case rel => exact ⟨i + 1, c, rfl, hst, hb4, kC4, by rw [hnext.out]; exact kU4⟩
          case measure =>
            rw [HD.out, hrdw.out]
            exact HP.out
end Go.Proofs.YtieclenlldjfjaaGreat
