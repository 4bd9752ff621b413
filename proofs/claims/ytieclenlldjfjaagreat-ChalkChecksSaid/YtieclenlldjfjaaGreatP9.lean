import Derived.Test.YtieclenlldjfjaaGreatP8
set_option linter.unusedSimpArgs false
set_option linter.unusedVariables false
/- Useless 17. -/
namespace Go.Proofs.YtieclenlldjfjaaGreat
open Go.RowKit

/-- what Useless hands back for a right grammar -/
def RetUse17 (N : Nat) (St : Int) (ms : List Mkg) (w : World) (e : Ending) (w' : World) : Prop :=
  ∃ L A c, e = .returned (.tuple #[.slice A L.length c, .int .i64 0]) ∧ IsUseless N St ms L ∧ L.length ≤ N ∧ Ints w' w'.heap.size A L ∧ Below w.heap.size w w'

section
variable (Sy St Ot Mi Ad Sm : Int) (A : Option Addr) (gcap : Nat) (ms : List Mkg) (w : World)
set_option maxRecDepth 100000 in
set_option maxHeartbeats 1000000 in
theorem useless17_bad (hG : Gr w w.heap.size A ms) (h : ¬ chkG Sy St Ot Mi Ad Sm ms = 0) :
    Calls Tryz.prog 17 #[gv Sy St (.slice A ms.length gcap) Ot Mi Ad Sm] w fun e w' => e = .returned (.tuple #[.slice none 0 0, .int .i64 (chkG Sy St Ot Mi Ad Sm ms)]) ∧ Below w.heap.size w w' := by
  have hC := Lib.hid fun W (h : Gr W W.heap.size A ms) => check_any Sy St Ot Mi Ad Sm A gcap ms W h
  obtain ⟨E, hE⟩ : ∃ E, E = chkG Sy St Ot Mi Ad Sm ms := ⟨_, rfl⟩
  rw [← hE] at h hC ⊢
  have hne : (E != 0) = true := by simpa using h
  clear hE h
  have hb0 : Below w.heap.size w (w.alloc (.cells #[.int .i64 Sy, .int .i64 St, .slice A ms.length gcap, .int .i64 Ot, .int .i64 Mi, .int .i64 Ad, .int .i64 Sm] 24)) := below_new _ _
  have hG1 := hG.behind hb0
  go_enter Tryz.func17, Tryz.ntmps17
  go_wp2_with (go_at_call 25; refine (hC.out _ hG1).mono ?_; rintro e w1 ⟨rfl, hb1⟩)
  have hbw := below_next hb0 hb0.size hb1
  go_ret2
  exact ⟨rfl, hbw⟩

set_option maxRecDepth 100000 in
set_option maxHeartbeats 2000000 in
theorem useless17_ok (N s0 : Nat) (hN : GOk (N : Int) ((s0 : Int) + 1) Ot Mi Ad Sm ms N) (hG : Gr w w.heap.size A ms) (h : chkG (N : Int) ((s0 : Int) + 1) Ot Mi Ad Sm ms = 0) :
    Calls Tryz.prog 17 #[gv (N : Int) ((s0 : Int) + 1) (.slice A ms.length gcap) Ot Mi Ad Sm] w (RetUse17 N ((s0 : Int) + 1) ms w) := by
  have hC := Lib.hid fun W (hG : Gr W W.heap.size A ms) => check_any (N : Int) ((s0 : Int) + 1) Ot Mi Ad Sm A gcap ms W hG
  have hS := Lib.hid fun W (hG : Gr W W.heap.size A ms) => useful_any N s0 Ot Mi Ad Sm A gcap ms W hN hG
  have hN12 := hN.n12
  rw [h] at hC
  clear hN h
  have hb0 : Below w.heap.size w (w.alloc (.cells #[.int .i64 (N : Int), .int .i64 ((s0 : Int) + 1), .slice A ms.length gcap, .int .i64 Ot, .int .i64 Mi, .int .i64 Ad, .int .i64 Sm] 24)) := below_new _ _
  have kG : Blk (w.alloc (.cells #[.int .i64 (N : Int), .int .i64 ((s0 : Int) + 1), .slice A ms.length gcap, .int .i64 Ot, .int .i64 Mi, .int .i64 Ad, .int .i64 Sm] 24)) w.heap.size 24 #[.int .i64 (N : Int), .int .i64 ((s0 : Int) + 1), .slice A ms.length gcap, .int .i64 Ot, .int .i64 Mi, .int .i64 Ad, .int .i64 Sm] := Blk.new _ _ _
  have hG1 := hG.behind hb0
  go_enter Tryz.func17, Tryz.ntmps17
  go_wp2_with (first
    | (go_at_call 25; refine (hC.out _ hG1).mono ?_; rintro e w1 ⟨rfl, hb1⟩; have hG2 := hG1.behind hb1; have kG1 := kG.below hb1 kG.lt; obtain ⟨a0, a1, a2, a3, a4, a5, a6⟩ : w1.cell? ⟨w.heap.size, 0, none⟩ = some (.int .i64 (N : Int)) ∧ w1.cell? ⟨w.heap.size, 1, none⟩ = some (.int .i64 ((s0 : Int) + 1)) ∧ w1.cell? ⟨w.heap.size, 2, none⟩ = some (.slice A ms.length gcap) ∧ w1.cell? ⟨w.heap.size, 3, none⟩ = some (.int .i64 Ot) ∧ w1.cell? ⟨w.heap.size, 4, none⟩ = some (.int .i64 Mi) ∧ w1.cell? ⟨w.heap.size, 5, none⟩ = some (.int .i64 Ad) ∧ w1.cell? ⟨w.heap.size, 6, none⟩ = some (.int .i64 Sm) := ⟨kG1.cell 0, kG1.cell 1, kG1.cell 2, kG1.cell 3, kG1.cell 4, kG1.cell 5, kG1.cell 6⟩)
    | (go_at_call 65; refine (hS.out _ hG2).mono ?_; rintro e w3 ⟨j, i, rfl, hst, hus, hb3⟩; have HIS : Hid (IsUseless N ((s0 : Int) + 1) ms (openTo (useI (iter ms (List.replicate N (-1)) j) ms (use0 N (iter ms (List.replicate N (-1)) j) ((s0 : Int) + 1)) i) N)) := ⟨j, i, hst, hus, rfl⟩; have hVl : (useI (iter ms (List.replicate N (-1)) j) ms (use0 N (iter ms (List.replicate N (-1)) j) ((s0 : Int) + 1)) i).length = N := (by rw [useI_len]; simp [use0]); clear hst hus; obtain ⟨V, hVe⟩ : ∃ V, V = useI (iter ms (List.replicate N (-1)) j) ms (use0 N (iter ms (List.replicate N (-1)) j) ((s0 : Int) + 1)) i := ⟨_, rfl⟩; rw [← hVe] at hVl HIS ⊢; clear hVe; have hb13 := bOf_len (N := N) hVl hN12; have kB0 : Blk (w3.alloc (.cells #[.bool false, .bool false, .bool false, .bool false, .bool false, .bool false, .bool false, .bool false, .bool false, .bool false, .bool false, .bool false, .bool false] 106)) w3.heap.size 106 #[.bool false, .bool false, .bool false, .bool false, .bool false, .bool false, .bool false, .bool false, .bool false, .bool false, .bool false, .bool false, .bool false] := Blk.new _ _ _; have kG3 := (kG1.below hb3 kG1.lt).alloc (.cells #[.bool false, .bool false, .bool false, .bool false, .bool false, .bool false, .bool false, .bool false, .bool false, .bool false, .bool false, .bool false, .bool false] 106); have hzz : (#[.bool false, .bool false, .bool false, .bool false, .bool false, .bool false, .bool false, .bool false, .bool false, .bool false, .bool false, .bool false, .bool false] : Array Value).size = (flags (bOf N V)).size := by rw [flags_size, hb13]; rfl)
    | (refine wpList_store_row rfl 106 _ _ rfl _ _ rfl rfl 106 _ kB0 (info106 _ hb13) hzz (flags_one _) ?_))
  obtain ⟨W4, hW4⟩ : ∃ W4, W4 = (w3.alloc (.cells #[.bool false, .bool false, .bool false, .bool false, .bool false, .bool false, .bool false, .bool false, .bool false, .bool false, .bool false, .bool false, .bool false] 106)).setRow w3.heap.size (flags (bOf N V)) := ⟨_, rfl⟩
  obtain ⟨C, hCe⟩ : ∃ C, C = w3.heap.size := ⟨_, rfl⟩
  have hb01 := below_next hb0 hb0.size hb1
  have hb03 := below_next hb01 hb01.size hb3
  have kC4 : Blk W4 C 106 (flags (bOf N V)) := by rw [hW4, hCe]; exact kB0.setRow _
  have hwlt : w.heap.size < w3.heap.size := (kG1.below hb3 kG1.lt).lt
  have kG4 : Blk W4 w.heap.size 24 #[.int .i64 (N : Int), .int .i64 ((s0 : Int) + 1), .slice A ms.length gcap, .int .i64 Ot, .int .i64 Mi, .int .i64 Ad, .int .i64 Sm] := by rw [hW4]; exact kG3.farRow (g' := w3.heap.size) (by omega) _
  have hb4 : Below w.heap.size w W4 := by rw [hW4]; exact below_setRow (hb03.alloc hb03.size _) hb03.size _
  rw [← hW4, ← hCe]
  clear kB0 kG3 hzz kG1 hG2 hb01 hb03 hW4 hwlt hCe a0 a1 a2 a3 a4 a5 a6 hb3 hb1 hG1 hb0 kG
  clear hC hS hG
  have hB0 : Hid (∃ Bs, Bs = W4.heap.size) := ⟨_, rfl⟩
  obtain ⟨Bs, hBs⟩ := hB0.out
  have hb5' : Below Bs W4 W4 := Below.refl _ _
  have hCl := kC4.lt
  have hGl := kG4.lt
  have hBle : Bs ≤ W4.heap.size := by omega
  have hszr := hb4.size
  rw [← hBs] at hCl hGl hszr
  go_loopw [6, 7] (fun v i w5 => ∃ k : Nat, ∃ A c, k ≤ N ∧ i = .int .i64 ((k : Int) + 1) ∧ v = .slice A (openTo V k).length c ∧ Below Bs W4 w5 ∧ w5.ownsRow Bs 3 1 (.slice A (openTo V k).length c) (openTo V k).length ((openTo V k).map (Value.int .i64)))
    (fun _ i _ => N + 1 - (intOf i).toNat)
  case atStart => exact ⟨0, none, 0, by omega, rfl, rfl, hb5', World.ownsRow_nil _ _ _ _⟩
  case round =>
    obtain ⟨k, A', c, hk, rfl, rfl, hb6, hown⟩ := hrel
    have kG6 := kG4.below hb6 hGl
    have kC6 := kC4.below hb6 hCl
    have b0 : wr.cell? ⟨w.heap.size, 0, none⟩ = some (.int .i64 (N : Int)) := kG6.cell 0
    have hszb : Bs ≤ wr.heap.size := by have := hb6.size; omega
    have hol := openTo_len V k
    by_cases hlt : k < N
    · have hkV : k < V.length := by omega
      have q1 : decide ((k : Int) + 1 ≤ (N : Int)) = true := decide_eq_true (by omega)
      have q2 : (k : Int) < (N : Int) := by omega
      have q3 : (k : Int) + 1 < 13 := by omega
      have bC : wr.cell? ⟨C, k + 1, none⟩ = some (.bool V[k]) := by rw [kC6.cell]; simp [flags, bOf_get hkV]
      have hgd : V.getD k true = V[k] := by rw [List.getD_eq_getElem?_getD, List.getElem?_eq_getElem hkV]; rfl
      cases hv : V[k] with
      | false =>
        rw [hv] at bC hgd
        have HY := Lib.hid (openTo_yes hgd)
        clear hgd hv
        have hl10 : (openTo V k).length ≤ 1000000 := by omega
        go_wp2_with (at_builtin; refine app1 (by rfl) _ _ (by rfl) Bs (openTo V k) ((k : Int) + 1) _ (by rfl) hown (by rfl) hl10 hszb ?_; intro A2 c2 w6 hown1 hb7)
        go_roundw
        case rel => exact ⟨k + 1, A2, c2, by omega, by go_num, by rw [HY.out]; simp, hb6.trans hb7, by rw [HY.out]; exact hown1⟩
        case measure => simp [intOf]; try omega
      | true =>
        rw [hv] at bC hgd
        have HY := Lib.hid (openTo_no hgd)
        clear hgd hv
        go_wp2_with fail
        go_roundw
        case rel => exact ⟨k + 1, A', c, by omega, by go_num, by rw [HY.out], hb6, by rw [HY.out]; exact hown⟩
        case measure => simp [intOf]; try omega
    · obtain rfl : k = N := by omega
      have q1 : decide ((k : Int) + 1 ≤ (k : Int)) = false := decide_eq_false (by omega)
      have q2 : ¬ (k : Int) + 1 ≤ (k : Int) := by omega
      have hI := ints_far hown
      have hbw6 := hb4.trans (hb6.mono hszr)
      have HIL := Lib.hid hI
      generalize openTo V k = L at HIS HIL hol ⊢
      clear hown hI
      go_wp2_with fail
      go_ret2
      exact ⟨L, A', c, by rfl, HIS.out, hol, HIL.out _ (fun p _ => rfl) (Nat.le_refl _), hbw6⟩
end
end Go.Proofs.YtieclenlldjfjaaGreat
