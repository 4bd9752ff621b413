import Derived.Test.YtieclenlldjfjaaGreatP5
import Derived.Test.YtieclenlldjfjaaGreatS5
set_option linter.unusedSimpArgs false
set_option linter.unusedVariables false
/- told 69, Shortest 19. -/
namespace Go.Proofs.YtieclenlldjfjaaGreat
open Go.RowKit

def told (x : Int) : Int := if x = 1125899906842624 then -1 else x
theorem told_any (x : Int) (w : World) : Calls Tryz.prog 69 #[.int .i64 x] w fun e w' => e = .returned (.int .i64 (told x)) ∧ w = w' := by
  by_cases h : x = 1125899906842624
  · have hR : Hid (told x = -1) := if_pos h
    subst h
    go_enter Tryz.func69, Tryz.ntmps69
    go_wp2_with fail
    go_ret
    exact ⟨ret_int hR.out.symm, rfl⟩
  · have hR : Hid (told x = x) := if_neg h
    have q : (x == 1125899906842624) = false := beq_eq_false_iff_ne.2 h
    clear h
    go_enter Tryz.func69, Tryz.ntmps69
    go_wp2_with fail
    go_ret
    exact ⟨ret_int hR.out.symm, rfl⟩
theorem told_up {x : Int} (h : -1 ≤ x ∧ x ≤ 531441) : told (up x) = x := by
  unfold told up
  split <;> split <;> omega

theorem GOk.rng {Sy St Ot Mi Ad Sm : Int} {ms : List Mkg} {N : Nat} (h : GOk Sy St Ot Mi Ad Sm ms N) : ∀ m ∈ ms, m.items.length ≤ 3 ∧ ∀ x ∈ m.items, -20 ≤ x ∧ x ≤ 12 := fun m hm => by
  have := h.all m hm
  unfold mkgB at this
  simp only [Bool.and_eq_true, decide_eq_true_eq] at this
  obtain ⟨⟨⟨h1, h2⟩, h3⟩, h4⟩ := this
  refine ⟨h3, fun n hn => ?_⟩
  have := List.all_eq_true.1 h4 n hn
  unfold itemB at this
  simp only [Bool.or_eq_true, decide_eq_true_eq] at this
  have := h.sy
  have := h.n12
  omega

/-- what Shortest hands back for a right grammar -/
def RetShort19 (N : Nat) (ms : List Mkg) (w : World) (e : Ending) (w' : World) : Prop :=
  ∃ j A c, e = .returned (.tuple #[.slice A N c, .int .i64 0]) ∧ rnd ms (iter ms (List.replicate N (-1)) j) = iter ms (List.replicate N (-1)) j ∧ Ints w' w'.heap.size A (iter ms (List.replicate N (-1)) j) ∧ Below w.heap.size w w'

section
variable (Sy St Ot Mi Ad Sm : Int) (A : Option Addr) (gcap : Nat) (ms : List Mkg) (w : World)
set_option maxRecDepth 100000 in
set_option maxHeartbeats 1000000 in
theorem shortest19_bad (hG : Gr w w.heap.size A ms) (h : ¬ chkG Sy St Ot Mi Ad Sm ms = 0) :
    Calls Tryz.prog 19 #[gv Sy St (.slice A ms.length gcap) Ot Mi Ad Sm] w fun e w' => e = .returned (.tuple #[.slice none 0 0, .int .i64 (chkG Sy St Ot Mi Ad Sm ms)]) ∧ Below w.heap.size w w' := by
  have hC := Lib.hid fun W (h : Gr W W.heap.size A ms) => check_any Sy St Ot Mi Ad Sm A gcap ms W h
  obtain ⟨E, hE⟩ : ∃ E, E = chkG Sy St Ot Mi Ad Sm ms := ⟨_, rfl⟩
  rw [← hE] at h hC ⊢
  have hne : (E != 0) = true := by simpa using h
  clear hE h
  have hb0 : Below w.heap.size w (w.alloc (.cells #[.int .i64 Sy, .int .i64 St, .slice A ms.length gcap, .int .i64 Ot, .int .i64 Mi, .int .i64 Ad, .int .i64 Sm] 24)) := below_new _ _
  have hG1 := hG.behind hb0
  go_enter Tryz.func19, Tryz.ntmps19
  go_wp2_with (go_at_call 25; refine (hC.out _ hG1).mono ?_; rintro e w1 ⟨rfl, hb1⟩)
  have hbw := below_next hb0 hb0.size hb1
  go_ret2
  exact ⟨rfl, hbw⟩

set_option maxRecDepth 100000 in
set_option maxHeartbeats 2000000 in
theorem shortest19_ok (N : Nat) (hN : GOk (N : Int) St Ot Mi Ad Sm ms N) (hG : Gr w w.heap.size A ms) (h : chkG (N : Int) St Ot Mi Ad Sm ms = 0) :
    Calls Tryz.prog 19 #[gv (N : Int) St (.slice A ms.length gcap) Ot Mi Ad Sm] w (RetShort19 N ms w) := by
  have hC := Lib.hid fun W (hG : Gr W W.heap.size A ms) => check_any (N : Int) St Ot Mi Ad Sm A gcap ms W hG
  have hM := Lib.hid fun W (hG : Gr W W.heap.size A ms) => makingsOf_any (N : Int) St Ot Mi Ad Sm A gcap ms W hN.len (fun m hm => ⟨(hN.rng m hm).1, fun x hx => ⟨((hN.rng m hm).2 x hx).1, Int.le_trans ((hN.rng m hm).2 x hx).2 (by decide)⟩⟩) hG
  have hS := Lib.hid fun W (A' : Option Addr) (cap : Nat) (hG : GrI W W.heap.size A' ms) => shortest_any N hN.n1 hN.n12 ms A' cap W hN.len hN.fit (fun m hm => (hN.rng m hm).2) hG
  have HFT := Lib.hid hN.fit
  have hN12 := hN.n12
  rw [h] at hC
  clear hN h
  have hb0 : Below w.heap.size w (w.alloc (.cells #[.int .i64 (N : Int), .int .i64 St, .slice A ms.length gcap, .int .i64 Ot, .int .i64 Mi, .int .i64 Ad, .int .i64 Sm] 24)) := below_new _ _
  have kG : Blk (w.alloc (.cells #[.int .i64 (N : Int), .int .i64 St, .slice A ms.length gcap, .int .i64 Ot, .int .i64 Mi, .int .i64 Ad, .int .i64 Sm] 24)) w.heap.size 24 #[.int .i64 (N : Int), .int .i64 St, .slice A ms.length gcap, .int .i64 Ot, .int .i64 Mi, .int .i64 Ad, .int .i64 Sm] := Blk.new _ _ _
  have hG1 := hG.behind hb0
  go_enter Tryz.func19, Tryz.ntmps19
  go_wp2_with (first
    | (go_at_call 25; refine (hC.out _ hG1).mono ?_; rintro e w1 ⟨rfl, hb1⟩; have hG2 := hG1.behind hb1; have kG1 := kG.below hb1 (by first | (simp; done) | (simp; omega) | omega); obtain ⟨a0, a1, a2, a3, a4, a5, a6⟩ : w1.cell? ⟨w.heap.size, 0, none⟩ = some (.int .i64 (N : Int)) ∧ w1.cell? ⟨w.heap.size, 1, none⟩ = some (.int .i64 St) ∧ w1.cell? ⟨w.heap.size, 2, none⟩ = some (.slice A ms.length gcap) ∧ w1.cell? ⟨w.heap.size, 3, none⟩ = some (.int .i64 Ot) ∧ w1.cell? ⟨w.heap.size, 4, none⟩ = some (.int .i64 Mi) ∧ w1.cell? ⟨w.heap.size, 5, none⟩ = some (.int .i64 Ad) ∧ w1.cell? ⟨w.heap.size, 6, none⟩ = some (.int .i64 Sm) := ⟨kG1.cell 0, kG1.cell 1, kG1.cell 2, kG1.cell 3, kG1.cell 4, kG1.cell 5, kG1.cell 6⟩)
    | (go_at_call 68; refine (hM.out _ hG2).mono ?_; rintro e w2 ⟨g, rfl, hGI, hb2⟩; have kG2 := kG1.below hb2 kG1.lt)
    | (go_at_call 67; refine (hS.out _ _ _ hGI).mono ?_; rintro e w3 ⟨j, rfl, hst, hb3⟩; have hXs := (StOk.start N).iter HFT.out j; have HJ : Hid (rnd ms (iter ms (List.replicate N (-1)) j) = iter ms (List.replicate N (-1)) j) := hst; clear hst; obtain ⟨X, hXe⟩ : ∃ X, X = iter ms (List.replicate N (-1)) j := ⟨_, rfl⟩; rw [← hXe] at hXs HJ ⊢; have HX := Lib.hid hXe; clear hXe; have hc13 := cOf_len (N := N) hXs.len hN12; have kB0 : Blk (w3.alloc (.cells #[.int .i64 0, .int .i64 0, .int .i64 0, .int .i64 0, .int .i64 0, .int .i64 0, .int .i64 0, .int .i64 0, .int .i64 0, .int .i64 0, .int .i64 0, .int .i64 0, .int .i64 0] 111)) w3.heap.size 111 #[.int .i64 0, .int .i64 0, .int .i64 0, .int .i64 0, .int .i64 0, .int .i64 0, .int .i64 0, .int .i64 0, .int .i64 0, .int .i64 0, .int .i64 0, .int .i64 0, .int .i64 0] := Blk.new _ _ _; have kG3 := (kG2.below hb3 kG2.lt).alloc (.cells #[.int .i64 0, .int .i64 0, .int .i64 0, .int .i64 0, .int .i64 0, .int .i64 0, .int .i64 0, .int .i64 0, .int .i64 0, .int .i64 0, .int .i64 0, .int .i64 0, .int .i64 0] 111); have hzz : (#[.int .i64 0, .int .i64 0, .int .i64 0, .int .i64 0, .int .i64 0, .int .i64 0, .int .i64 0, .int .i64 0, .int .i64 0, .int .i64 0, .int .i64 0, .int .i64 0, .int .i64 0] : Array Value).size = (nums (cOf N X)).size := by rw [nums_size, hc13]; rfl)
    | (refine wpList_store_row rfl 111 _ _ rfl _ _ rfl rfl 111 _ kB0 (info111 _ hc13) hzz (nums_one _) ?_))
  obtain ⟨W4, hW4⟩ : ∃ W4, W4 = (w3.alloc (.cells #[.int .i64 0, .int .i64 0, .int .i64 0, .int .i64 0, .int .i64 0, .int .i64 0, .int .i64 0, .int .i64 0, .int .i64 0, .int .i64 0, .int .i64 0, .int .i64 0, .int .i64 0] 111)).setRow w3.heap.size (nums (cOf N X)) := ⟨_, rfl⟩
  obtain ⟨C, hCe⟩ : ∃ C, C = w3.heap.size := ⟨_, rfl⟩
  have hb03 := below_next (below_next (below_next hb0 hb0.size hb1) (below_next hb0 hb0.size hb1).size hb2) (below_next (below_next hb0 hb0.size hb1) (below_next hb0 hb0.size hb1).size hb2).size hb3
  have kC4 : Blk W4 C 111 (nums (cOf N X)) := by rw [hW4, hCe]; exact kB0.setRow _
  have hwlt : w.heap.size < w3.heap.size := by have := (kG2.below hb3 kG2.lt).lt; omega
  have kG4 : Blk W4 w.heap.size 24 #[.int .i64 (N : Int), .int .i64 St, .slice A ms.length gcap, .int .i64 Ot, .int .i64 Mi, .int .i64 Ad, .int .i64 Sm] := by rw [hW4]; exact kG3.farRow (g' := w3.heap.size) (by omega) _
  have hb4 : Below w.heap.size w W4 := by rw [hW4]; exact below_setRow (hb03.alloc hb03.size _) hb03.size _
  rw [← hW4, ← hCe]
  clear kB0 kG3 kG2 hzz kG1 hG2 hGI hb03 hW4 hwlt hCe a0 a1 a2 a3 a4 a5 a6 hb3 hb2 hb1 hG1 hb0 kG
  clear hC hM hS hG
  have hB0 : Hid (∃ Bs, Bs = W4.heap.size) := ⟨_, rfl⟩
  obtain ⟨Bs, hBs⟩ := hB0.out
  have hb5' : Below Bs W4 W4 := Below.refl _ _
  have hCl := kC4.lt
  have hGl := kG4.lt
  have hBle : Bs ≤ W4.heap.size := by omega
  have hszr := hb4.size
  rw [← hBs] at hCl hGl hszr
  have hXl := hXs.len
  go_loopw [6, 7] (fun v i w5 => ∃ k : Nat, ∃ A c, k ≤ N ∧ i = .int .i64 ((k : Int) + 1) ∧ v = .slice A (X.take k).length c ∧ Below Bs W4 w5 ∧ w5.ownsRow Bs 3 1 (.slice A (X.take k).length c) (X.take k).length ((X.take k).map (Value.int .i64)))
    (fun _ i _ => N + 1 - (intOf i).toNat)
  case atStart => exact ⟨0, none, 0, by omega, rfl, rfl, hb5', World.ownsRow_nil _ _ _ _⟩
  case round =>
    obtain ⟨k, A', c, hk, rfl, rfl, hb6, hown⟩ := hrel
    have kG6 := kG4.below hb6 hGl
    have kC6 := kC4.below hb6 hCl
    have b0 : wr.cell? ⟨w.heap.size, 0, none⟩ = some (.int .i64 (N : Int)) := kG6.cell 0
    have hszb : Bs ≤ wr.heap.size := by have := hb6.size; omega
    have htl : (X.take k).length = k := by rw [List.length_take]; omega
    by_cases hlt : k < N
    · have hkX : k < X.length := by omega
      have q1 : decide ((k : Int) + 1 ≤ (N : Int)) = true := decide_eq_true (by omega)
      have q2 : (k : Int) < (N : Int) := by omega
      have q3 : (k : Int) + 1 < 13 := by omega
      have bC : wr.cell? ⟨C, k + 1, none⟩ = some (.int .i64 (up X[k])) := by rw [kC6.cell]; simp [nums, cOf_get hkX]
      have HT := Lib.hid (told_up (hXs.le hN12 (List.getElem_mem hkX)))
      have hnx : X.take k ++ [X[k]] = X.take (k + 1) := by rw [List.take_succ_eq_append_getElem hkX]
      generalize X[k] = x at bC HT hnx
      have HNX := Lib.hid hnx
      have hl10 : (X.take k).length ≤ 1000000 := by omega
      clear hnx htl
      generalize X.take k = L at hown HNX hl10 ⊢
      go_wp2_with (first
        | (go_at_call 69; refine (told_any _ _).mono ?_; rw [HT.out]; rintro e w5 ⟨rfl, rfl⟩)
        | (at_builtin; refine app1 (by rfl) _ _ (by rfl) Bs L x _ (by rfl) hown (by rfl) hl10 hszb ?_; intro A2 c2 w6 hown1 hb7))
      go_roundw
      case rel => exact ⟨k + 1, A2, c2, by omega, by go_num, by rw [← HNX.out]; simp, hb6.trans hb7, by rw [← HNX.out]; exact hown1⟩
      case measure => simp [intOf]; try omega
    · obtain rfl : k = N := by omega
      have q1 : decide ((k : Int) + 1 ≤ (k : Int)) = false := decide_eq_false (by omega)
      have q2 : ¬ (k : Int) + 1 ≤ (k : Int) := by omega
      have eT : X.take k = X := List.take_of_length_le (by omega)
      have hI := ints_far hown
      rw [eT] at hI
      have hbw6 := hb4.trans (hb6.mono hszr)
      rw [htl] at hown ⊢
      go_wp2_with fail
      go_ret2
      exact ⟨j, A', c, by rfl, by rw [← HX.out]; exact HJ.out, by rw [← HX.out]; exact hI _ (fun p _ => rfl) (Nat.le_refl _), hbw6⟩
end
end Go.Proofs.YtieclenlldjfjaaGreat
