import Derived.Test.YtnjmkdgglpcfpaaA2
namespace Go.Proofs.Ytnjmkdgglpcfpaa
open Go.RowKit

theorem info24 (a b c d e : Value) : (Try.prog.info? 24).map (·.size) = some #[a, b, c, d, e].size := by kernel_rfl

set_option maxRecDepth 100000 in
set_option maxHeartbeats 1000000 in
theorem check_loop (C R B F : Int) (A : Option Addr) (cap : Nat) (cl : List Int) (w : World) (hr : Ints w w.heap.size A cl)
    (g11 : 3 ≤ C) (g12 : C ≤ 120) (g13 : 1 ≤ R) (g14 : R ≤ 16) (g21 : 0 ≤ B) (g22 : 0 ≤ F) (g23 : F < C - B) (g31 : (cl.length : Int) ≤ 120) :
    Calls Try.prog 26 #[.agg #[.int .i64 C, .int .i64 R, .int .i64 B, .int .i64 F, .slice A cl.length cap]] w fun e w' => e = .returned (.int .i64 (riseI C cl)) ∧ Below w.heap.size w w' := by
  go_enter Try.func26, Try.ntmps26
  go_wp2_with (fail)
  go_loopw [3, 4, 48] (fun _ _ i wr => ∃ k : Nat, k ≤ cl.length ∧ i = .int .i64 k ∧ Rise C (cl.take k) ∧ Below w.heap.size w wr ∧ Blk wr w.heap.size 24 #[.int .i64 C, .int .i64 R, .int .i64 B, .int .i64 F, .slice A cl.length cap])
    (fun _ _ i _ => cl.length - (intOf i).toNat)
  case atStart => exact ⟨0, Nat.zero_le _, rfl, by simpa using Rise.nil, below_new _ _, Blk.new _ _ _⟩
  case round =>
    obtain ⟨k, hk, rfl, hrise, hb, hblk⟩ := hrel
    have hb1 := hblk.lt
    have hsz := hb.size
    have c0 := hblk.cell 0
    have c2 := hblk.cell 2
    have c3 := hblk.cell 3
    have c4 := hblk.cell 4
    by_cases hlt : k < cl.length
    · obtain ⟨ad, rfl, hB, hc⟩ := (hr.below hb).get hlt
      by_cases hx : 0 ≤ cl[k] ∧ cl[k] < C
      · have hd : decide (0 ≤ cl[k] ∧ cl[k] < C) = true := by simpa using hx
        obtain ⟨hx0, hx1⟩ := hx
        rcases Nat.eq_zero_or_pos k with hk0 | hk0
        · have hn : Hid (Rise C (cl.take (k + 1))) := by subst hk0; exact rise_first hlt hx0 hx1
          have hk1 : decide (0 < k) = false := by simp; omega
          have hk2 : ¬ 0 < k := by omega
          clear hrise hk0
          go_wp2_with (first
            | (refine wpList_load_row (by rfl) 24 _ (by rfl) _ (by rfl) 24 _ (0, 0) _ hblk Try.underlying24 rfl (info24 _ _ _ _ _) ?_)
            | (go_at_call 74; refine (isColumn_any _ _ _ _ _ _ _).mono ?_; rintro e w1 ⟨rfl, hb2⟩; obtain ⟨q1, q2⟩ := bcell hb2))
          go_roundw
          case rel => exact ⟨k + 1, by omega, by go_num, hn.out, below_next hb (by omega) hb2, hblk.below hb2 (by omega)⟩
          case measure => simp [intOf]; try omega
        · have hk1 : (0 : Int) < (k : Int) := by omega
          have hk2 : ((k : Int) - 1).toNat = k - 1 := by omega
          obtain ⟨ad', hA, hB', hcp⟩ := (hr.below hb).get (k := k - 1) (by omega)
          cases hA
          by_cases hy : cl[k - 1] < cl[k]
          · have hn := Lib.hid (rise_next hlt hk0 hrise hx0 hx1 hy)
            clear hrise
            go_wp2_with (first
              | (refine wpList_load_row (by rfl) 24 _ (by rfl) _ (by rfl) 24 _ (0, 0) _ hblk Try.underlying24 rfl (info24 _ _ _ _ _) ?_)
              | (go_at_call 74; refine (isColumn_any _ _ _ _ _ _ _).mono ?_; rintro e w1 ⟨rfl, hb2⟩; obtain ⟨q1, q2⟩ := bcell hb2; have hcq := (hb2.cell (p := ad.add (k - 1)) (by rw [addr_block]; omega)).trans hcp))
            go_roundw
            case rel => exact ⟨k + 1, by omega, by go_num, hn.out, below_next hb (by omega) hb2, hblk.below hb2 (by omega)⟩
            case measure => simp [intOf]; try omega
          · have hy' : cl[k] ≤ cl[k - 1] := by omega
            have hno := Lib.hid (fun h : Rise C cl => hy (h.step hlt hk0))
            clear hrise hy
            go_wp2_with (first
              | (refine wpList_load_row (by rfl) 24 _ (by rfl) _ (by rfl) 24 _ (0, 0) _ hblk Try.underlying24 rfl (info24 _ _ _ _ _) ?_)
              | (go_at_call 74; refine (isColumn_any _ _ _ _ _ _ _).mono ?_; rintro e w1 ⟨rfl, hb2⟩; obtain ⟨q1, q2⟩ := bcell hb2; have hcq := (hb2.cell (p := ad.add (k - 1)) (by rw [addr_block]; omega)).trans hcp))
            go_ret
            exact ⟨(by first | rfl | exact ret_int (riseI_no hno.out).symm), below_next hb (by omega) hb2⟩
      · have hno := Lib.hid (fun h : Rise C cl => hx (h.at hlt))
        have hd : decide (0 ≤ cl[k] ∧ cl[k] < C) = false := by simpa using hx
        clear hrise hx
        go_wp2_with (first
          | (refine wpList_load_row (by rfl) 24 _ (by rfl) _ (by rfl) 24 _ (0, 0) _ hblk Try.underlying24 rfl (info24 _ _ _ _ _) ?_)
          | (go_at_call 74; refine (isColumn_any _ _ _ _ _ _ _).mono ?_; rw [hd]; rintro e w1 ⟨rfl, hb2⟩; obtain ⟨q1, q2⟩ := bcell hb2))
        go_ret
        exact ⟨(by first | rfl | exact ret_int (riseI_no hno.out).symm), below_next hb (by omega) hb2⟩
    · have hy : Rise C cl := by rw [List.take_of_length_le (by omega)] at hrise; exact hrise
      have HY := Lib.hid (riseI_yes hy)
      clear hrise hy
      go_wp2_with fail
      go_ret
      exact ⟨(by first | rfl | exact ret_int HY.out.symm), hb⟩

set_option maxRecDepth 100000 in
set_option maxHeartbeats 1000000 in
theorem check_any (C R B F : Int) (A : Option Addr) (cap : Nat) (cl : List Int) (w : World) (hB : B ≤ 9223372036854775807) (hcl : cl.length ≤ 9223372036854775807) (hr : Ints w w.heap.size A cl) :
    Calls Try.prog 26 #[.agg #[.int .i64 C, .int .i64 R, .int .i64 B, .int .i64 F, .slice A cl.length cap]] w fun e w' => e = .returned (.int .i64 (chk C R B F cl)) ∧ Below w.heap.size w w' := by
  by_cases g1 : C < 3 ∨ 120 < C ∨ R < 1 ∨ 16 < R
  · have e1 : chk C R B F cl = 1 := by unfold chk; rw [if_pos g1]
    have E1 := Lib.hid e1
    clear e1
    rcases g1 with g | g | g | g
    all_goals
      go_enter Try.func26, Try.ntmps26
      go_wp2_with (fail)
      all_goals first
        | (go_ret; exact ⟨ret_int E1.out.symm, below_new _ _⟩)
        | (exfalso; omega)
  · have g11 : 3 ≤ C := by omega
    have g12 : C ≤ 120 := by omega
    have g13 : 1 ≤ R := by omega
    have g14 : R ≤ 16 := by omega
    by_cases g2 : B < 0 ∨ F < 0 ∨ C - B ≤ F
    · have e1 : chk C R B F cl = 1 := by unfold chk; rw [if_neg g1, if_pos g2]
      have E1 := Lib.hid e1
      clear e1 g1
      rcases g2 with g | g | g
      all_goals
        go_enter Try.func26, Try.ntmps26
        go_wp2_with (fail)
        all_goals first
          | (go_ret; exact ⟨ret_int E1.out.symm, below_new _ _⟩)
          | (exfalso; omega)
    · have g21 : 0 ≤ B := by omega
      have g22 : 0 ≤ F := by omega
      have g23 : F < C - B := by omega
      by_cases g3 : 120 < cl.length
      · have e1 : chk C R B F cl = 2 := by unfold chk; rw [if_neg g1, if_neg g2, if_pos g3]
        have E1 := Lib.hid e1
        have g31 : (120 : Int) < cl.length := by omega
        clear e1 g1 g2
        go_enter Try.func26, Try.ntmps26
        go_wp2_with (fail)
        go_ret
        exact ⟨ret_int E1.out.symm, below_new _ _⟩
      · have e1 : chk C R B F cl = riseI C cl := by unfold chk; rw [if_neg g1, if_neg g2, if_neg g3]
        rw [e1]
        exact check_loop C R B F A cap cl w hr g11 g12 g13 g14 g21 g22 g23 (by omega)

end Go.Proofs.Ytnjmkdgglpcfpaa
