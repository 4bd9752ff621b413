import Derived.Test.YtnjmkdgglpcfpaaProg
import Derived.Test.YtnjmkdgglpcfpaaWd
import Derived.WalkKit
import Derived.WalkSpells
import Derived.WalkLawsBesides
import Derived.Deep.QuietTactic
import Derived.BigQuiet
import Derived.Lib.Hide
import Derived.IntWalk
import Derived.Deep.RegionHeld3
import Derived.Deep.DeepCutAuto
namespace Go.Proofs.Ytnjmkdgglpcfpaa
open Go.RowKit

set_option maxHeartbeats 400000 in
theorem in_any (n lo hi : Int) (w : World) :
    Calls Try.prog 61 #[.int .i64 n, .int .i64 lo, .int .i64 hi] w fun e w' => e = .returned (.bool (decide (lo ≤ n ∧ n ≤ hi))) ∧ w = w' := by
  go_enter Try.func61, Try.ntmps61
  go_wp2
  all_goals
    go_ret
    exact ⟨ret_bool (by simp [*]; try omega), rfl⟩

set_option maxHeartbeats 400000 in
theorem isColumn_any (C R B F : Int) (sl : Value) (c : Int) (w : World) :
    Calls Try.prog 74 #[.agg #[.int .i64 C, .int .i64 R, .int .i64 B, .int .i64 F, sl], .int .i64 c] w fun e w' => e = .returned (.bool (decide (0 ≤ c ∧ c < C))) ∧ Below w.heap.size w w' := by
  go_enter Try.func74, Try.ntmps74
  go_wp2
  all_goals
    go_ret
    exact ⟨ret_bool (by simp [*]; try omega), below_new _ _⟩

set_option maxHeartbeats 400000 in
theorem isHole_any (C R B F : Int) (sl : Value) (c : Int) (w : World) (h1 : 0 ≤ C * R) (h2 : C * R ≤ 1920) :
    Calls Try.prog 60 #[.agg #[.int .i64 C, .int .i64 R, .int .i64 B, .int .i64 F, sl], .int .i64 c] w fun e w' => e = .returned (.bool (decide (0 ≤ c ∧ c < C * R))) ∧ Below w.heap.size w w' := by
  go_enter Try.func60, Try.ntmps60
  go_wp2
  all_goals
    go_ret
    exact ⟨ret_bool (by simp [*]; try omega), below_new _ _⟩

theorem fur_eq {C s : Int} (h1 : 1 ≤ C) : (s.tmod C + C).tmod C = s % C := by
  have h := Int.tmod_eq_emod (a := s) (b := C)
  have hl := Int.lt_tmod_of_pos s (b := C) (by omega)
  rw [Int.tmod_eq_emod_of_nonneg (by omega), Int.add_emod_right]
  rw [h]
  split
  · simp
  · rw [Int.sub_emod]
    have : ((C.natAbs : Int)) = C := by omega
    rw [this, Int.emod_self]; simp

set_option maxHeartbeats 400000 in
theorem further_any (C R B F : Int) (sl : Value) (c n : Int) (w : World) (h1 : 1 ≤ C) (h2 : C ≤ 120) (h3 : -1000 ≤ c) (h4 : c ≤ 1000) (h5 : -1000 ≤ n) (h6 : n ≤ 1000) :
    Calls Try.prog 70 #[.agg #[.int .i64 C, .int .i64 R, .int .i64 B, .int .i64 F, sl], .int .i64 c, .int .i64 n] w fun e w' => e = .returned (.int .i64 ((c + n) % C)) ∧ Below w.heap.size w w' := by
  have hC : (C == 0) = false := by simp; omega
  have ht1 : -120 ≤ (c + n).tmod C := by have := Int.lt_tmod_of_pos (c + n) (b := C) (by omega); omega
  have ht2 : (c + n).tmod C ≤ 120 := by have := Int.tmod_lt_of_pos (c + n) (b := C) (by omega); omega
  go_enter Try.func70, Try.ntmps70
  go_wp2
  go_quiet (fail)
  go_wp2
  go_ret
  exact ⟨ret_int (fur_eq h1), below_new_drewN _ _ _⟩

theorem rfur_eq {C c n : Int} (h1 : 1 ≤ C) (h3 : 0 ≤ c) : (c + n.tmod C + C).tmod C = (c + n) % C := by
  have h := Int.tmod_eq_emod (a := n) (b := C)
  have hl := Int.lt_tmod_of_pos n (b := C) (by omega)
  rw [Int.tmod_eq_emod_of_nonneg (by omega), Int.add_emod_right, h]
  have : ((C.natAbs : Int)) = C := by omega
  split
  · simp
  · rw [this, show c + (n % C - C) = (c + n % C) - C from by omega, Int.sub_emod_right]; simp

set_option maxHeartbeats 400000 in
theorem refFurther_any (C R B F : Int) (sl : Value) (c n : Int) (w : World) (h1 : 1 ≤ C) (h2 : C ≤ 120) (h3 : 0 ≤ c) (h4 : c < C) (_h5 : -1000 ≤ n) (_h6 : n ≤ 1000) :
    Calls Try.prog 73 #[.agg #[.int .i64 C, .int .i64 R, .int .i64 B, .int .i64 F, sl], .int .i64 c, .int .i64 n] w fun e w' => e = .returned (.int .i64 ((c + n) % C)) ∧ Below w.heap.size w w' := by
  have hC : (C == 0) = false := by simp; omega
  have ht1 : -120 ≤ n.tmod C := by have := Int.lt_tmod_of_pos n (b := C) (by omega); omega
  have ht2 : n.tmod C ≤ 120 := by have := Int.tmod_lt_of_pos n (b := C) (by omega); omega
  go_enter Try.func73, Try.ntmps73
  go_wp2
  go_quiet (fail)
  go_wp2
  go_ret
  exact ⟨ret_int (rfur_eq h1 h3), below_new_drewN _ _ _⟩

theorem zero93 : Try.zeroCells93 = mk (isIn []) := by kernel_rfl
theorem info93 (p : Nat → Bool) : (Try.prog.info? 93).map (·.size) = some (mk p).size := by
  rw [mk_size]
  kernel_rfl

set_option maxHeartbeats 400000 in
theorem marked_any (l : List Int) (A : Option Addr) (cap : Nat) (w : World) (hl : l.length ≤ 1000) (hin : ∀ x ∈ l, 0 ≤ x ∧ x < 120) (hr : Ints w w.heap.size A l) :
    Calls Try.prog 68 #[.slice A l.length cap] w fun e w' => e = .returned (.agg (mk (isIn l))) ∧ Below w.heap.size w w' := by
  have hz := Lib.hid zero93
  go_enter Try.func68, Try.ntmps68
  go_wp2
  rw [hz.out]
  go_loopw [5, 8] (fun _ i wr => ∃ k : Nat, k ≤ l.length ∧ i = .int .i64 k ∧ Below w.heap.size w wr ∧ Blk wr w.heap.size 93 (mk (isIn [])) ∧ Blk wr (w.heap.size + 1) 93 (mk (isIn (l.take k))))
    (fun _ i _ => l.length - (intOf i).toNat)
  case atStart => exact ⟨0, Nat.zero_le _, rfl, (below_new _ _).alloc (by simp) _, (Blk.new _ _ _).alloc _, by simpa using Blk.new (w.alloc _) 93 _⟩
  case round =>
    obtain ⟨k, hk, rfl, hb, hb0, hb1⟩ := hrel
    by_cases hlt : k < l.length
    · obtain ⟨ad, rfl, hB, hc⟩ := (hr.below hb).get hlt
      have hx := hin _ (List.getElem_mem hlt)
      obtain ⟨c, hc1⟩ := Int.eq_ofNat_of_zero_le hx.1
      rw [hc1] at hc hx
      have hx2 := hx.2
      have hcc := hb1.cell c
      have hff := hb1.frozen c
      rw [mk_get _ _ (by omega)] at hcc
      have HC := Lib.hid hc1
      clear hc1 hx
      go_wp2
      go_roundw
      case rel =>
        refine ⟨k + 1, by omega, by go_num, hb.setCell (by simp) _, hb0.far (by simp) _, ?_⟩
        have hs := hb1.store c (.bool true)
        rw [mk_in_snoc _ _ (by omega)] at hs
        rw [List.take_succ_eq_append_getElem hlt, HC.out]
        exact hs
      case measure => simp [intOf]; try omega
    · have ek : l.take k = l := List.take_of_length_le (by omega)
      rw [ek] at hb1
      clear ek
      go_wp2_with (first
        | (refine wpList_load_row rfl 93 _ rfl _ rfl 93 _ (0, 0) _ hb1 Try.underlying93 rfl (info93 _) ?_)
        | (refine wpList_store_row rfl 93 _ _ rfl _ _ rfl rfl 93 _ hb0 (info93 _) (mk_sizes _ _) (mk_one _) ?_))
      exact bodyPost_ret (v := .agg (mk (isIn l))) (results_cell_row (g := w.heap.size) rfl _ _ 93 _ (0, 0) _ rfl (hb0.setRow _) Try.underlying93 rfl (info93 _)) rfl ⟨rfl, below_setRow hb (Nat.le_refl _) _⟩

set_option maxHeartbeats 400000 in
theorem reaches_any (C R B F : Int) (sl : Value) (s c : Int) (w : World) (h1 : 1 ≤ C) (h2 : C ≤ 120) (h3 : 0 ≤ c) (h4 : c < C) (h5 : 0 ≤ s) (h6 : s < C) (h7 : 0 ≤ B) (h8 : 0 ≤ F) (h9 : F < C - B):
    Calls Try.prog 109 #[.agg #[.int .i64 C, .int .i64 R, .int .i64 B, .int .i64 F, sl], .int .i64 s, .int .i64 c] w fun e w' => e = .returned (.bool (rch C B F s c)) ∧ Below w.heap.size w w' := by
  have hw1 : IntKind.i64.wrap (B - s) = B - s := IntWalk.i64_in _ (by omega)
  have hw2 : IntKind.i64.wrap (B + F) = B + F := IntWalk.i64_in _ (by omega)
  go_enter Try.func109, Try.ntmps109
  go_wp2
  go_region_held3 (fun w' => w'.cell? ⟨w.heap.size, 0, none⟩ = some (.int .i64 C) ∧ w'.cell? ⟨w.heap.size, 1, none⟩ = some (.int .i64 R) ∧ w'.cell? ⟨w.heap.size, 2, none⟩ = some (.int .i64 B) ∧ w'.cell? ⟨w.heap.size, 3, none⟩ = some (.int .i64 F) ∧ w'.cell? ⟨w.heap.size, 4, none⟩ = some sl) (go_keep)
    (first | (go_at_call 70; refine (further_any C R B F sl c (B - s) _ h1 h2 (by omega) (by omega) (by omega) (by omega)).mono ?_; rintro e w1 ⟨rfl, hb⟩; obtain ⟨hc, hf⟩ := bcell hb))
  go_wp2
  go_ret
  exact ⟨ret_bool (by simp [rch]), below_next (below_new w _).drew (by simp) hb⟩

end Go.Proofs.Ytnjmkdgglpcfpaa
