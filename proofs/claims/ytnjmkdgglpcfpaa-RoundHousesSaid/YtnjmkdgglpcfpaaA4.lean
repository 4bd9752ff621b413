import Derived.Test.YtnjmkdgglpcfpaaA3
namespace Go.Proofs.Ytnjmkdgglpcfpaa
open Go.RowKit

theorem check_ok {C R B F : Int} {A : Option Addr} {cap : Nat} {cl : List Int} (w : World) (h : Ok C R B F cl) (hr : Ints w w.heap.size A cl) :
    Calls Try.prog 26 #[.agg #[.int .i64 C, .int .i64 R, .int .i64 B, .int .i64 F, .slice A cl.length cap]] w fun e w' => e = .returned (.int .i64 0) ∧ Below w.heap.size w w' := by
  have := check_any C R B F A cap cl w (by have := h.bf; have := h.c120; have := h.f0; omega) (by have := h.len; omega) hr
  rwa [chk_ok.2 h] at this

set_option maxRecDepth 100000 in
set_option maxHeartbeats 400000 in
theorem columnsOf_any (C R B F : Int) (sl : Value) (l : List Int) (A : Option Addr) (cap : Nat) (w : World) (h1 : 1 ≤ C) (h2 : C ≤ 120) (hl : l.length ≤ 1000) (hin : ∀ x ∈ l, 0 ≤ x) (hr : Ints w w.heap.size A l) :
    Calls Try.prog 77 #[.agg #[.int .i64 C, .int .i64 R, .int .i64 B, .int .i64 F, sl], .slice A l.length cap] w fun e w' => e = .returned (.agg (mk (isIn (colm C l)))) ∧ Below w.heap.size w w' := by
  have hz := Lib.hid zero93
  have hC : (C == 0) = false := by simp; omega
  go_enter Try.func77, Try.ntmps77
  go_wp2_with fail
  rw [hz.out]
  go_loopw [7, 10] (fun _ i wr => ∃ k : Nat, k ≤ l.length ∧ i = .int .i64 k ∧ Below w.heap.size w wr ∧ Blk wr w.heap.size 24 #[.int .i64 C, .int .i64 R, .int .i64 B, .int .i64 F, sl] ∧ Blk wr (w.heap.size + 1) 93 (mk (isIn [])) ∧ Blk wr (w.heap.size + 2) 93 (mk (isIn (colm C (l.take k)))))
    (fun _ i _ => l.length - (intOf i).toNat)
  case atStart =>
    exact ⟨0, Nat.zero_le _, rfl, ((below_new _ _).alloc (by simp) _).alloc (by simp; omega) _, ((Blk.new _ _ _).alloc _).alloc _, (Blk.newAt (by simp)).alloc _, Blk.newAt (by simp)⟩
  case round =>
    obtain ⟨k, hk, rfl, hb, hb0, hb1, hb2⟩ := hrel
    obtain ⟨d0, d1, d2, d3, d4⟩ := hb0.five
    by_cases hlt : k < l.length
    · obtain ⟨ad, rfl, hB, hc⟩ := (hr.below hb).get hlt
      have hx := hin _ (List.getElem_mem hlt)
      have hm0 := Int.emod_nonneg l[k] (b := C) (by omega)
      have hm1 := Int.emod_lt_of_pos l[k] (b := C) (by omega)
      obtain ⟨m, hm⟩ := Int.eq_ofNat_of_zero_le hm0
      have hmt : l[k].tmod C = (m : Int) := by rw [Int.tmod_eq_emod_of_nonneg hx, hm]
      rw [hm] at hm1
      have HM := Lib.hid hm
      clear hm hm0
      have hcc := hb2.cell m
      have hff := hb2.frozen m
      rw [mk_get _ _ (by omega)] at hcc
      go_wp2_with fail
      go_roundw
      case rel =>
        refine ⟨k + 1, by omega, by go_num, hb.setCell (by simp; omega) _, hb0.far (by simp; omega) _, hb1.far (by simp) _, ?_⟩
        · have hs := hb2.store m (.bool true)
          rw [mk_in_snoc _ _ (by omega)] at hs
          rw [List.take_succ_eq_append_getElem hlt, colm_snoc, HM.out]
          exact hs
      case measure => simp [intOf]; try omega
    · have ek : l.take k = l := List.take_of_length_le (by omega)
      rw [ek] at hb2
      clear ek
      go_wp2_with (first
        | (refine wpList_load_row (by rfl) 93 _ (by rfl) _ (by rfl) 93 _ (0, 0) _ hb2 Try.underlying93 rfl (info93 _) ?_)
        | (refine wpList_store_row (by rfl) 93 _ _ (by rfl) _ _ (by rfl) (by rfl) 93 _ hb1 (info93 _) (mk_sizes _ _) (mk_one _) ?_))
      exact bodyPost_ret (v := .agg (mk (isIn (colm C l)))) (results_cell_row (g := w.heap.size + 1) rfl _ _ 93 _ (0, 0) _ rfl (hb1.setRow _) Try.underlying93 rfl (info93 _)) rfl ⟨rfl, below_setRow hb (by omega) _⟩

theorem colsTo_mem {p : Nat → Bool} {k : Nat} {x : Int} : x ∈ colsTo p k ↔ ∃ i : Nat, i < k ∧ p i = true ∧ x = (i : Int) := by
  simp only [colsTo, List.mem_map, List.mem_filter, List.mem_range]
  constructor
  · rintro ⟨i, ⟨h1, h2⟩, rfl⟩; exact ⟨i, h1, h2, rfl⟩
  · rintro ⟨i, h1, h2, rfl⟩; exact ⟨i, ⟨h1, h2⟩, rfl⟩

set_option maxRecDepth 100000 in
set_option maxHeartbeats 400000 in
theorem openStands_any (C R B F : Int) (sl : Value) (shut : Nat → Bool) (c : Int) (w : World) (h1 : 1 ≤ C) (h2 : C ≤ 120) (h3 : 0 ≤ c) (h4 : c < C) (h7 : 0 ≤ B) (h8 : 0 ≤ F) (h9 : F < C - B) :
    Calls Try.prog 67 #[.agg #[.int .i64 C, .int .i64 R, .int .i64 B, .int .i64 F, sl], .agg (mk shut), .int .i64 c] w (RetInts w (opens C B F shut c)) := by
  obtain ⟨n, rfl⟩ := Int.eq_ofNat_of_zero_le (show 0 ≤ C by omega)
  unfold opens
  rw [Int.toNat_natCast]
  generalize hp : (fun s : Nat => !shut s && rch (n : Int) B F s c) = p
  have HP := Lib.hid hp
  clear hp
  go_enter Try.func67, Try.ntmps67
  go_wp2_with fail
  go_loopw [7, 8, 11] (fun v _ i wr => ∃ k : Nat, ∃ A c', k ≤ n ∧ i = .int .i64 k ∧ v = .slice A (colsTo p k).length c' ∧ Below w.heap.size w wr ∧ Blk wr w.heap.size 24 #[.int .i64 n, .int .i64 R, .int .i64 B, .int .i64 F, sl] ∧ Blk wr (w.heap.size + 1) 93 (mk shut) ∧ wr.ownsRow (w.heap.size + 2) 3 1 (.slice A (colsTo p k).length c') (colsTo p k).length ((colsTo p k).map (Value.int .i64)))
    (fun _ _ i _ => n - (intOf i).toNat)
  case atStart => exact ⟨0, none, 0, by omega, rfl, rfl, (below_new _ _).alloc (by simp) _, (Blk.new _ _ _).alloc _, Blk.newAt (by simp), World.ownsRow_nil _ _ _ _⟩
  case round =>
    obtain ⟨k, A, c', hk, rfl, rfl, hb, hb0, hb1, hown⟩ := hrel
    have hlt0 := hb0.lt
    have hlt1 := hb1.lt
    by_cases hlt : k < n
    · have hc1 := hb1.cell k
      rw [mk_get _ _ (by omega)] at hc1
      have hln := colsTo_len p k
      obtain ⟨d0, d1, d2, d3, d4⟩ := hb0.five
      cases hs : shut k with
      | true =>
        have hpk : p k = false := by rw [← HP.out]; simp [hs]
        have HY := Lib.hid (colsTo_no hpk)
        rw [hs] at hc1
        clear hpk hs
        go_wp2_with fail
        go_roundw
        case rel => exact ⟨k + 1, A, c', by omega, by go_num, by rw [HY.out], hb, hb0, hb1, by rw [HY.out]; exact hown⟩
        case measure => simp [intOf]; try omega
      | false =>
        rw [hs] at hc1
        cases hr : rch (n : Int) B F k c with
        | true =>
          have hpk : p k = true := by rw [← HP.out]; simp [hs, hr]
          have HY := Lib.hid (colsTo_yes hpk)
          have HR := Lib.hid hr
          clear hpk hs hr
          go_wp2_with (first
            | (go_at_call 109; refine (reaches_any _ _ _ _ _ _ _ _ h1 h2 h3 h4 (by omega) (by omega) h7 h8 h9).mono ?_; rw [HR.out]; rintro e w1 ⟨rfl, hb2⟩; obtain ⟨q1, q2⟩ := bcell hb2)
            | (at_builtin; refine app1 (by rfl) _ _ (by rfl) (w.heap.size + 2) (colsTo p k) k _ (by rfl) (own_below hown hb2) (by rfl) (by omega) (by have := hb2.size; omega) ?_; intro A' c'' w2 hown1 hb3))
          go_roundw
          case rel =>
            have hz := hb2.size
            exact ⟨k + 1, A', c'', by omega, by go_num, by rw [HY.out]; simp, (below_next hb (by omega) hb2).trans (hb3.mono (by omega)), (hb0.below hb2 (by omega)).below hb3 (by omega), (hb1.below hb2 (by omega)).below hb3 (by omega), by rw [HY.out]; exact hown1⟩
          case measure => simp [intOf]; try omega
        | false =>
          have hpk : p k = false := by rw [← HP.out]; simp [hr]
          have HY := Lib.hid (colsTo_no hpk)
          have HR := Lib.hid hr
          clear hpk hs hr
          go_wp2_with (first
            | (go_at_call 109; refine (reaches_any _ _ _ _ _ _ _ _ h1 h2 h3 h4 (by omega) (by omega) h7 h8 h9).mono ?_; rw [HR.out]; rintro e w1 ⟨rfl, hb2⟩; obtain ⟨q1, q2⟩ := bcell hb2))
          go_roundw
          case rel => exact ⟨k + 1, A, c', by omega, by go_num, by rw [HY.out], below_next hb (by omega) hb2, hb0.below hb2 (by omega), hb1.below hb2 (by omega), by rw [HY.out]; exact own_below hown hb2⟩
          case measure => simp [intOf]; try omega
    · obtain rfl : k = n := by omega
      go_wp2_with fail
      go_ret
      exact RetInts.of_own hown hb

end Go.Proofs.Ytnjmkdgglpcfpaa
