import Derived.Test.YtnjmkdgglpcfpaaA3
namespace Go.Proofs.Ytnjmkdgglpcfpaa
open Go.RowKit

theorem check_ok {C R B F : Int} {A : Option Addr} {cap : Nat} {cl : List Int} (w : World) (h : Ok C R B F cl) (hr : Ints w w.heap.size A cl) :
    Calls Try.prog 26 #[.agg #[.int .i64 C, .int .i64 R, .int .i64 B, .int .i64 F, .slice A cl.length cap]] w fun e w' => e = .returned (.int .i64 0) ∧ Below w.heap.size w w' := by
  have := check_any C R B F A cap cl w (by have := h.bf; have := h.c120; have := h.f0; omega) (by have := h.len; omega) hr
  rwa [chk_ok.2 h] at this

set_option maxRecDepth 100000 in
set_option maxHeartbeats 400000 in
theorem columnsOf_any (C R B F : Int) (sl : Value) (l : List Int) (A : Option Addr) (cap : Nat) (w : World) (h1 : 1 ≤ C) (h2 : C ≤ 120) (hl : l.length ≤ 1000) (hin : ∀ x ∈ l, 0 ≤ x) (hr : Ints w w.heap.size A l) :
    Calls Try.prog 77 #[.agg #[.int .i64 C, .int .i64 R, .int .i64 B, .int .i64 F, sl], .slice A l.length cap] w fun e w' => e = .returned (.agg (mk (isIn (colm C l)))) ∧ Below w.heap.size w w' := by
  have hz := Lib.hid zero93
  have hC : (C == 0) = false := by simp; omega
  go_enter Try.func77, Try.ntmps77
  go_wp2_with fail
  rw [hz.out]
  go_loopw [7, 10] (fun _ i wr => ∃ k : Nat, k ≤ l.length ∧ i = .int .i64 k ∧ Below w.heap.size w wr ∧ Blk wr w.heap.size 24 #[.int .i64 C, .int .i64 R, .int .i64 B, .int .i64 F, sl] ∧ Blk wr (w.heap.size + 1) 93 (mk (isIn [])) ∧ Blk wr (w.heap.size + 2) 93 (mk (isIn (colm C (l.take k)))))
    (fun _ i _ => l.length - (intOf i).toNat)
  case atStart =>
    exact ⟨0, Nat.zero_le _, rfl, ((below_new _ _).alloc (by simp) _).alloc (by simp; omega) _, ((Blk.new _ _ _).alloc _).alloc _, (Blk.newAt (by simp)).alloc _, Blk.newAt (by simp)⟩
  case round =>
    obtain ⟨k, hk, rfl, hb, hb0, hb1, hb2⟩ := hrel
    obtain ⟨d0, d1, d2, d3, d4⟩ := hb0.five
    by_cases hlt : k < l.length
    · obtain ⟨ad, rfl, hB, hc⟩ := (hr.below hb).get hlt
      have hx := hin _ (List.getElem_mem hlt)
      have hm0 := Int.emod_nonneg l[k] (b := C) (by omega)
      have hm1 := Int.emod_lt_of_pos l[k] (b := C) (by omega)
      obtain ⟨m, hm⟩ := Int.eq_ofNat_of_zero_le hm0
      have hmt : l[k].tmod C = (m : Int) := by rw [Int.tmod_eq_emod_of_nonneg hx, hm]
      rw [hm] at hm1
      have HM := Lib.hid hm
      clear hm hm0
      have hcc := hb2.cell m
      have hff := hb2.frozen m
      rw [mk_get _ _ (by omega)] at hcc
      go_wp2_with fail
      go_roundw
      case rel =>
        refine ⟨k + 1, by omega, by go_num, hb.setCell (by simp; omega) _, hb0.far (by simp; omega) _, hb1.far (by simp) _, ?_⟩
        · have hs := hb2.store m (.bool true)
          rw [mk_in_snoc _ _ (by omega)] at hs
          rw [List.take_succ_eq_append_getElem hlt, colm_snoc, HM.out]
          exact hs
      case measure => simp [intOf]; try omega
    · have ek : l.take k = l := List.take_of_length_le (by omega)
      rw [ek] at hb2
      clear ek
      go_wp2_with (first
        | (refine wpList_load_row (by rfl) 93 _ (by rfl) _ (by rfl) 93 _ (0, 0) _ hb2 Try.underlying93 rfl (info93 _) ?_)
        | (refine wpList_store_row (by rfl) 93 _ _ (by rfl) _ _ (by rfl) (by rfl) 93 _ hb1 (info93 _) (mk_sizes _ _) (mk_one _) ?_))
      exact bodyPost_ret (v := .agg (mk (isIn (colm C l)))) (results_cell_row (g := w.heap.size + 1) rfl _ _ 93 _ (0, 0) _ rfl (hb1.setRow _) Try.underlying93 rfl (info93 _)) rfl ⟨rfl, below_setRow hb (by omega) _⟩

theorem colsTo_mem {p : Nat → Bool} {k : Nat} {x : Int} : x ∈ colsTo p k ↔ ∃ i : Nat, i < k ∧ p i = true ∧ x = (i : Int) := by
  simp only [colsTo, List.mem_map, List.mem_filter, List.mem_range]
  constructor
  · rintro ⟨i, ⟨h1, h2⟩, rfl⟩; exact ⟨i, h1, h2, rfl⟩
  · rintro ⟨i, h1, h2, rfl⟩; exact ⟨i, ⟨h1, h2⟩, rfl⟩

set_option maxRecDepth 100000 in
set_option maxHeartbeats 400000 in
theorem openStands_any (C R B F : Int) (sl : Value) (shut : Nat → Bool) (c : Int) (w : World) (h1 : 1 ≤ C) (h2 : C ≤ 120) (h3 : 0 ≤ c) (h4 : c < C) (h7 : 0 ≤ B) (h8 : 0 ≤ F) (h9 : F < C - B) :
    Calls Try.prog 67 #[.agg #[.int .i64 C, .int .i64 R, .int .i64 B, .int .i64 F, sl], .agg (mk shut), .int .i64 c] w (RetInts w (opens C B F shut c)) := by
  obtain ⟨n, rfl⟩ := Int.eq_ofNat_of_zero_le (show 0 ≤ C by omega)
  unfold opens
  rw [Int.toNat_natCast]
  generalize hp : (fun s : Nat => !shut s && rch (n : Int) B F s c) = p
  have HP := Lib.hid hp
  clear hp
  go_enter Try.func67, Try.ntmps67
  go_wp2_with fail
  go_loopw [7, 8, 11] (fun v _ i wr => ∃ k : Nat, ∃ A c', k ≤ n ∧ i = .int .i64 k ∧ v = .slice A (colsTo p k).length c' ∧ Below w.heap.size w wr ∧ Blk wr w.heap.size 24 #[.int .i64 n, .int .i64 R, .int .i64 B, .int .i64 F, sl] ∧ Blk wr (w.heap.size + 1) 93 (mk shut) ∧ wr.ownsRow (w.heap.size + 2) 3 1 (.slice A (colsTo p k).length c') (colsTo p k).length ((colsTo p k).map (Value.int .i64)))
    (fun _ _ i _ => n - (intOf i).toNat)
  case atStart => exact ⟨0, none, 0, by omega, rfl, rfl, (below_new _ _).alloc (by simp) _, (Blk.new _ _ _).alloc _, Blk.newAt (by simp), World.ownsRow_nil _ _ _ _⟩
  case round =>
    obtain ⟨k, A, c', hk, rfl, rfl, hb, hb0, hb1, hown⟩ := hrel
    have hlt0 := hb0.lt
    have hlt1 := hb1.lt
    by_cases hlt : k < n
    · have hc1 := hb1.cell k
      rw [mk_get _ _ (by omega)] at hc1
      have hln := colsTo_len p k
      obtain ⟨d0, d1, d2, d3, d4⟩ := hb0.five
      cases hs : shut k with
      | true =>
        have hpk : p k = false := by rw [← HP.out]; simp [hs]
        have HY := Lib.hid (colsTo_no hpk)
        rw [hs] at hc1
        clear hpk hs
        go_wp2_with fail
        go_roundw
        case rel => exact ⟨k + 1, A, c', by omega, by go_num, by rw [HY.out], hb, hb0, hb1, by rw [HY.out]; exact hown⟩
        case measure => simp [intOf]; try omega
      | false =>
        rw [hs] at hc1
        cases hr : rch (n : Int) B F k c with
        | true =>
          have hpk : p k = true := by rw [← HP.out]; simp [hs, hr]
          have HY := Lib.hid (colsTo_yes hpk)
          have HR := Lib.hid hr
          clear hpk hs hr
          go_wp2_with (first
            | (go_at_call 109; refine (reaches_any _ _ _ _ _ _ _ _ h1 h2 h3 h4 (by omega) (by omega) h7 h8 h9).mono ?_; rw [HR.out]; rintro e w1 ⟨rfl, hb2⟩; obtain ⟨q1, q2⟩ := bcell hb2)
            | (at_builtin; refine app1 (by rfl) _ _ (by rfl) (w.heap.size + 2) (colsTo p k) k _ (by rfl) (own_below hown hb2) (by rfl) (by omega) (by have := hb2.size; omega) ?_; intro A' c'' w2 hown1 hb3))
          go_roundw
          case rel =>
            have hz := hb2.size
            exact ⟨k + 1, A', c'', by omega, by go_num, by rw [HY.out]; simp, (below_next hb (by omega) hb2).trans (hb3.mono (by omega)), (hb0.below hb2 (by omega)).below hb3 (by omega), (hb1.below hb2 (by omega)).below hb3 (by omega), by rw [HY.out]; exact hown1⟩
          case measure => simp [intOf]; try omega
        | false =>
          have hpk : p k = false := by rw [← HP.out]; simp [hr]
          have HY := Lib.hid (colsTo_no hpk)
          have HR := Lib.hid hr
          clear hpk hs hr
          go_wp2_with (first
            | (go_at_call 109; refine (reaches_any _ _ _ _ _ _ _ _ h1 h2 h3 h4 (by omega) (by omega) h7 h8 h9).mono ?_; rw [HR.out]; rintro e w1 ⟨rfl, hb2⟩; obtain ⟨q1, q2⟩ := bcell hb2))
          go_roundw
          case rel => exact ⟨k + 1, A, c', by omega, by go_num, by rw [HY.out], below_next hb (by omega) hb2, hb0.below hb2 (by omega), hb1.below hb2 (by omega), by rw [HY.out]; exact own_below hown hb2⟩
          case measure => simp [intOf]; try omega
    · obtain rfl : k = n := by omega
      go_wp2_with fail
      go_ret
      exact RetInts.of_own hown hb

end Go.Proofs.Ytnjmkdgglpcfpaa

namespace Go.Proofs.Ytnjmkdgglpcfpaa
open Go.RowKit

set_option maxRecDepth 100000 in
set_option maxHeartbeats 400000 in
theorem checkColumn_any (C R B F : Int) (A : Option Addr) (cap : Nat) (cl : List Int) (c : Int) (w : World) (hB : B ≤ 9223372036854775807) (hcl : cl.length ≤ 9223372036854775807) (hr : Ints w w.heap.size A cl) :
    Calls Try.prog 62 #[.agg #[.int .i64 C, .int .i64 R, .int .i64 B, .int .i64 F, .slice A cl.length cap], .int .i64 c] w fun e w' => e = .returned (.int .i64 (colErr C R B F cl c)) ∧ Below w.heap.size w w' := by
  by_cases hok : Ok C R B F cl
  · rw [colErr_ok c hok]
    have hr1 := hr.alloc (Nat.le_refl _) (.cells #[.int .i64 C, .int .i64 R, .int .i64 B, .int .i64 F, .slice A cl.length cap] 24)
    by_cases hc : 0 ≤ c ∧ c < C
    · rw [if_pos hc]
      have hd : decide (0 ≤ c ∧ c < C) = true := by simpa using hc
      clear hc
      go_enter Try.func62, Try.ntmps62
      go_wp2_with (first
        | (go_at_call 26; refine (check_ok _ hok (hr1.more (by simp))).mono ?_; rintro e w1 ⟨rfl, hb1⟩; obtain ⟨q1, q2⟩ := bcell hb1)
        | (go_at_call 74; refine (isColumn_any _ _ _ _ _ _ _).mono ?_; rw [hd]; rintro e w2 ⟨rfl, hb2⟩))
      go_ret
      exact ⟨rfl, below_next (below_next (below_new _ _) (by simp) hb1) (by have := hb1.size; simp at this; omega) hb2⟩
    · rw [if_neg hc]
      have hd : decide (0 ≤ c ∧ c < C) = false := by simpa using hc
      clear hc
      go_enter Try.func62, Try.ntmps62
      go_wp2_with (first
        | (go_at_call 26; refine (check_ok _ hok (hr1.more (by simp))).mono ?_; rintro e w1 ⟨rfl, hb1⟩; obtain ⟨q1, q2⟩ := bcell hb1)
        | (go_at_call 74; refine (isColumn_any _ _ _ _ _ _ _).mono ?_; rw [hd]; rintro e w2 ⟨rfl, hb2⟩))
      go_ret
      exact ⟨rfl, below_next (below_next (below_new _ _) (by simp) hb1) (by have := hb1.size; simp at this; omega) hb2⟩
  · rw [colErr_bad c hok]
    obtain ⟨n1, n2⟩ := chk_ne hok
    have hr1 := hr.alloc (Nat.le_refl _) (.cells #[.int .i64 C, .int .i64 R, .int .i64 B, .int .i64 F, .slice A cl.length cap] 24)
    go_enter Try.func62, Try.ntmps62
    go_wp2_with (first
      | (go_at_call 26; refine (check_any _ _ _ _ _ _ _ _ hB hcl (hr1.more (by simp))).mono ?_; rintro e w1 ⟨rfl, hb1⟩; obtain ⟨q1, q2⟩ := bcell hb1))
    go_ret
    exact ⟨rfl, below_next (below_new _ _) (by simp) hb1⟩


set_option maxRecDepth 100000 in
set_option maxHeartbeats 400000 in
theorem column_ok {C R B F : Int} {A : Option Addr} {cap : Nat} {cl : List Int} {c : Int} (w : World) (hok : Ok C R B F cl) (hr : Ints w w.heap.size A cl) (hc : 0 ≤ c ∧ c < C * R) :
    Calls Try.prog 16 #[.agg #[.int .i64 C, .int .i64 R, .int .i64 B, .int .i64 F, .slice A cl.length cap], .int .i64 c] w fun e w' => e = .returned (.tuple #[.int .i64 (c % C), .int .i64 0]) ∧ Below w.heap.size w w' := by
  have hr1 := hr.alloc (Nat.le_refl _) (.cells #[.int .i64 C, .int .i64 R, .int .i64 B, .int .i64 F, .slice A cl.length cap] 24)
  have h0 := hok.holes0
  have h1 := hok.holes
  have hd : decide (0 ≤ c ∧ c < C * R) = true := by simpa using hc
  have hC0 := hok.c3
  have hC1 := hok.c120
  have hC : (C == 0) = false := by simp; omega
  have hc0 := hc.1
  have hc1 : c ≤ 1920 := by omega
  have hq0 : 0 ≤ c / C := Int.ediv_nonneg hc0 (by omega)
  have hq1 : c / C ≤ 1920 := by have := Int.ediv_le_self C hc0; omega
  clear hc
  go_enter Try.func16, Try.ntmps16
  go_wp2_with (first
    | (go_at_call 26; refine (check_ok _ hok (hr1.more (by simp))).mono ?_; rintro e w1 ⟨rfl, hb1⟩; obtain ⟨q1, q2⟩ := bcell hb1)
    | (go_at_call 60; refine (isHole_any _ _ _ _ _ _ _ h0 h1).mono ?_; rw [hd]; rintro e w2 ⟨rfl, hb2⟩; have hz := hb1.size; rw [World.size_alloc] at hz; have hz' : w.heap.size < w1.heap.size := hz; obtain ⟨q3, q4⟩ := bcell hb2))
  go_ret2
  exact ⟨rfl, below_next (below_next (below_new _ _) (by simp) hb1) (by omega) hb2⟩

set_option maxRecDepth 100000 in
set_option maxHeartbeats 400000 in
theorem column_out {C R B F : Int} {A : Option Addr} {cap : Nat} {cl : List Int} {c : Int} (w : World) (hok : Ok C R B F cl) (hr : Ints w w.heap.size A cl) (hc : ¬ (0 ≤ c ∧ c < C * R)) :
    Calls Try.prog 16 #[.agg #[.int .i64 C, .int .i64 R, .int .i64 B, .int .i64 F, .slice A cl.length cap], .int .i64 c] w fun e w' => e = .returned (.tuple #[.int .i64 0, .int .i64 1]) ∧ Below w.heap.size w w' := by
  have hr1 := hr.alloc (Nat.le_refl _) (.cells #[.int .i64 C, .int .i64 R, .int .i64 B, .int .i64 F, .slice A cl.length cap] 24)
  have h0 := hok.holes0
  have h1 := hok.holes
  have hd : decide (0 ≤ c ∧ c < C * R) = false := by simpa using hc
  clear hc
  go_enter Try.func16, Try.ntmps16
  go_wp2_with (first
    | (go_at_call 26; refine (check_ok _ hok (hr1.more (by simp))).mono ?_; rintro e w1 ⟨rfl, hb1⟩; obtain ⟨q1, q2⟩ := bcell hb1)
    | (go_at_call 60; refine (isHole_any _ _ _ _ _ _ _ h0 h1).mono ?_; rw [hd]; rintro e w2 ⟨rfl, hb2⟩; have hz := hb1.size; rw [World.size_alloc] at hz; have hz' : w.heap.size < w1.heap.size := hz; obtain ⟨q3, q4⟩ := bcell hb2))
  go_ret2
  exact ⟨rfl, below_next (below_next (below_new _ _) (by simp) hb1) (by omega) hb2⟩

set_option maxRecDepth 100000 in
set_option maxHeartbeats 400000 in
theorem column_bad {C R B F : Int} {A : Option Addr} {cap : Nat} {cl : List Int} {c : Int} (w : World) (hok : ¬ Ok C R B F cl) (hB : B ≤ 9223372036854775807) (hcl : cl.length ≤ 9223372036854775807) (hr : Ints w w.heap.size A cl) :
    Calls Try.prog 16 #[.agg #[.int .i64 C, .int .i64 R, .int .i64 B, .int .i64 F, .slice A cl.length cap], .int .i64 c] w fun e w' => e = .returned (.tuple #[.int .i64 0, .int .i64 (chk C R B F cl)]) ∧ Below w.heap.size w w' := by
  obtain ⟨n1, n2⟩ := chk_ne hok
  have hr1 := hr.alloc (Nat.le_refl _) (.cells #[.int .i64 C, .int .i64 R, .int .i64 B, .int .i64 F, .slice A cl.length cap] 24)
  go_enter Try.func16, Try.ntmps16
  go_wp2_with (first
    | (go_at_call 26; refine (check_any _ _ _ _ _ _ _ _ hB hcl (hr1.more (by simp))).mono ?_; rintro e w1 ⟨rfl, hb1⟩; obtain ⟨q1, q2⟩ := bcell hb1))
  go_ret2
  exact ⟨rfl, below_next (below_new _ _) (by simp) hb1⟩

set_option maxRecDepth 100000 in
set_option maxHeartbeats 400000 in
theorem ring_ok {C R B F : Int} {A : Option Addr} {cap : Nat} {cl : List Int} {c : Int} (w : World) (hok : Ok C R B F cl) (hr : Ints w w.heap.size A cl) (hc : 0 ≤ c ∧ c < C * R) :
    Calls Try.prog 18 #[.agg #[.int .i64 C, .int .i64 R, .int .i64 B, .int .i64 F, .slice A cl.length cap], .int .i64 c] w fun e w' => e = .returned (.tuple #[.int .i64 (c / C), .int .i64 0]) ∧ Below w.heap.size w w' := by
  have hr1 := hr.alloc (Nat.le_refl _) (.cells #[.int .i64 C, .int .i64 R, .int .i64 B, .int .i64 F, .slice A cl.length cap] 24)
  have h0 := hok.holes0
  have h1 := hok.holes
  have hd : decide (0 ≤ c ∧ c < C * R) = true := by simpa using hc
  have hC0 := hok.c3
  have hC1 := hok.c120
  have hC : (C == 0) = false := by simp; omega
  have hc0 := hc.1
  have hc1 : c ≤ 1920 := by omega
  have hq0 : 0 ≤ c / C := Int.ediv_nonneg hc0 (by omega)
  have hq1 : c / C ≤ 1920 := by have := Int.ediv_le_self C hc0; omega
  clear hc
  go_enter Try.func18, Try.ntmps18
  go_wp2_with (first
    | (go_at_call 26; refine (check_ok _ hok (hr1.more (by simp))).mono ?_; rintro e w1 ⟨rfl, hb1⟩; obtain ⟨q1, q2⟩ := bcell hb1)
    | (go_at_call 60; refine (isHole_any _ _ _ _ _ _ _ h0 h1).mono ?_; rw [hd]; rintro e w2 ⟨rfl, hb2⟩; have hz := hb1.size; rw [World.size_alloc] at hz; have hz' : w.heap.size < w1.heap.size := hz; obtain ⟨q3, q4⟩ := bcell hb2))
  go_ret2
  exact ⟨rfl, below_next (below_next (below_new _ _) (by simp) hb1) (by omega) hb2⟩

set_option maxRecDepth 100000 in
set_option maxHeartbeats 400000 in
theorem ring_out {C R B F : Int} {A : Option Addr} {cap : Nat} {cl : List Int} {c : Int} (w : World) (hok : Ok C R B F cl) (hr : Ints w w.heap.size A cl) (hc : ¬ (0 ≤ c ∧ c < C * R)) :
    Calls Try.prog 18 #[.agg #[.int .i64 C, .int .i64 R, .int .i64 B, .int .i64 F, .slice A cl.length cap], .int .i64 c] w fun e w' => e = .returned (.tuple #[.int .i64 0, .int .i64 1]) ∧ Below w.heap.size w w' := by
  have hr1 := hr.alloc (Nat.le_refl _) (.cells #[.int .i64 C, .int .i64 R, .int .i64 B, .int .i64 F, .slice A cl.length cap] 24)
  have h0 := hok.holes0
  have h1 := hok.holes
  have hd : decide (0 ≤ c ∧ c < C * R) = false := by simpa using hc
  clear hc
  go_enter Try.func18, Try.ntmps18
  go_wp2_with (first
    | (go_at_call 26; refine (check_ok _ hok (hr1.more (by simp))).mono ?_; rintro e w1 ⟨rfl, hb1⟩; obtain ⟨q1, q2⟩ := bcell hb1)
    | (go_at_call 60; refine (isHole_any _ _ _ _ _ _ _ h0 h1).mono ?_; rw [hd]; rintro e w2 ⟨rfl, hb2⟩; have hz := hb1.size; rw [World.size_alloc] at hz; have hz' : w.heap.size < w1.heap.size := hz; obtain ⟨q3, q4⟩ := bcell hb2))
  go_ret2
  exact ⟨rfl, below_next (below_next (below_new _ _) (by simp) hb1) (by omega) hb2⟩

set_option maxRecDepth 100000 in
set_option maxHeartbeats 400000 in
theorem ring_bad {C R B F : Int} {A : Option Addr} {cap : Nat} {cl : List Int} {c : Int} (w : World) (hok : ¬ Ok C R B F cl) (hB : B ≤ 9223372036854775807) (hcl : cl.length ≤ 9223372036854775807) (hr : Ints w w.heap.size A cl) :
    Calls Try.prog 18 #[.agg #[.int .i64 C, .int .i64 R, .int .i64 B, .int .i64 F, .slice A cl.length cap], .int .i64 c] w fun e w' => e = .returned (.tuple #[.int .i64 0, .int .i64 (chk C R B F cl)]) ∧ Below w.heap.size w w' := by
  obtain ⟨n1, n2⟩ := chk_ne hok
  have hr1 := hr.alloc (Nat.le_refl _) (.cells #[.int .i64 C, .int .i64 R, .int .i64 B, .int .i64 F, .slice A cl.length cap] 24)
  go_enter Try.func18, Try.ntmps18
  go_wp2_with (first
    | (go_at_call 26; refine (check_any _ _ _ _ _ _ _ _ hB hcl (hr1.more (by simp))).mono ?_; rintro e w1 ⟨rfl, hb1⟩; obtain ⟨q1, q2⟩ := bcell hb1))
  go_ret2
  exact ⟨rfl, below_next (below_new _ _) (by simp) hb1⟩

end Go.Proofs.Ytnjmkdgglpcfpaa

namespace Go.Proofs.Ytnjmkdgglpcfpaa
open Go.RowKit

set_option maxRecDepth 100000 in
set_option maxHeartbeats 400000 in
theorem checkHoles_loop {C R B F : Int} {A : Option Addr} {cap : Nat} {cl : List Int} {D : Option Addr} {dap : Nat} {l : List Int} (w : World) (hok : Ok C R B F cl) (hr : Ints w w.heap.size A cl) (hl : Ints w w.heap.size D l) (hll : l.length ≤ 200) (res : Int)
    (hyes : Hid ((∀ x ∈ l, 0 ≤ x ∧ x < C * R) → res = 0)) (hno : Hid (¬ (∀ x ∈ l, 0 ≤ x ∧ x < C * R) → res = 1)) :
    Calls Try.prog 76 #[.agg #[.int .i64 C, .int .i64 R, .int .i64 B, .int .i64 F, .slice A cl.length cap], .slice D l.length dap] w fun e w' => e = .returned (.int .i64 res) ∧ Below w.heap.size w w' := by
  have hr1 := hr.alloc (Nat.le_refl _) (.cells #[.int .i64 C, .int .i64 R, .int .i64 B, .int .i64 F, .slice A cl.length cap] 24)
  have h0 := hok.holes0
  have h1 := hok.holes
  have hlI : (l.length : Int) ≤ 200 := by omega
  go_enter Try.func76, Try.ntmps76
  go_wp2_with (first
    | (go_at_call 26; refine (check_ok _ hok (hr1.more (by simp))).mono ?_; rintro e w1 ⟨rfl, hb1⟩))
  have hb : Below w.heap.size w w1 := below_next (below_new _ _) (by simp) hb1
  have hblk : Blk w1 w.heap.size 24 #[.int .i64 C, .int .i64 R, .int .i64 B, .int .i64 F, .slice A cl.length cap] := (Blk.new _ _ _).below hb1 (by simp)
  clear hb1 hr1
  go_loopw [7, 18] (fun _ i wr => ∃ k : Nat, k ≤ l.length ∧ i = .int .i64 k ∧ Hid (∀ x ∈ l.take k, 0 ≤ x ∧ x < C * R) ∧ Below w.heap.size w wr ∧ Blk wr w.heap.size 24 #[.int .i64 C, .int .i64 R, .int .i64 B, .int .i64 F, .slice A cl.length cap])
    (fun _ i _ => l.length - (intOf i).toNat)
  case atStart => exact ⟨0, Nat.zero_le _, rfl, (by intro x hx; simp at hx), hb, hblk⟩
  case round =>
    obtain ⟨k, hk, rfl, hall, hb, hb0⟩ := hrel
    obtain ⟨d0, d1, d2, d3, d4⟩ := hb0.five
    have hlt0 := hb0.lt
    by_cases hlt : k < l.length
    · obtain ⟨ad, rfl, hB, hc⟩ := (hl.below hb).get hlt
      by_cases hx : 0 ≤ l[k] ∧ l[k] < C * R
      · have hd : decide (0 ≤ l[k] ∧ l[k] < C * R) = true := by simpa using hx
        have hn : Hid (∀ x ∈ l.take (k + 1), 0 ≤ x ∧ x < C * R) := by
          intro x hxx
          rw [List.take_succ_eq_append_getElem hlt] at hxx
          rcases List.mem_append.1 hxx with h | h
          · exact hall x h
          · obtain rfl : x = l[k] := by simpa using h
            exact hx
        clear hx hall
        go_wp2_with (first
          | (go_at_call 60; refine (isHole_any _ _ _ _ _ _ _ h0 h1).mono ?_; rw [hd]; rintro e w2 ⟨rfl, hb2⟩; obtain ⟨q3, q4⟩ := bcell hb2))
        go_roundw
        case rel => exact ⟨k + 1, by omega, by go_num, hn, below_next hb (by omega) hb2, hb0.below hb2 (by omega)⟩
        case measure => simp [intOf]; try omega
      · have hd : decide (0 ≤ l[k] ∧ l[k] < C * R) = false := by simpa using hx
        have hres := Lib.hid (hno.out fun h => hx (h _ (List.getElem_mem hlt)))
        clear hx hall hyes hno
        go_wp2_with (first
          | (go_at_call 60; refine (isHole_any _ _ _ _ _ _ _ h0 h1).mono ?_; rw [hd]; rintro e w2 ⟨rfl, hb2⟩; obtain ⟨q3, q4⟩ := bcell hb2))
        go_ret
        exact ⟨ret_int hres.out.symm, below_next hb (by omega) hb2⟩
    · have hres := Lib.hid (hyes.out (by have := hall.out; rwa [List.take_of_length_le (by omega)] at this))
      clear hyes hno hall
      go_wp2_with fail
      go_ret
      exact ⟨ret_int hres.out.symm, hb⟩

set_option maxRecDepth 100000 in
set_option maxHeartbeats 400000 in
theorem checkHoles_any {C R B F : Int} {A : Option Addr} {cap : Nat} {cl : List Int} {D : Option Addr} {dap : Nat} {l : List Int} (w : World) (hB : B ≤ 9223372036854775807) (hcl : cl.length ≤ 9223372036854775807) (hr : Ints w w.heap.size A cl) (hl : Ints w w.heap.size D l) (hll : l.length ≤ 9223372036854775807) :
    Calls Try.prog 76 #[.agg #[.int .i64 C, .int .i64 R, .int .i64 B, .int .i64 F, .slice A cl.length cap], .slice D l.length dap] w fun e w' => e = .returned (.int .i64 (holesErr C R B F cl l)) ∧ Below w.heap.size w w' := by
  by_cases hok : Ok C R B F cl
  · rw [holesErr_ok l hok]
    by_cases h2 : 200 < l.length
    · rw [if_pos h2]
      have hr1 := hr.alloc (Nat.le_refl _) (.cells #[.int .i64 C, .int .i64 R, .int .i64 B, .int .i64 F, .slice A cl.length cap] 24)
      have hlI : (200 : Int) < (l.length : Int) := by omega
      go_enter Try.func76, Try.ntmps76
      go_wp2_with (first
        | (go_at_call 26; refine (check_ok _ hok (hr1.more (by simp))).mono ?_; rintro e w1 ⟨rfl, hb1⟩))
      go_ret
      exact ⟨rfl, below_next (below_new _ _) (by simp) hb1⟩
    · rw [if_neg h2]
      exact checkHoles_loop w hok hr hl (by omega) _ (fun h => if_pos h) (fun h => if_neg h)
  · rw [holesErr_bad l hok]
    obtain ⟨n1, n2⟩ := chk_ne hok
    have hr1 := hr.alloc (Nat.le_refl _) (.cells #[.int .i64 C, .int .i64 R, .int .i64 B, .int .i64 F, .slice A cl.length cap] 24)
    go_enter Try.func76, Try.ntmps76
    go_wp2_with (first
      | (go_at_call 26; refine (check_any _ _ _ _ _ _ _ _ hB hcl (hr1.more (by simp))).mono ?_; rintro e w1 ⟨rfl, hb1⟩; obtain ⟨q1, q2⟩ := bcell hb1))
    go_ret
    exact ⟨rfl, below_next (below_new _ _) (by simp) hb1⟩
end Go.Proofs.Ytnjmkdgglpcfpaa

namespace Go.Proofs.Ytnjmkdgglpcfpaa
open Go.RowKit

theorem z93_size (p : Nat → Bool) : Try.zeroCells93.size = (mk p).size := by
  rw [zero93]
  exact mk_sizes _ _

theorem isIn_true {l : List Int} {k : Nat} {x : Int} (h : x = (k : Int)) : isIn l k = decide (x ∈ l) := by subst h; rfl

set_option maxRecDepth 100000 in
set_option maxHeartbeats 1000000 in
theorem checkStands_loop {C R B F : Int} {A : Option Addr} {cap : Nat} {cl : List Int} {D : Option Addr} {dap : Nat} {l : List Int} (w : World) (hok : Ok C R B F cl) (hr : Ints w w.heap.size A cl) (hl : Ints w w.heap.size D l) (hll : l.length ≤ 200) (res : Int)
    (hyes : Hid ((Rise C l ∧ ∀ x ∈ l, x ∉ cl) → res = 0)) (hno : Hid (¬ (Rise C l ∧ ∀ x ∈ l, x ∉ cl) → res = 1)) :
    Calls Try.prog 81 #[.agg #[.int .i64 C, .int .i64 R, .int .i64 B, .int .i64 F, .slice A cl.length cap], .slice D l.length dap] w fun e w' => e = .returned (.int .i64 res) ∧ Below w.heap.size w w' := by
  have hr1 := hr.alloc (Nat.le_refl _) (.cells #[.int .i64 C, .int .i64 R, .int .i64 B, .int .i64 F, .slice A cl.length cap] 24)
  have hlI : (l.length : Int) ≤ 200 := by omega
  have hcl := hok.len
  have hin : ∀ x ∈ cl, 0 ≤ x ∧ x < 120 := fun x hx => by have := hok.rise.2 x hx; have := hok.c120; omega
  have hc120 := hok.c120
  go_enter Try.func81, Try.ntmps81
  go_wp2_with (first
    | (go_at_call 68; refine (marked_any cl A cap _ (by omega) hin (hr1.more (by simp))).mono ?_; rintro e w1 ⟨rfl, hb1⟩)
    | (refine wpList_store_row (by rfl) 93 _ _ (by rfl) _ _ (by rfl) (by rfl) 93 _ (Blk.new _ _ _) (info93 _) (z93_size _) (mk_one _) ?_))
  have hz1 : w.heap.size < w1.heap.size := by have := hb1.size; simp at this; omega
  have hb : Below w.heap.size w ((w1.alloc (.cells Try.zeroCells93 93)).setRow w1.heap.size (mk (isIn cl))) := below_setRow ((below_next (below_new _ _) (by simp) hb1).alloc (by omega) _) (by omega) _
  have hblk : Blk ((w1.alloc (.cells Try.zeroCells93 93)).setRow w1.heap.size (mk (isIn cl))) w.heap.size 24 #[.int .i64 C, .int .i64 R, .int .i64 B, .int .i64 F, .slice A cl.length cap] := (((Blk.new _ _ _).below hb1 (by simp)).alloc _).farRow (by omega) _
  have hblk2 : Blk ((w1.alloc (.cells Try.zeroCells93 93)).setRow w1.heap.size (mk (isIn cl))) w1.heap.size 93 (mk (isIn cl)) := (Blk.new _ _ _).setRow _
  obtain ⟨g, hg⟩ : ∃ g, w1.heap.size = g := ⟨_, rfl⟩
  rw [hg] at hb hblk hblk2 hz1 ⊢
  obtain ⟨w2, hw2⟩ : ∃ w2, (w1.alloc (.cells Try.zeroCells93 93)).setRow g (mk (isIn cl)) = w2 := ⟨_, rfl⟩
  rw [hw2] at hb hblk hblk2 ⊢
  clear hw2 hg hb1 hr1
  go_loopw [6, 7, 16] (fun _ _ i wr => ∃ k : Nat, k ≤ l.length ∧ i = .int .i64 k ∧ Rise C (l.take k) ∧ Hid (∀ x ∈ l.take k, x ∉ cl) ∧ Below w.heap.size w wr ∧ Blk wr w.heap.size 24 #[.int .i64 C, .int .i64 R, .int .i64 B, .int .i64 F, .slice A cl.length cap] ∧ Blk wr g 93 (mk (isIn cl)))
    (fun _ _ i _ => l.length - (intOf i).toNat)
  case atStart => exact ⟨0, Nat.zero_le _, rfl, by simpa using Rise.nil, (by intro x hx; simp at hx), hb, hblk, hblk2⟩
  case round =>
    obtain ⟨k, hk, rfl, hrise, hall, hb, hb0, hb1⟩ := hrel
    obtain ⟨d0, d1, d2, d3, d4⟩ := hb0.five
    have hlt0 := hb0.lt
    have hlt1 := hb1.lt
    by_cases hlt : k < l.length
    · obtain ⟨ad, rfl, hB, hc⟩ := (hl.below hb).get hlt
      by_cases hx : 0 ≤ l[k] ∧ l[k] < C
      · have hd : decide (0 ≤ l[k] ∧ l[k] < C) = true := by simpa using hx
        obtain ⟨m, hm⟩ := Int.eq_ofNat_of_zero_le hx.1
        have hm2 : (m : Int) < 120 := by omega
        have hm3 : m < 120 := by omega
        have hcm := hb1.cell m
        rw [mk_get _ _ hm3, isIn_true hm] at hcm
        by_cases hcl2 : l[k] ∈ cl
        · have hres := Lib.hid (hno.out fun h => h.2 _ (List.getElem_mem hlt) hcl2)
          have hdc : decide (l[k] ∈ cl) = true := by simpa using hcl2
          rw [hdc] at hcm
          rw [hm] at hc hd
          clear hx hall hyes hno hm hdc hcl2 hrise
          go_wp2_with (first
            | (go_at_call 74; refine (isColumn_any _ _ _ _ _ _ _).mono ?_; rw [hd]; rintro e w2 ⟨rfl, hb2⟩; obtain ⟨q3, q4⟩ := bcell hb2))
          go_ret
          exact ⟨ret_int hres.out.symm, below_next hb (by omega) hb2⟩
        · have hdc : decide (l[k] ∈ cl) = false := by simpa using hcl2
          rw [hdc] at hcm
          have hn : Hid (∀ x ∈ l.take (k + 1), x ∉ cl) := by
            intro x hxx
            rw [List.take_succ_eq_append_getElem hlt] at hxx
            rcases List.mem_append.1 hxx with h | h
            · exact hall x h
            · obtain rfl : x = l[k] := by simpa using h
              exact hcl2
          rcases Nat.eq_zero_or_pos k with hk0 | hk0
          · have hnr : Hid (Rise C (l.take (k + 1))) := by subst hk0; exact rise_first hlt hx.1 hx.2
            have hk1 : decide (0 < k) = false := by simp; omega
            have hk2 : ¬ 0 < k := by omega
            rw [hm] at hc hd
            clear hx hall hyes hno hm hdc hcl2 hrise hk0
            go_wp2_with (first
              | (go_at_call 74; refine (isColumn_any _ _ _ _ _ _ _).mono ?_; rw [hd]; rintro e w2 ⟨rfl, hb2⟩; obtain ⟨q3, q4⟩ := bcell hb2))
            go_roundw
            case rel => exact ⟨k + 1, by omega, by go_num, hnr.out, hn, below_next hb (by omega) hb2, hb0.below hb2 (by omega), hb1.below hb2 (by omega)⟩
            case measure => simp [intOf]; try omega
          · have hk1 : (0 : Int) < (k : Int) := by omega
            have hk2 : ((k : Int) - 1).toNat = k - 1 := by omega
            obtain ⟨ad', hA, hB', hcp⟩ := (hl.below hb).get (k := k - 1) (by omega)
            cases hA
            by_cases hy : l[k - 1] < l[k]
            · have hnr := Lib.hid (rise_next hlt hk0 hrise hx.1 hx.2 hy)
              rw [hm] at hc hd hy
              clear hx hall hyes hno hm hdc hcl2 hrise
              go_wp2_with (first
                | (go_at_call 74; refine (isColumn_any _ _ _ _ _ _ _).mono ?_; rw [hd]; rintro e w2 ⟨rfl, hb2⟩; obtain ⟨q3, q4⟩ := bcell hb2; have hcq := (hb2.cell (p := ad.add (k - 1)) (by rw [addr_block]; omega)).trans hcp))
              go_roundw
              case rel => exact ⟨k + 1, by omega, by go_num, hnr.out, hn, below_next hb (by omega) hb2, hb0.below hb2 (by omega), hb1.below hb2 (by omega)⟩
              case measure => simp [intOf]; try omega
            · have hy' : l[k] ≤ l[k - 1] := by omega
              have hres := Lib.hid (hno.out fun h => hy (h.1.step hlt hk0))
              rw [hm] at hc hd hy'
              clear hx hall hyes hno hm hdc hcl2 hrise hy
              go_wp2_with (first
                | (go_at_call 74; refine (isColumn_any _ _ _ _ _ _ _).mono ?_; rw [hd]; rintro e w2 ⟨rfl, hb2⟩; obtain ⟨q3, q4⟩ := bcell hb2; have hcq := (hb2.cell (p := ad.add (k - 1)) (by rw [addr_block]; omega)).trans hcp))
              go_ret
              exact ⟨ret_int hres.out.symm, below_next hb (by omega) hb2⟩
      · have hd : decide (0 ≤ l[k] ∧ l[k] < C) = false := by simpa using hx
        have hres := Lib.hid (hno.out fun h => hx (h.1.at hlt))
        clear hx hall hyes hno hrise
        go_wp2_with (first
          | (go_at_call 74; refine (isColumn_any _ _ _ _ _ _ _).mono ?_; rw [hd]; rintro e w2 ⟨rfl, hb2⟩; obtain ⟨q3, q4⟩ := bcell hb2))
        go_ret
        exact ⟨ret_int hres.out.symm, below_next hb (by omega) hb2⟩
    · have hres := Lib.hid (hyes.out (by have h1 := hall.out; have h2 := hrise; rw [List.take_of_length_le (by omega)] at h1 h2; exact ⟨h2, h1⟩))
      clear hyes hno hall hrise
      go_wp2_with fail
      go_ret
      exact ⟨ret_int hres.out.symm, hb⟩

set_option maxRecDepth 100000 in
set_option maxHeartbeats 400000 in
theorem checkStands_any {C R B F : Int} {A : Option Addr} {cap : Nat} {cl : List Int} {D : Option Addr} {dap : Nat} {l : List Int} (w : World) (hok : Ok C R B F cl) (hr : Ints w w.heap.size A cl) (hl : Ints w w.heap.size D l) (hll : l.length ≤ 9223372036854775807) :
    Calls Try.prog 81 #[.agg #[.int .i64 C, .int .i64 R, .int .i64 B, .int .i64 F, .slice A cl.length cap], .slice D l.length dap] w fun e w' => e = .returned (.int .i64 (standsErr C cl l)) ∧ Below w.heap.size w w' := by
  by_cases h2 : 200 < l.length
  · have he : standsErr C cl l = 2 := if_pos h2
    rw [he]
    clear he
    have hlI : (200 : Int) < (l.length : Int) := by omega
    go_enter Try.func81, Try.ntmps81
    go_wp2_with fail
    go_ret
    exact ⟨rfl, below_new _ _⟩
  · have he : standsErr C cl l = if Rise C l ∧ ∀ x ∈ l, x ∉ cl then 0 else 1 := if_neg h2
    exact checkStands_loop w hok hr hl (by omega) _ (fun h => by rw [he, if_pos h]) (fun h => by rw [he, if_neg h])
end Go.Proofs.Ytnjmkdgglpcfpaa

