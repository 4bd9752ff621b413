import Derived.Test.YtnjmkdgglpcfpaaA6
namespace Go.Proofs.Ytnjmkdgglpcfpaa
open Go.RowKit

theorem z93_size (p : Nat → Bool) : Try.zeroCells93.size = (mk p).size := by
  rw [zero93]
  exact mk_sizes _ _

theorem isIn_true {l : List Int} {k : Nat} {x : Int} (h : x = (k : Int)) : isIn l k = decide (x ∈ l) := by subst h; rfl

set_option maxRecDepth 100000 in
set_option maxHeartbeats 1000000 in
theorem checkStands_loop {C R B F : Int} {A : Option Addr} {cap : Nat} {cl : List Int} {D : Option Addr} {dap : Nat} {l : List Int} (w : World) (hok : Ok C R B F cl) (hr : Ints w w.heap.size A cl) (hl : Ints w w.heap.size D l) (hll : l.length ≤ 200) (res : Int)
    (hyes : Hid ((Rise C l ∧ ∀ x ∈ l, x ∉ cl) → res = 0)) (hno : Hid (¬ (Rise C l ∧ ∀ x ∈ l, x ∉ cl) → res = 1)) :
    Calls Try.prog 81 #[.agg #[.int .i64 C, .int .i64 R, .int .i64 B, .int .i64 F, .slice A cl.length cap], .slice D l.length dap] w fun e w' => e = .returned (.int .i64 res) ∧ Below w.heap.size w w' := by
  have hr1 := hr.alloc (Nat.le_refl _) (.cells #[.int .i64 C, .int .i64 R, .int .i64 B, .int .i64 F, .slice A cl.length cap] 24)
  have hlI : (l.length : Int) ≤ 200 := by omega
  have hcl := hok.len
  have hin : ∀ x ∈ cl, 0 ≤ x ∧ x < 120 := fun x hx => by have := hok.rise.2 x hx; have := hok.c120; omega
  have hc120 := hok.c120
  go_enter Try.func81, Try.ntmps81
  go_wp2_with (first
    | (go_at_call 68; refine (marked_any cl A cap _ (by omega) hin (hr1.more (by simp))).mono ?_; rintro e w1 ⟨rfl, hb1⟩)
    | (refine wpList_store_row (by rfl) 93 _ _ (by rfl) _ _ (by rfl) (by rfl) 93 _ (Blk.new _ _ _) (info93 _) (z93_size _) (mk_one _) ?_))
  have hz1 : w.heap.size < w1.heap.size := by have := hb1.size; simp at this; omega
  have hb : Below w.heap.size w ((w1.alloc (.cells Try.zeroCells93 93)).setRow w1.heap.size (mk (isIn cl))) := below_setRow ((below_next (below_new _ _) (by simp) hb1).alloc (by omega) _) (by omega) _
  have hblk : Blk ((w1.alloc (.cells Try.zeroCells93 93)).setRow w1.heap.size (mk (isIn cl))) w.heap.size 24 #[.int .i64 C, .int .i64 R, .int .i64 B, .int .i64 F, .slice A cl.length cap] := (((Blk.new _ _ _).below hb1 (by simp)).alloc _).farRow (by omega) _
  have hblk2 : Blk ((w1.alloc (.cells Try.zeroCells93 93)).setRow w1.heap.size (mk (isIn cl))) w1.heap.size 93 (mk (isIn cl)) := (Blk.new _ _ _).setRow _
  obtain ⟨g, hg⟩ : ∃ g, w1.heap.size = g := ⟨_, rfl⟩
  rw [hg] at hb hblk hblk2 hz1 ⊢
  obtain ⟨w2, hw2⟩ : ∃ w2, (w1.alloc (.cells Try.zeroCells93 93)).setRow g (mk (isIn cl)) = w2 := ⟨_, rfl⟩
  rw [hw2] at hb hblk hblk2 ⊢
  clear hw2 hg hb1 hr1
  go_loopw [6, 7, 16] (fun _ _ i wr => ∃ k : Nat, k ≤ l.length ∧ i = .int .i64 k ∧ Rise C (l.take k) ∧ Hid (∀ x ∈ l.take k, x ∉ cl) ∧ Below w.heap.size w wr ∧ Blk wr w.heap.size 24 #[.int .i64 C, .int .i64 R, .int .i64 B, .int .i64 F, .slice A cl.length cap] ∧ Blk wr g 93 (mk (isIn cl)))
    (fun _ _ i _ => l.length - (intOf i).toNat)
  case atStart => exact ⟨0, Nat.zero_le _, rfl, by simpa using Rise.nil, (by intro x hx; simp at hx), hb, hblk, hblk2⟩
  case round =>
    obtain ⟨k, hk, rfl, hrise, hall, hb, hb0, hb1⟩ := hrel
    obtain ⟨d0, d1, d2, d3, d4⟩ := hb0.five
    have hlt0 := hb0.lt
    have hlt1 := hb1.lt
    by_cases hlt : k < l.length
    · obtain ⟨ad, rfl, hB, hc⟩ := (hl.below hb).get hlt
      by_cases hx : 0 ≤ l[k] ∧ l[k] < C
      · have hd : decide (0 ≤ l[k] ∧ l[k] < C) = true := by simpa using hx
        obtain ⟨m, hm⟩ := Int.eq_ofNat_of_zero_le hx.1
        have hm2 : (m : Int) < 120 := by omega
        have hm3 : m < 120 := by omega
        have hcm := hb1.cell m
        rw [mk_get _ _ hm3, isIn_true hm] at hcm
        by_cases hcl2 : l[k] ∈ cl
        · have hres := Lib.hid (hno.out fun h => h.2 _ (List.getElem_mem hlt) hcl2)
          have hdc : decide (l[k] ∈ cl) = true := by simpa using hcl2
          rw [hdc] at hcm
          rw [hm] at hc hd
          clear hx hall hyes hno hm hdc hcl2 hrise
          go_wp2_with (first
            | (go_at_call 74; refine (isColumn_any _ _ _ _ _ _ _).mono ?_; rw [hd]; rintro e w2 ⟨rfl, hb2⟩; obtain ⟨q3, q4⟩ := bcell hb2))
          go_ret
          exact ⟨ret_int hres.out.symm, below_next hb (by omega) hb2⟩
        · have hdc : decide (l[k] ∈ cl) = false := by simpa using hcl2
          rw [hdc] at hcm
          have hn : Hid (∀ x ∈ l.take (k + 1), x ∉ cl) := by
            intro x hxx
            rw [List.take_succ_eq_append_getElem hlt] at hxx
            rcases List.mem_append.1 hxx with h | h
            · exact hall x h
            · obtain rfl : x = l[k] := by simpa using h
              exact hcl2
          rcases Nat.eq_zero_or_pos k with hk0 | hk0
          · have hnr : Hid (Rise C (l.take (k + 1))) := by subst hk0; exact rise_first hlt hx.1 hx.2
            have hk1 : decide (0 < k) = false := by simp; omega
            have hk2 : ¬ 0 < k := by omega
            rw [hm] at hc hd
            clear hx hall hyes hno hm hdc hcl2 hrise hk0
            go_wp2_with (first
              | (go_at_call 74; refine (isColumn_any _ _ _ _ _ _ _).mono ?_; rw [hd]; rintro e w2 ⟨rfl, hb2⟩; obtain ⟨q3, q4⟩ := bcell hb2))
            go_roundw
            case rel => exact ⟨k + 1, by omega, by go_num, hnr.out, hn, below_next hb (by omega) hb2, hb0.below hb2 (by omega), hb1.below hb2 (by omega)⟩
            case measure => simp [intOf]; try omega
          · have hk1 : (0 : Int) < (k : Int) := by omega
            have hk2 : ((k : Int) - 1).toNat = k - 1 := by omega
            obtain ⟨ad', hA, hB', hcp⟩ := (hl.below hb).get (k := k - 1) (by omega)
            cases hA
            by_cases hy : l[k - 1] < l[k]
            · have hnr := Lib.hid (rise_next hlt hk0 hrise hx.1 hx.2 hy)
              rw [hm] at hc hd hy
              clear hx hall hyes hno hm hdc hcl2 hrise
              go_wp2_with (first
                | (go_at_call 74; refine (isColumn_any _ _ _ _ _ _ _).mono ?_; rw [hd]; rintro e w2 ⟨rfl, hb2⟩; obtain ⟨q3, q4⟩ := bcell hb2; have hcq := (hb2.cell (p := ad.add (k - 1)) (by rw [addr_block]; omega)).trans hcp))
              go_roundw
              case rel => exact ⟨k + 1, by omega, by go_num, hnr.out, hn, below_next hb (by omega) hb2, hb0.below hb2 (by omega), hb1.below hb2 (by omega)⟩
              case measure => simp [intOf]; try omega
            · have hy' : l[k] ≤ l[k - 1] := by omega
              have hres := Lib.hid (hno.out fun h => hy (h.1.step hlt hk0))
              rw [hm] at hc hd hy'
              clear hx hall hyes hno hm hdc hcl2 hrise hy
              go_wp2_with (first
                | (go_at_call 74; refine (isColumn_any _ _ _ _ _ _ _).mono ?_; rw [hd]; rintro e w2 ⟨rfl, hb2⟩; obtain ⟨q3, q4⟩ := bcell hb2; have hcq := (hb2.cell (p := ad.add (k - 1)) (by rw [addr_block]; omega)).trans hcp))
              go_ret
              exact ⟨ret_int hres.out.symm, below_next hb (by omega) hb2⟩
      · have hd : decide (0 ≤ l[k] ∧ l[k] < C) = false := by simpa using hx
        have hres := Lib.hid (hno.out fun h => hx (h.1.at hlt))
        clear hx hall hyes hno hrise
        go_wp2_with (first
          | (go_at_call 74; refine (isColumn_any _ _ _ _ _ _ _).mono ?_; rw [hd]; rintro e w2 ⟨rfl, hb2⟩; obtain ⟨q3, q4⟩ := bcell hb2))
        go_ret
        exact ⟨ret_int hres.out.symm, below_next hb (by omega) hb2⟩
    · have hres := Lib.hid (hyes.out (by have h1 := hall.out; have h2 := hrise; rw [List.take_of_length_le (by omega)] at h1 h2; exact ⟨h2, h1⟩))
      clear hyes hno hall hrise
      go_wp2_with fail
      go_ret
      exact ⟨ret_int hres.out.symm, hb⟩

set_option maxRecDepth 100000 in
set_option maxHeartbeats 400000 in
theorem checkStands_any {C R B F : Int} {A : Option Addr} {cap : Nat} {cl : List Int} {D : Option Addr} {dap : Nat} {l : List Int} (w : World) (hok : Ok C R B F cl) (hr : Ints w w.heap.size A cl) (hl : Ints w w.heap.size D l) (hll : l.length ≤ 9223372036854775807) :
    Calls Try.prog 81 #[.agg #[.int .i64 C, .int .i64 R, .int .i64 B, .int .i64 F, .slice A cl.length cap], .slice D l.length dap] w fun e w' => e = .returned (.int .i64 (standsErr C cl l)) ∧ Below w.heap.size w w' := by
  by_cases h2 : 200 < l.length
  · have he : standsErr C cl l = 2 := if_pos h2
    rw [he]
    clear he
    have hlI : (200 : Int) < (l.length : Int) := by omega
    go_enter Try.func81, Try.ntmps81
    go_wp2_with fail
    go_ret
    exact ⟨rfl, below_new _ _⟩
  · have he : standsErr C cl l = if Rise C l ∧ ∀ x ∈ l, x ∉ cl then 0 else 1 := if_neg h2
    exact checkStands_loop w hok hr hl (by omega) _ (fun h => by rw [he, if_pos h]) (fun h => by rw [he, if_neg h])
end Go.Proofs.Ytnjmkdgglpcfpaa
