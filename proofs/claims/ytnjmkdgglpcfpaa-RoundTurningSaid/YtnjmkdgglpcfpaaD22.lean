import Derived.Test.YtnjmkdgglpcfpaaM6
namespace Go.Proofs.Ytnjmkdgglpcfpaa
set_option linter.unusedSimpArgs false
set_option linter.unusedVariables false
open Go.RowKit

set_option maxRecDepth 100000 in
set_option maxHeartbeats 1000000 in
theorem turningLaw_out (C R B F : Int) (A : Option Addr) (cap : Nat) (cl : List Int) (b : Int) (D : Option Addr) (dap : Nat) (l : List Int) (TA : Option Addr) (tap : Nat) (turns : List Int) (len : Int) (w : World) (hB : B ≤ 9223372036854775807) (hcl : cl.length ≤ maxLen) (hll : l.length ≤ maxLen) (htl : turns.length ≤ maxLen) (hr : Ints w w.heap.size A cl) (hl : Ints w w.heap.size D l) (ht : Ints w w.heap.size TA turns) (b0 : 0 ≤ b) (b1 : b ≤ 255) (hs : ¬ (l.length ≤ 60 ∧ turns.length ≤ 50 ∧ someB C R B F cl [] = true)) :
    Calls Try.prog 12 #[.agg #[.int .i64 C, .int .i64 R, .int .i64 B, .int .i64 F, .slice A cl.length cap], .int .u8 b, .slice D l.length dap, .agg #[.slice TA turns.length tap, .int .i64 len]] w fun e w' => e = .returned (.bool true) ∧ Below w.heap.size w w' := by
  have hc63 : cl.length ≤ 9223372036854775807 := Nat.le_trans hcl (by decide)
  have hl63 : l.length ≤ 9223372036854775807 := Nat.le_trans hll (by decide)
  have ht63 : turns.length ≤ 9223372036854775807 := Nat.le_trans htl (by decide)
  have bw0 : Below w.heap.size w ((w.alloc (.cells #[.int .i64 C, .int .i64 R, .int .i64 B, .int .i64 F, .slice A cl.length cap] 24)).alloc (.cells #[.slice TA turns.length tap, .int .i64 len] 67)) := (below_new w (.cells #[.int .i64 C, .int .i64 R, .int .i64 B, .int .i64 F, .slice A cl.length cap] 24)).alloc (by simp) _
  have kH0 : Blk ((w.alloc (.cells #[.int .i64 C, .int .i64 R, .int .i64 B, .int .i64 F, .slice A cl.length cap] 24)).alloc (.cells #[.slice TA turns.length tap, .int .i64 len] 67)) w.heap.size 24 #[.int .i64 C, .int .i64 R, .int .i64 B, .int .i64 F, .slice A cl.length cap] := (Blk.new _ _ _).alloc _
  have kT0 : Blk ((w.alloc (.cells #[.int .i64 C, .int .i64 R, .int .i64 B, .int .i64 F, .slice A cl.length cap] 24)).alloc (.cells #[.slice TA turns.length tap, .int .i64 len] 67)) (w.heap.size + 1) 67 #[.slice TA turns.length tap, .int .i64 len] := Blk.newAt (by simp)
  have iA0 := hr.behind bw0
  have iD0 := hl.behind bw0
  have iT0 := ht.behind bw0
  obtain ⟨d0, d1, d2, d3, d4⟩ := kH0.five
  have f0 := kT0.cell 0
  have f1 := kT0.cell 1
  by_cases c1 : l.length ≤ 60
  · have e1 : ¬ (60 : Int) < (l.length : Int) := by omega
    have e2 : decide ((60 : Int) < (l.length : Int)) = false := decide_eq_false e1
    by_cases c2 : turns.length ≤ 50
    · have e3 : ¬ (50 : Int) < (turns.length : Int) := by omega
      have e4 : decide ((50 : Int) < (turns.length : Int)) = false := decide_eq_false e3
      have HS : Hid (someB C R B F cl [] = false) := by
        cases h : someB C R B F cl [] with
        | false => rfl
        | true => exact absurd ⟨c1, c2, h⟩ hs
      clear hs
      go_enter Try.func12, Try.ntmps12
      go_wp2_with (first
        | (refine wpList_load_rowG (by rfl) 24 _ (by rfl) _ (by rfl) 24 _ (0, 0) _ kH0 Try.underlying24 rfl (info24 _ _ _ _ _) ?_)
        | (go_at_call 55; refine (some_any C R B F A cap cl none 0 [] _ hB hc63 iA0).mono ?_; rw [HS.out]; rintro e w1 ⟨rfl, hb1⟩; have bw1 := below_next bw0 bw0.size hb1; clear bw0; have kH1 := kH0.below hb1 kH0.lt; clear kH0; have kT1 := kT0.below hb1 kT0.lt; clear kT0; have iA1 := iA0.behind hb1; clear iA0; have iD1 := iD0.behind hb1; clear iD0; have iT1 := iT0.behind hb1; clear iT0; clear d0 d1 d2 d3 d4 f0 f1; obtain ⟨d0, d1, d2, d3, d4⟩ := kH1.five; have f0 := kT1.cell 0; have f1 := kT1.cell 1)
        | (go_at_call 15; refine (sanity_any _).mono ?_; rintro e w2 ⟨rfl, hb2⟩; have bw2 := below_next bw1 bw1.size hb2)
        | fail)
      go_ret
      exact ⟨ret_bool rfl, bw2⟩
    · have e3 : (50 : Int) < (turns.length : Int) := by omega
      have e4 : decide ((50 : Int) < (turns.length : Int)) = true := decide_eq_true e3
      clear hs
      go_enter Try.func12, Try.ntmps12
      go_wp2_with (first
        | (go_at_call 15; refine (sanity_any _).mono ?_; rintro e w2 ⟨rfl, hb2⟩; have bw2 := below_next bw0 bw0.size hb2)
        | fail)
      go_ret
      exact ⟨ret_bool rfl, bw2⟩
  · have e1 : (60 : Int) < (l.length : Int) := by omega
    have e2 : decide ((60 : Int) < (l.length : Int)) = true := decide_eq_true e1
    clear hs
    go_enter Try.func12, Try.ntmps12
    go_wp2_with (first
      | (go_at_call 15; refine (sanity_any _).mono ?_; rintro e w2 ⟨rfl, hb2⟩; have bw2 := below_next bw0 bw0.size hb2)
      | fail)
    go_ret
    exact ⟨ret_bool rfl, bw2⟩

set_option maxRecDepth 100000 in
set_option maxHeartbeats 8000000 in
theorem turningLaw_go0 (C R B F : Int) (A : Option Addr) (cap : Nat) (cl : List Int) (b : Int) (D : Option Addr) (dap : Nat) (l : List Int) (TA : Option Addr) (tap : Nat) (turns : List Int) (len : Int) (w : World) (hB : B ≤ 9223372036854775807) (hcl : cl.length ≤ maxLen) (hll : l.length ≤ maxLen) (htl : turns.length ≤ maxLen) (hr : Ints w w.heap.size A cl) (hl : Ints w w.heap.size D l) (ht : Ints w w.heap.size TA turns) (b0 : 0 ≤ b) (b1 : b ≤ 255) (hs : someB C R B F cl [] = true) (h60 : l.length ≤ 60) (h50 : turns.length ≤ 50) (hok : Ok C R B F cl) (hM : Hid (∀ x ∈ l, 0 ≤ x ∧ x < C)) (ts : List Int) (L ct : Int) (gs : List Int) (H51 : Hid (∀ W : World, Ints W W.heap.size A cl → Ints W W.heap.size D l → Calls Try.prog 51 #[.agg #[.int .i64 C, .int .i64 R, .int .i64 B, .int .i64 F, .slice A cl.length cap], .int .i64 (b % C), .slice D l.length dap] W (RetTurn W ts L 0))) (H54a : Hid (∀ (X : Option Addr) (xap : Nat) (W : World), Ints W W.heap.size A cl → Ints W W.heap.size D l → Ints W W.heap.size X ts → Calls Try.prog 54 #[.agg #[.int .i64 C, .int .i64 R, .int .i64 B, .int .i64 F, .slice A cl.length cap], .int .i64 (b % C), .slice D l.length dap, .agg #[.slice X ts.length xap, .int .i64 L]] W fun e w' => e = .returned (.int .i64 0) ∧ Below W.heap.size W w')) (H54b : Hid (∀ W : World, Ints W W.heap.size A cl → Ints W W.heap.size D l → Ints W W.heap.size TA turns → Calls Try.prog 54 #[.agg #[.int .i64 C, .int .i64 R, .int .i64 B, .int .i64 F, .slice A cl.length cap], .int .i64 (b % C), .slice D l.length dap, .agg #[.slice TA turns.length tap, .int .i64 len]] W fun e w' => e = .returned (.int .i64 ct) ∧ Below W.heap.size W w')) (hct : ct = 0 → L ≤ len) (H49 : Hid (∀ (Y : Option Addr) (yap : Nat) (W : World), Ints W W.heap.size Y (allOf C (b % C) l) → Calls Try.prog 49 #[.agg #[.int .i64 C, .int .i64 R, .int .i64 B, .int .i64 F, .slice none 0 0], .slice Y (allOf C (b % C) l).length yap] W (RetInts2 W gs 0))) (hL0 : 0 ≤ L) (hL1 : L ≤ C - 1) (hg0 : 0 ≤ maxL gs) (hg1 : maxL gs ≤ C) (hLg : C - maxL gs ≤ L) (hgl : gs.length ≤ 120) (hc0 : ct = 0) :
    Calls Try.prog 12 #[.agg #[.int .i64 C, .int .i64 R, .int .i64 B, .int .i64 F, .slice A cl.length cap], .int .u8 b, .slice D l.length dap, .agg #[.slice TA turns.length tap, .int .i64 len]] w fun e w' => e = .returned (.bool true) ∧ Below w.heap.size w w' := by
  have hc63 : cl.length ≤ 9223372036854775807 := Nat.le_trans hcl (by decide)
  have hl63 : l.length ≤ 9223372036854775807 := Nat.le_trans hll (by decide)
  have ht63 : turns.length ≤ 9223372036854775807 := Nat.le_trans htl (by decide)
  have bw0 : Below w.heap.size w ((w.alloc (.cells #[.int .i64 C, .int .i64 R, .int .i64 B, .int .i64 F, .slice A cl.length cap] 24)).alloc (.cells #[.slice TA turns.length tap, .int .i64 len] 67)) := (below_new w (.cells #[.int .i64 C, .int .i64 R, .int .i64 B, .int .i64 F, .slice A cl.length cap] 24)).alloc (by simp) _
  have kH0 : Blk ((w.alloc (.cells #[.int .i64 C, .int .i64 R, .int .i64 B, .int .i64 F, .slice A cl.length cap] 24)).alloc (.cells #[.slice TA turns.length tap, .int .i64 len] 67)) w.heap.size 24 #[.int .i64 C, .int .i64 R, .int .i64 B, .int .i64 F, .slice A cl.length cap] := (Blk.new _ _ _).alloc _
  have kT0 : Blk ((w.alloc (.cells #[.int .i64 C, .int .i64 R, .int .i64 B, .int .i64 F, .slice A cl.length cap] 24)).alloc (.cells #[.slice TA turns.length tap, .int .i64 len] 67)) (w.heap.size + 1) 67 #[.slice TA turns.length tap, .int .i64 len] := Blk.newAt (by simp)
  have iA0 := hr.behind bw0
  have iD0 := hl.behind bw0
  have iT0 := ht.behind bw0
  obtain ⟨d0, d1, d2, d3, d4⟩ := kH0.five
  have f0 := kT0.cell 0
  have f1 := kT0.cell 1
  have q1 := hok.c3
  have q2 := hok.c120
  have hC0 : (C == 0) = false := by simp; omega
  have s0 : 0 ≤ (b % C) := Int.emod_nonneg _ (by omega)
  have s1 : (b % C) < C := Int.emod_lt_of_pos _ (by omega)
  have e1 : ¬ (60 : Int) < (l.length : Int) := by omega
  have e2 : decide ((60 : Int) < (l.length : Int)) = false := decide_eq_false e1
  have e3 : ¬ (50 : Int) < (turns.length : Int) := by omega
  have e4 : decide ((50 : Int) < (turns.length : Int)) = false := decide_eq_false e3
  have HS := Lib.hid hs
  have n0 : (ct == 0) = true := by simpa using hc0
  have n00 : (ct != 0) = false := by simpa using hc0
  have n1 : ¬ len < L := by have := hct hc0; omega
  have n2 : decide (len < L) = false := decide_eq_false n1
  clear hs hok hct
  go_enter Try.func12, Try.ntmps12
  go_wp2_with (first
    | (refine wpList_load_rowG (by rfl) 24 _ (by rfl) _ (by rfl) 24 _ (0, 0) _ kH0 Try.underlying24 rfl (info24 _ _ _ _ _) ?_)
    | (go_at_call 55; refine (some_any C R B F A cap cl none 0 [] _ hB hc63 iA0).mono ?_; rw [HS.out]; rintro e w1 ⟨rfl, hb1⟩; have bw1 := below_next bw0 bw0.size hb1; clear bw0; have kH1 := kH0.below hb1 kH0.lt; clear kH0; have kT1 := kT0.below hb1 kT0.lt; clear kT0; have iA1 := iA0.behind hb1; clear iA0; have iD1 := iD0.behind hb1; clear iD0; have iT1 := iT0.behind hb1; clear iT0; clear d0 d1 d2 d3 d4 f0 f1; obtain ⟨d0, d1, d2, d3, d4⟩ := kH1.five; have f0 := kT1.cell 0; have f1 := kT1.cell 1)
    | (go_at_call 51; refine (H51.out _ iA1 iD1).mono ?_; rintro e w2 ⟨X, xap, rfl, x1, x2, iX2, hb2⟩; have bw2 := below_next bw1 bw1.size hb2; clear bw1; have kH2 := kH1.below hb2 kH1.lt; clear kH1; have kT2 := kT1.below hb2 kT1.lt; clear kT1; have iA2 := iA1.behind hb2; clear iA1; have iD2 := iD1.behind hb2; clear iD1; have iT2 := iT1.behind hb2; clear iT1; have hn3 := below_new w2 (.cells #[.slice X ts.length xap, .int .i64 L] 67); have bw3 := below_next bw2 bw2.size hn3; clear bw2; have kH3 := kH2.below hn3 kH2.lt; clear kH2; have kT3 := kT2.below hn3 kT2.lt; clear kT2; have iA3 := iA2.behind hn3; clear iA2; have iD3 := iD2.behind hn3; clear iD2; have iT3 := iT2.behind hn3; clear iT2; have iX3 := iX2.behind hn3; clear iX2; have kX3 := Blk.new w2 67 #[.slice X ts.length xap, .int .i64 L]; clear d0 d1 d2 d3 d4 f0 f1; obtain ⟨d0, d1, d2, d3, d4⟩ := kH3.five; have f0 := kT3.cell 0; have f1 := kT3.cell 1; have g0 := kX3.cell 0; have g1 := kX3.cell 1)
    | (go_at_call 54; refine (H54a.out X xap _ iA3 iD3 iX3).mono ?_; rintro e w4 ⟨rfl, hb4⟩; have bw4 := below_next bw3 bw3.size hb4; clear bw3; have kH4 := kH3.below hb4 kH3.lt; clear kH3; have kT4 := kT3.below hb4 kT3.lt; clear kT3; have iA4 := iA3.behind hb4; clear iA3; have iD4 := iD3.behind hb4; clear iD3; have iT4 := iT3.behind hb4; clear iT3; have iX4 := iX3.behind hb4; clear iX3; have kX4 := kX3.below hb4 kX3.lt; clear kX3; clear d0 d1 d2 d3 d4 f0 f1; obtain ⟨d0, d1, d2, d3, d4⟩ := kH4.five; have f0 := kT4.cell 0; have f1 := kT4.cell 1; clear g0 g1; have g0 := kX4.cell 0; have g1 := kX4.cell 1)
    | (refine wpList_load_rowG (by rfl) 24 _ (by rfl) _ (by rfl) 24 _ (0, 0) _ kH4 Try.underlying24 rfl (info24 _ _ _ _ _) ?_)
    | (refine wpList_load_rowG (by rfl) 67 _ (by rfl) _ (by rfl) 67 _ (0, 0) _ kT4 Try.underlying67 rfl info67 ?_)
    | (go_at_call 54; refine (H54b.out _ iA4 iD4 iT4).mono ?_; rintro e w5 ⟨rfl, hb5⟩; have bw5 := below_next bw4 bw4.size hb5; clear bw4; have kH5 := kH4.below hb5 kH4.lt; clear kH4; have kT5 := kT4.below hb5 kT4.lt; clear kT4; have iA5 := iA4.behind hb5; clear iA4; have iD5 := iD4.behind hb5; clear iD4; have iT5 := iT4.behind hb5; clear iT4; have iX5 := iX4.behind hb5; clear iX4; have kX5 := kX4.below hb5 kX4.lt; clear kX4; clear d0 d1 d2 d3 d4 f0 f1; obtain ⟨d0, d1, d2, d3, d4⟩ := kH5.five; have f0 := kT5.cell 0; have f1 := kT5.cell 1; clear g0 g1; have g0 := kX5.cell 0; have g1 := kX5.cell 1; have hn6 := below_new w5 (.cells #[.int .i64 C, .int .i64 R, .int .i64 B, .int .i64 F, .slice none 0 0] 24); have bw6 := below_next bw5 bw5.size hn6; clear bw5; have kH6 := kH5.below hn6 kH5.lt; clear kH5; have kT6 := kT5.below hn6 kT5.lt; clear kT5; have iA6 := iA5.behind hn6; clear iA5; have iD6 := iD5.behind hn6; clear iD5; have iT6 := iT5.behind hn6; clear iT5; have iX6 := iX5.behind hn6; clear iX5; have kX6 := kX5.below hn6 kX5.lt; clear kX5; have kF6 := Blk.new w5 24 #[.int .i64 C, .int .i64 R, .int .i64 B, .int .i64 F, .slice none 0 0]; obtain ⟨p0, p1, p2, p3, p4⟩ := kH6.five)
    | fail)
  have hg5 : w5.heap.size < (w5.alloc (.cells #[.int .i64 C, .int .i64 R, .int .i64 B, .int .i64 F, .slice none 0 0] 24)).heap.size := by simp
  have iD6' := iD6
  clear kT6 iA6 iT6 iX6 f0 f1 HS
  go_loopw [13, 75] (fun v i wr => ∃ (k : Nat) (A' : Option Addr) (c' : Nat), k ≤ C.toNat ∧ i = .int .i64 k ∧ v = .slice A' (colsTo (fun i => decide ((i : Int) = (b % C)) || isIn l i) k).length c' ∧ Below (w5.alloc (.cells #[.int .i64 C, .int .i64 R, .int .i64 B, .int .i64 F, .slice none 0 0] 24)).heap.size (w5.alloc (.cells #[.int .i64 C, .int .i64 R, .int .i64 B, .int .i64 F, .slice none 0 0] 24)) wr ∧ wr.ownsRow (w5.alloc (.cells #[.int .i64 C, .int .i64 R, .int .i64 B, .int .i64 F, .slice none 0 0] 24)).heap.size 3 1 (.slice A' (colsTo (fun i => decide ((i : Int) = (b % C)) || isIn l i) k).length c') (colsTo (fun i => decide ((i : Int) = (b % C)) || isIn l i) k).length ((colsTo (fun i => decide ((i : Int) = (b % C)) || isIn l i) k).map (Value.int .i64)))
    (fun _ i _ => C.toNat - (intOf i).toNat)
  case atStart => exact ⟨0, none, 0, Nat.zero_le _, rfl, rfl, Below.refl _ _, World.ownsRow_nil _ _ _ _⟩
  case round =>
    clear d0 d1 d2 d3 d4 g0 g1 p0 p1 p2 p3 p4
    obtain ⟨k, A', c', hk, rfl, rfl, hb, hown⟩ := hrel
    have bw7 := below_next bw6 bw6.size hb
    have kH7 := kH6.below hb kH6.lt
    have kX7 := kX6.below hb kX6.lt
    have kF7 := kF6.below hb kF6.lt
    have iD7 := iD6.behind hb
    have hz7 := hb.size
    obtain ⟨d0, d1, d2, d3, d4⟩ := kH7.five
    have hcl2 := colsTo_len (fun i => decide ((i : Int) = (b % C)) || isIn l i) k
    by_cases hkn : k < C.toNat
    · have hki : (k : Int) < C := by omega
      by_cases hks : (k : Int) = (b % C)
      · have m1 : ((k : Int) == (b % C)) = true := by simpa using hks
        have HY := Lib.hid (colsTo_yes (p := fun i => decide ((i : Int) = (b % C)) || isIn l i) (k := k) (by show (decide ((k : Int) = (b % C)) || decide ((k : Int) ∈ l)) = true; rw [decide_eq_true hks]; rfl))
        clear hks
        generalize colsTo (fun i => decide ((i : Int) = (b % C)) || isIn l i) k = cs at *
        go_wp2_with (first
          | (at_builtin; refine app1 (by rfl) _ _ (by rfl) (w5.alloc (.cells #[.int .i64 C, .int .i64 R, .int .i64 B, .int .i64 F, .slice none 0 0] 24)).heap.size cs (k : Int) _ (by rfl) hown (by rfl) (by omega) hz7 ?_; intro A8 c8 w8 hown8 hb8))
        go_roundw
        case rel => exact ⟨k + 1, A8, c8, by omega, by go_num, by rw [HY.out]; simp, hb.trans hb8, by rw [HY.out]; exact hown8⟩
        case measure => simp [intOf]; try omega
      · have m1 : ((k : Int) == (b % C)) = false := by simpa using hks
        cases hm : decide ((k : Int) ∈ l) with
        | true =>
          have HM := Lib.hid hm
          have HY := Lib.hid (colsTo_yes (p := fun i => decide ((i : Int) = (b % C)) || isIn l i) (k := k) (by show (decide ((k : Int) = (b % C)) || decide ((k : Int) ∈ l)) = true; rw [hm]; simp))
          clear hks hm
          generalize colsTo (fun i => decide ((i : Int) = (b % C)) || isIn l i) k = cs at *
          go_wp2_with (first
            | (go_at_call 56; refine (has56_any l D dap _ _ (by omega) iD7).mono ?_; rw [HM.out]; rintro e w8 ⟨rfl, rfl⟩)
            | (at_builtin; refine app1 (by rfl) _ _ (by rfl) (w5.alloc (.cells #[.int .i64 C, .int .i64 R, .int .i64 B, .int .i64 F, .slice none 0 0] 24)).heap.size cs (k : Int) _ (by rfl) hown (by rfl) (by omega) hz7 ?_; intro A8 c8 w8 hown8 hb8))
          go_roundw
          case rel => exact ⟨k + 1, A8, c8, by omega, by go_num, by rw [HY.out]; simp, hb.trans hb8, by rw [HY.out]; exact hown8⟩
          case measure => simp [intOf]; try omega
        | false =>
          have HM := Lib.hid hm
          have HY := Lib.hid (colsTo_no (p := fun i => decide ((i : Int) = (b % C)) || isIn l i) (k := k) (by show (decide ((k : Int) = (b % C)) || decide ((k : Int) ∈ l)) = false; rw [hm, decide_eq_false hks]; rfl))
          clear hks hm
          generalize colsTo (fun i => decide ((i : Int) = (b % C)) || isIn l i) k = cs at *
          go_wp2_with (first
            | (go_at_call 56; refine (has56_any l D dap _ _ (by omega) iD7).mono ?_; rw [HM.out]; rintro e w8 ⟨rfl, rfl⟩))
          go_roundw
          case rel => exact ⟨k + 1, A', c', by omega, by go_num, by rw [HY.out], hb, by rw [HY.out]; exact hown⟩
          case measure => simp [intOf]; try omega
    · obtain rfl : k = C.toNat := by omega
      have hki : ¬ ((C.toNat : Int) < C) := by omega
      have hCn : ((C.toNat : Nat) : Int) = C := by omega
      have hal : colsTo (fun i => decide ((i : Int) = (b % C)) || isIn l i) C.toNat = allOf C (b % C) l := rfl
      rw [hal] at hown hcl2 ⊢
      clear hal
      have iY7 := Ints.of_own hown
      generalize allOf C (b % C) l = al at *
      obtain ⟨r0, r1, r2, r3, r4⟩ := kF7.five
      clear hown iD7 iD6
      go_wp2_with (first
        | (go_at_call 49; refine (H49.out A' c' _ iY7).mono ?_; rintro e w9 ⟨G, gap, rfl, y1, y2, iG9, hb9⟩; have bw9 := below_next bw7 bw7.size hb9; have kH9 := kH7.below hb9 kH7.lt; have kX9 := kX7.below hb9 kX7.lt))
      clear d0 d1 d2 d3 d4 r0 r1 r2 r3 r4 bw7 kH7 kX7 kF7 kF6 kH6 kX6 iY7
      go_loopw [17, 99] (fun v i wr => ∃ k : Nat, k ≤ gs.length ∧ i = .int .i64 k ∧ v = .int .i64 (maxL (gs.take k)) ∧ Below w9.heap.size w9 wr)
        (fun _ i _ => gs.length - (intOf i).toNat)
      case atStart => exact ⟨0, Nat.zero_le _, rfl, rfl, Below.refl _ _⟩
      case round =>
        obtain ⟨j, hj, rfl, rfl, hb10⟩ := hrel
        by_cases hjl : j < gs.length
        · obtain ⟨ad, hA, hadb, hce⟩ := (iG9.behind hb10).get hjl
          subst hA
          have hji : (j : Int) < (gs.length : Int) := by omega
          have HX : Hid (maxL (gs.take (j + 1)) = max (maxL (gs.take j)) gs[j]) := by unfold Hid; rw [List.take_succ_eq_append_getElem hjl, maxL_snoc]
          generalize maxL (gs.take j) = mx at *
          generalize gs[j] = x at *
          go_wp2_with fail
          go_roundw
          case rel => exact ⟨j + 1, by omega, by go_num, by rw [HX.out], hb10⟩
          case measure => simp [intOf]; try omega
        · have ek : gs.take j = gs := List.take_of_length_le (by omega)
          rw [ek]
          have bw10 := below_next bw9 bw9.size hb10
          have kH10 := kH9.below hb10 kH9.lt
          have kX10 := kX9.below hb10 kX9.lt
          generalize maxL gs = mx at *
          have v1 : IntKind.i64.wrap (C - 1) = C - 1 := IntWalk.i64_in _ (by omega)
          have v2 : IntKind.i64.wrap (C - mx) = C - mx := IntWalk.i64_in _ (by omega)
          have v3 : decide (L ≤ C - 1) = true := decide_eq_true hL1
          have v4 : decide (C - mx ≤ L) = true := decide_eq_true hLg
          go_wp2_with (first
            | (go_at_call 15; refine (sanity_any _).mono ?_; rintro e w11 ⟨rfl, hb11⟩; have bw11 := below_next bw10 bw10.size hb11; have kH11 := kH10.below hb11 kH10.lt; have kX11 := kX10.below hb11 kX10.lt; have d0 := kH11.cell 0; have g1 := kX11.cell 1))
          go_ret
          exact ⟨ret_bool rfl, bw11⟩

set_option maxRecDepth 100000 in
set_option maxHeartbeats 8000000 in
theorem turningLaw_go1 (C R B F : Int) (A : Option Addr) (cap : Nat) (cl : List Int) (b : Int) (D : Option Addr) (dap : Nat) (l : List Int) (TA : Option Addr) (tap : Nat) (turns : List Int) (len : Int) (w : World) (hB : B ≤ 9223372036854775807) (hcl : cl.length ≤ maxLen) (hll : l.length ≤ maxLen) (htl : turns.length ≤ maxLen) (hr : Ints w w.heap.size A cl) (hl : Ints w w.heap.size D l) (ht : Ints w w.heap.size TA turns) (b0 : 0 ≤ b) (b1 : b ≤ 255) (hs : someB C R B F cl [] = true) (h60 : l.length ≤ 60) (h50 : turns.length ≤ 50) (hok : Ok C R B F cl) (hM : Hid (∀ x ∈ l, 0 ≤ x ∧ x < C)) (ts : List Int) (L ct : Int) (gs : List Int) (H51 : Hid (∀ W : World, Ints W W.heap.size A cl → Ints W W.heap.size D l → Calls Try.prog 51 #[.agg #[.int .i64 C, .int .i64 R, .int .i64 B, .int .i64 F, .slice A cl.length cap], .int .i64 (b % C), .slice D l.length dap] W (RetTurn W ts L 0))) (H54a : Hid (∀ (X : Option Addr) (xap : Nat) (W : World), Ints W W.heap.size A cl → Ints W W.heap.size D l → Ints W W.heap.size X ts → Calls Try.prog 54 #[.agg #[.int .i64 C, .int .i64 R, .int .i64 B, .int .i64 F, .slice A cl.length cap], .int .i64 (b % C), .slice D l.length dap, .agg #[.slice X ts.length xap, .int .i64 L]] W fun e w' => e = .returned (.int .i64 0) ∧ Below W.heap.size W w')) (H54b : Hid (∀ W : World, Ints W W.heap.size A cl → Ints W W.heap.size D l → Ints W W.heap.size TA turns → Calls Try.prog 54 #[.agg #[.int .i64 C, .int .i64 R, .int .i64 B, .int .i64 F, .slice A cl.length cap], .int .i64 (b % C), .slice D l.length dap, .agg #[.slice TA turns.length tap, .int .i64 len]] W fun e w' => e = .returned (.int .i64 ct) ∧ Below W.heap.size W w')) (hct : ct = 0 → L ≤ len) (H49 : Hid (∀ (Y : Option Addr) (yap : Nat) (W : World), Ints W W.heap.size Y (allOf C (b % C) l) → Calls Try.prog 49 #[.agg #[.int .i64 C, .int .i64 R, .int .i64 B, .int .i64 F, .slice none 0 0], .slice Y (allOf C (b % C) l).length yap] W (RetInts2 W gs 0))) (hL0 : 0 ≤ L) (hL1 : L ≤ C - 1) (hg0 : 0 ≤ maxL gs) (hg1 : maxL gs ≤ C) (hLg : C - maxL gs ≤ L) (hgl : gs.length ≤ 120) (hc0 : ct ≠ 0) :
    Calls Try.prog 12 #[.agg #[.int .i64 C, .int .i64 R, .int .i64 B, .int .i64 F, .slice A cl.length cap], .int .u8 b, .slice D l.length dap, .agg #[.slice TA turns.length tap, .int .i64 len]] w fun e w' => e = .returned (.bool true) ∧ Below w.heap.size w w' := by
  have hc63 : cl.length ≤ 9223372036854775807 := Nat.le_trans hcl (by decide)
  have hl63 : l.length ≤ 9223372036854775807 := Nat.le_trans hll (by decide)
  have ht63 : turns.length ≤ 9223372036854775807 := Nat.le_trans htl (by decide)
  have bw0 : Below w.heap.size w ((w.alloc (.cells #[.int .i64 C, .int .i64 R, .int .i64 B, .int .i64 F, .slice A cl.length cap] 24)).alloc (.cells #[.slice TA turns.length tap, .int .i64 len] 67)) := (below_new w (.cells #[.int .i64 C, .int .i64 R, .int .i64 B, .int .i64 F, .slice A cl.length cap] 24)).alloc (by simp) _
  have kH0 : Blk ((w.alloc (.cells #[.int .i64 C, .int .i64 R, .int .i64 B, .int .i64 F, .slice A cl.length cap] 24)).alloc (.cells #[.slice TA turns.length tap, .int .i64 len] 67)) w.heap.size 24 #[.int .i64 C, .int .i64 R, .int .i64 B, .int .i64 F, .slice A cl.length cap] := (Blk.new _ _ _).alloc _
  have kT0 : Blk ((w.alloc (.cells #[.int .i64 C, .int .i64 R, .int .i64 B, .int .i64 F, .slice A cl.length cap] 24)).alloc (.cells #[.slice TA turns.length tap, .int .i64 len] 67)) (w.heap.size + 1) 67 #[.slice TA turns.length tap, .int .i64 len] := Blk.newAt (by simp)
  have iA0 := hr.behind bw0
  have iD0 := hl.behind bw0
  have iT0 := ht.behind bw0
  obtain ⟨d0, d1, d2, d3, d4⟩ := kH0.five
  have f0 := kT0.cell 0
  have f1 := kT0.cell 1
  have q1 := hok.c3
  have q2 := hok.c120
  have hC0 : (C == 0) = false := by simp; omega
  have s0 : 0 ≤ (b % C) := Int.emod_nonneg _ (by omega)
  have s1 : (b % C) < C := Int.emod_lt_of_pos _ (by omega)
  have e1 : ¬ (60 : Int) < (l.length : Int) := by omega
  have e2 : decide ((60 : Int) < (l.length : Int)) = false := decide_eq_false e1
  have e3 : ¬ (50 : Int) < (turns.length : Int) := by omega
  have e4 : decide ((50 : Int) < (turns.length : Int)) = false := decide_eq_false e3
  have HS := Lib.hid hs
  have n0 : (ct == 0) = false := by simpa using hc0
  have n00 : (ct != 0) = true := by simpa using hc0

  clear hs hok hct
  go_enter Try.func12, Try.ntmps12
  go_wp2_with (first
    | (refine wpList_load_rowG (by rfl) 24 _ (by rfl) _ (by rfl) 24 _ (0, 0) _ kH0 Try.underlying24 rfl (info24 _ _ _ _ _) ?_)
    | (go_at_call 55; refine (some_any C R B F A cap cl none 0 [] _ hB hc63 iA0).mono ?_; rw [HS.out]; rintro e w1 ⟨rfl, hb1⟩; have bw1 := below_next bw0 bw0.size hb1; clear bw0; have kH1 := kH0.below hb1 kH0.lt; clear kH0; have kT1 := kT0.below hb1 kT0.lt; clear kT0; have iA1 := iA0.behind hb1; clear iA0; have iD1 := iD0.behind hb1; clear iD0; have iT1 := iT0.behind hb1; clear iT0; clear d0 d1 d2 d3 d4 f0 f1; obtain ⟨d0, d1, d2, d3, d4⟩ := kH1.five; have f0 := kT1.cell 0; have f1 := kT1.cell 1)
    | (go_at_call 51; refine (H51.out _ iA1 iD1).mono ?_; rintro e w2 ⟨X, xap, rfl, x1, x2, iX2, hb2⟩; have bw2 := below_next bw1 bw1.size hb2; clear bw1; have kH2 := kH1.below hb2 kH1.lt; clear kH1; have kT2 := kT1.below hb2 kT1.lt; clear kT1; have iA2 := iA1.behind hb2; clear iA1; have iD2 := iD1.behind hb2; clear iD1; have iT2 := iT1.behind hb2; clear iT1; have hn3 := below_new w2 (.cells #[.slice X ts.length xap, .int .i64 L] 67); have bw3 := below_next bw2 bw2.size hn3; clear bw2; have kH3 := kH2.below hn3 kH2.lt; clear kH2; have kT3 := kT2.below hn3 kT2.lt; clear kT2; have iA3 := iA2.behind hn3; clear iA2; have iD3 := iD2.behind hn3; clear iD2; have iT3 := iT2.behind hn3; clear iT2; have iX3 := iX2.behind hn3; clear iX2; have kX3 := Blk.new w2 67 #[.slice X ts.length xap, .int .i64 L]; clear d0 d1 d2 d3 d4 f0 f1; obtain ⟨d0, d1, d2, d3, d4⟩ := kH3.five; have f0 := kT3.cell 0; have f1 := kT3.cell 1; have g0 := kX3.cell 0; have g1 := kX3.cell 1)
    | (go_at_call 54; refine (H54a.out X xap _ iA3 iD3 iX3).mono ?_; rintro e w4 ⟨rfl, hb4⟩; have bw4 := below_next bw3 bw3.size hb4; clear bw3; have kH4 := kH3.below hb4 kH3.lt; clear kH3; have kT4 := kT3.below hb4 kT3.lt; clear kT3; have iA4 := iA3.behind hb4; clear iA3; have iD4 := iD3.behind hb4; clear iD3; have iT4 := iT3.behind hb4; clear iT3; have iX4 := iX3.behind hb4; clear iX3; have kX4 := kX3.below hb4 kX3.lt; clear kX3; clear d0 d1 d2 d3 d4 f0 f1; obtain ⟨d0, d1, d2, d3, d4⟩ := kH4.five; have f0 := kT4.cell 0; have f1 := kT4.cell 1; clear g0 g1; have g0 := kX4.cell 0; have g1 := kX4.cell 1)
    | (refine wpList_load_rowG (by rfl) 24 _ (by rfl) _ (by rfl) 24 _ (0, 0) _ kH4 Try.underlying24 rfl (info24 _ _ _ _ _) ?_)
    | (refine wpList_load_rowG (by rfl) 67 _ (by rfl) _ (by rfl) 67 _ (0, 0) _ kT4 Try.underlying67 rfl info67 ?_)
    | (go_at_call 54; refine (H54b.out _ iA4 iD4 iT4).mono ?_; rintro e w5 ⟨rfl, hb5⟩; have bw5 := below_next bw4 bw4.size hb5; clear bw4; have kH5 := kH4.below hb5 kH4.lt; clear kH4; have kT5 := kT4.below hb5 kT4.lt; clear kT4; have iA5 := iA4.behind hb5; clear iA4; have iD5 := iD4.behind hb5; clear iD4; have iT5 := iT4.behind hb5; clear iT4; have iX5 := iX4.behind hb5; clear iX4; have kX5 := kX4.below hb5 kX4.lt; clear kX4; clear d0 d1 d2 d3 d4 f0 f1; obtain ⟨d0, d1, d2, d3, d4⟩ := kH5.five; have f0 := kT5.cell 0; have f1 := kT5.cell 1; clear g0 g1; have g0 := kX5.cell 0; have g1 := kX5.cell 1; have hn6 := below_new w5 (.cells #[.int .i64 C, .int .i64 R, .int .i64 B, .int .i64 F, .slice none 0 0] 24); have bw6 := below_next bw5 bw5.size hn6; clear bw5; have kH6 := kH5.below hn6 kH5.lt; clear kH5; have kT6 := kT5.below hn6 kT5.lt; clear kT5; have iA6 := iA5.behind hn6; clear iA5; have iD6 := iD5.behind hn6; clear iD5; have iT6 := iT5.behind hn6; clear iT5; have iX6 := iX5.behind hn6; clear iX5; have kX6 := kX5.below hn6 kX5.lt; clear kX5; have kF6 := Blk.new w5 24 #[.int .i64 C, .int .i64 R, .int .i64 B, .int .i64 F, .slice none 0 0]; obtain ⟨p0, p1, p2, p3, p4⟩ := kH6.five)
    | fail)
  have hg5 : w5.heap.size < (w5.alloc (.cells #[.int .i64 C, .int .i64 R, .int .i64 B, .int .i64 F, .slice none 0 0] 24)).heap.size := by simp
  have iD6' := iD6
  clear kT6 iA6 iT6 iX6 f0 f1 HS
  go_loopw [13, 75] (fun v i wr => ∃ (k : Nat) (A' : Option Addr) (c' : Nat), k ≤ C.toNat ∧ i = .int .i64 k ∧ v = .slice A' (colsTo (fun i => decide ((i : Int) = (b % C)) || isIn l i) k).length c' ∧ Below (w5.alloc (.cells #[.int .i64 C, .int .i64 R, .int .i64 B, .int .i64 F, .slice none 0 0] 24)).heap.size (w5.alloc (.cells #[.int .i64 C, .int .i64 R, .int .i64 B, .int .i64 F, .slice none 0 0] 24)) wr ∧ wr.ownsRow (w5.alloc (.cells #[.int .i64 C, .int .i64 R, .int .i64 B, .int .i64 F, .slice none 0 0] 24)).heap.size 3 1 (.slice A' (colsTo (fun i => decide ((i : Int) = (b % C)) || isIn l i) k).length c') (colsTo (fun i => decide ((i : Int) = (b % C)) || isIn l i) k).length ((colsTo (fun i => decide ((i : Int) = (b % C)) || isIn l i) k).map (Value.int .i64)))
    (fun _ i _ => C.toNat - (intOf i).toNat)
  case atStart => exact ⟨0, none, 0, Nat.zero_le _, rfl, rfl, Below.refl _ _, World.ownsRow_nil _ _ _ _⟩
  case round =>
    clear d0 d1 d2 d3 d4 g0 g1 p0 p1 p2 p3 p4
    obtain ⟨k, A', c', hk, rfl, rfl, hb, hown⟩ := hrel
    have bw7 := below_next bw6 bw6.size hb
    have kH7 := kH6.below hb kH6.lt
    have kX7 := kX6.below hb kX6.lt
    have kF7 := kF6.below hb kF6.lt
    have iD7 := iD6.behind hb
    have hz7 := hb.size
    obtain ⟨d0, d1, d2, d3, d4⟩ := kH7.five
    have hcl2 := colsTo_len (fun i => decide ((i : Int) = (b % C)) || isIn l i) k
    by_cases hkn : k < C.toNat
    · have hki : (k : Int) < C := by omega
      by_cases hks : (k : Int) = (b % C)
      · have m1 : ((k : Int) == (b % C)) = true := by simpa using hks
        have HY := Lib.hid (colsTo_yes (p := fun i => decide ((i : Int) = (b % C)) || isIn l i) (k := k) (by show (decide ((k : Int) = (b % C)) || decide ((k : Int) ∈ l)) = true; rw [decide_eq_true hks]; rfl))
        clear hks
        generalize colsTo (fun i => decide ((i : Int) = (b % C)) || isIn l i) k = cs at *
        go_wp2_with (first
          | (at_builtin; refine app1 (by rfl) _ _ (by rfl) (w5.alloc (.cells #[.int .i64 C, .int .i64 R, .int .i64 B, .int .i64 F, .slice none 0 0] 24)).heap.size cs (k : Int) _ (by rfl) hown (by rfl) (by omega) hz7 ?_; intro A8 c8 w8 hown8 hb8))
        go_roundw
        case rel => exact ⟨k + 1, A8, c8, by omega, by go_num, by rw [HY.out]; simp, hb.trans hb8, by rw [HY.out]; exact hown8⟩
        case measure => simp [intOf]; try omega
      · have m1 : ((k : Int) == (b % C)) = false := by simpa using hks
        cases hm : decide ((k : Int) ∈ l) with
        | true =>
          have HM := Lib.hid hm
          have HY := Lib.hid (colsTo_yes (p := fun i => decide ((i : Int) = (b % C)) || isIn l i) (k := k) (by show (decide ((k : Int) = (b % C)) || decide ((k : Int) ∈ l)) = true; rw [hm]; simp))
          clear hks hm
          generalize colsTo (fun i => decide ((i : Int) = (b % C)) || isIn l i) k = cs at *
          go_wp2_with (first
            | (go_at_call 56; refine (has56_any l D dap _ _ (by omega) iD7).mono ?_; rw [HM.out]; rintro e w8 ⟨rfl, rfl⟩)
            | (at_builtin; refine app1 (by rfl) _ _ (by rfl) (w5.alloc (.cells #[.int .i64 C, .int .i64 R, .int .i64 B, .int .i64 F, .slice none 0 0] 24)).heap.size cs (k : Int) _ (by rfl) hown (by rfl) (by omega) hz7 ?_; intro A8 c8 w8 hown8 hb8))
          go_roundw
          case rel => exact ⟨k + 1, A8, c8, by omega, by go_num, by rw [HY.out]; simp, hb.trans hb8, by rw [HY.out]; exact hown8⟩
          case measure => simp [intOf]; try omega
        | false =>
          have HM := Lib.hid hm
          have HY := Lib.hid (colsTo_no (p := fun i => decide ((i : Int) = (b % C)) || isIn l i) (k := k) (by show (decide ((k : Int) = (b % C)) || decide ((k : Int) ∈ l)) = false; rw [hm, decide_eq_false hks]; rfl))
          clear hks hm
          generalize colsTo (fun i => decide ((i : Int) = (b % C)) || isIn l i) k = cs at *
          go_wp2_with (first
            | (go_at_call 56; refine (has56_any l D dap _ _ (by omega) iD7).mono ?_; rw [HM.out]; rintro e w8 ⟨rfl, rfl⟩))
          go_roundw
          case rel => exact ⟨k + 1, A', c', by omega, by go_num, by rw [HY.out], hb, by rw [HY.out]; exact hown⟩
          case measure => simp [intOf]; try omega
    · obtain rfl : k = C.toNat := by omega
      have hki : ¬ ((C.toNat : Int) < C) := by omega
      have hCn : ((C.toNat : Nat) : Int) = C := by omega
      have hal : colsTo (fun i => decide ((i : Int) = (b % C)) || isIn l i) C.toNat = allOf C (b % C) l := rfl
      rw [hal] at hown hcl2 ⊢
      clear hal
      have iY7 := Ints.of_own hown
      generalize allOf C (b % C) l = al at *
      obtain ⟨r0, r1, r2, r3, r4⟩ := kF7.five
      clear hown iD7 iD6
      go_wp2_with (first
        | (go_at_call 49; refine (H49.out A' c' _ iY7).mono ?_; rintro e w9 ⟨G, gap, rfl, y1, y2, iG9, hb9⟩; have bw9 := below_next bw7 bw7.size hb9; have kH9 := kH7.below hb9 kH7.lt; have kX9 := kX7.below hb9 kX7.lt))
      clear d0 d1 d2 d3 d4 r0 r1 r2 r3 r4 bw7 kH7 kX7 kF7 kF6 kH6 kX6 iY7
      go_loopw [17, 99] (fun v i wr => ∃ k : Nat, k ≤ gs.length ∧ i = .int .i64 k ∧ v = .int .i64 (maxL (gs.take k)) ∧ Below w9.heap.size w9 wr)
        (fun _ i _ => gs.length - (intOf i).toNat)
      case atStart => exact ⟨0, Nat.zero_le _, rfl, rfl, Below.refl _ _⟩
      case round =>
        obtain ⟨j, hj, rfl, rfl, hb10⟩ := hrel
        by_cases hjl : j < gs.length
        · obtain ⟨ad, hA, hadb, hce⟩ := (iG9.behind hb10).get hjl
          subst hA
          have hji : (j : Int) < (gs.length : Int) := by omega
          have HX : Hid (maxL (gs.take (j + 1)) = max (maxL (gs.take j)) gs[j]) := by unfold Hid; rw [List.take_succ_eq_append_getElem hjl, maxL_snoc]
          generalize maxL (gs.take j) = mx at *
          generalize gs[j] = x at *
          go_wp2_with fail
          go_roundw
          case rel => exact ⟨j + 1, by omega, by go_num, by rw [HX.out], hb10⟩
          case measure => simp [intOf]; try omega
        · have ek : gs.take j = gs := List.take_of_length_le (by omega)
          rw [ek]
          have bw10 := below_next bw9 bw9.size hb10
          have kH10 := kH9.below hb10 kH9.lt
          have kX10 := kX9.below hb10 kX9.lt
          generalize maxL gs = mx at *
          have v1 : IntKind.i64.wrap (C - 1) = C - 1 := IntWalk.i64_in _ (by omega)
          have v2 : IntKind.i64.wrap (C - mx) = C - mx := IntWalk.i64_in _ (by omega)
          have v3 : decide (L ≤ C - 1) = true := decide_eq_true hL1
          have v4 : decide (C - mx ≤ L) = true := decide_eq_true hLg
          go_wp2_with (first
            | (go_at_call 15; refine (sanity_any _).mono ?_; rintro e w11 ⟨rfl, hb11⟩; have bw11 := below_next bw10 bw10.size hb11; have kH11 := kH10.below hb11 kH10.lt; have kX11 := kX10.below hb11 kX10.lt; have d0 := kH11.cell 0; have g1 := kX11.cell 1))
          go_ret
          exact ⟨ret_bool rfl, bw11⟩

set_option maxRecDepth 100000 in
set_option maxHeartbeats 4000000 in
theorem turningLaw_way (C R B F : Int) (A : Option Addr) (cap : Nat) (cl : List Int) (b : Int) (D : Option Addr) (dap : Nat) (l : List Int) (TA : Option Addr) (tap : Nat) (turns : List Int) (len : Int) (w : World) (hB : B ≤ 9223372036854775807) (hcl : cl.length ≤ maxLen) (hll : l.length ≤ maxLen) (htl : turns.length ≤ maxLen) (hr : Ints w w.heap.size A cl) (hl : Ints w w.heap.size D l) (ht : Ints w w.heap.size TA turns) (b0 : 0 ≤ b) (b1 : b ≤ 255) (hs : someB C R B F cl [] = true) (h60 : l.length ≤ 60) (h50 : turns.length ≤ 50) (hok : Ok C R B F cl) (ts : List Int) (L er : Int) (her : er ≠ 0) (H51 : Hid (∀ W : World, Ints W W.heap.size A cl → Ints W W.heap.size D l → Calls Try.prog 51 #[.agg #[.int .i64 C, .int .i64 R, .int .i64 B, .int .i64 F, .slice A cl.length cap], .int .i64 (b % C), .slice D l.length dap] W (RetTurn W ts L er))) :
    Calls Try.prog 12 #[.agg #[.int .i64 C, .int .i64 R, .int .i64 B, .int .i64 F, .slice A cl.length cap], .int .u8 b, .slice D l.length dap, .agg #[.slice TA turns.length tap, .int .i64 len]] w fun e w' => e = .returned (.bool true) ∧ Below w.heap.size w w' := by
  have hc63 : cl.length ≤ 9223372036854775807 := Nat.le_trans hcl (by decide)
  have hl63 : l.length ≤ 9223372036854775807 := Nat.le_trans hll (by decide)
  have ht63 : turns.length ≤ 9223372036854775807 := Nat.le_trans htl (by decide)
  have bw0 : Below w.heap.size w ((w.alloc (.cells #[.int .i64 C, .int .i64 R, .int .i64 B, .int .i64 F, .slice A cl.length cap] 24)).alloc (.cells #[.slice TA turns.length tap, .int .i64 len] 67)) := (below_new w (.cells #[.int .i64 C, .int .i64 R, .int .i64 B, .int .i64 F, .slice A cl.length cap] 24)).alloc (by simp) _
  have kH0 : Blk ((w.alloc (.cells #[.int .i64 C, .int .i64 R, .int .i64 B, .int .i64 F, .slice A cl.length cap] 24)).alloc (.cells #[.slice TA turns.length tap, .int .i64 len] 67)) w.heap.size 24 #[.int .i64 C, .int .i64 R, .int .i64 B, .int .i64 F, .slice A cl.length cap] := (Blk.new _ _ _).alloc _
  have kT0 : Blk ((w.alloc (.cells #[.int .i64 C, .int .i64 R, .int .i64 B, .int .i64 F, .slice A cl.length cap] 24)).alloc (.cells #[.slice TA turns.length tap, .int .i64 len] 67)) (w.heap.size + 1) 67 #[.slice TA turns.length tap, .int .i64 len] := Blk.newAt (by simp)
  have iA0 := hr.behind bw0
  have iD0 := hl.behind bw0
  have iT0 := ht.behind bw0
  obtain ⟨d0, d1, d2, d3, d4⟩ := kH0.five
  have f0 := kT0.cell 0
  have f1 := kT0.cell 1
  have q1 := hok.c3
  have q2 := hok.c120
  have hC0 : (C == 0) = false := by simp; omega
  have e1 : ¬ (60 : Int) < (l.length : Int) := by omega
  have e2 : decide ((60 : Int) < (l.length : Int)) = false := decide_eq_false e1
  have e3 : ¬ (50 : Int) < (turns.length : Int) := by omega
  have e4 : decide ((50 : Int) < (turns.length : Int)) = false := decide_eq_false e3
  have HS := Lib.hid hs
  have n0 : (er == 0) = false := by simpa using her
  have n00 : (er != 0) = true := by simpa using her
  clear hs hok her
  go_enter Try.func12, Try.ntmps12
  go_wp2_with (first
    | (refine wpList_load_rowG (by rfl) 24 _ (by rfl) _ (by rfl) 24 _ (0, 0) _ kH0 Try.underlying24 rfl (info24 _ _ _ _ _) ?_)
    | (go_at_call 55; refine (some_any C R B F A cap cl none 0 [] _ hB hc63 iA0).mono ?_; rw [HS.out]; rintro e w1 ⟨rfl, hb1⟩; have bw1 := below_next bw0 bw0.size hb1; clear bw0; have kH1 := kH0.below hb1 kH0.lt; clear kH0; have kT1 := kT0.below hb1 kT0.lt; clear kT0; have iA1 := iA0.behind hb1; clear iA0; have iD1 := iD0.behind hb1; clear iD0; have iT1 := iT0.behind hb1; clear iT0; clear d0 d1 d2 d3 d4 f0 f1; obtain ⟨d0, d1, d2, d3, d4⟩ := kH1.five; have f0 := kT1.cell 0; have f1 := kT1.cell 1)
    | (go_at_call 51; refine (H51.out _ iA1 iD1).mono ?_; rintro e w2 ⟨X, xap, rfl, x1, x2, iX2, hb2⟩; have bw2 := below_next bw1 bw1.size hb2; clear bw1; have kH2 := kH1.below hb2 kH1.lt; clear kH1; have kT2 := kT1.below hb2 kT1.lt; clear kT1; have iA2 := iA1.behind hb2; clear iA1; have iD2 := iD1.behind hb2; clear iD1; have iT2 := iT1.behind hb2; clear iT1; have hn3 := below_new w2 (.cells #[.slice X ts.length xap, .int .i64 L] 67); have bw3 := below_next bw2 bw2.size hn3; clear bw2; have kH3 := kH2.below hn3 kH2.lt; clear kH2; have kT3 := kT2.below hn3 kT2.lt; clear kT2; have iA3 := iA2.behind hn3; clear iA2; have iD3 := iD2.behind hn3; clear iD2; have iT3 := iT2.behind hn3; clear iT2)
    | (go_at_call 15; refine (sanity_any _).mono ?_; rintro e w4 ⟨rfl, hb4⟩; have bw4 := below_next bw3 bw3.size hb4)
    | fail)
  go_ret
  exact ⟨ret_bool rfl, bw4⟩

theorem turningLaw_any (C R B F : Int) (A : Option Addr) (cap : Nat) (cl : List Int) (b : Int) (D : Option Addr) (dap : Nat) (l : List Int) (TA : Option Addr) (tap : Nat) (turns : List Int) (len : Int) (w : World) (hB : B ≤ 9223372036854775807) (hcl : cl.length ≤ maxLen) (hll : l.length ≤ maxLen) (htl : turns.length ≤ maxLen) (hr : Ints w w.heap.size A cl) (hl : Ints w w.heap.size D l) (ht : Ints w w.heap.size TA turns) (b0 : 0 ≤ b) (b1 : b ≤ 255) :
    Calls Try.prog 12 #[.agg #[.int .i64 C, .int .i64 R, .int .i64 B, .int .i64 F, .slice A cl.length cap], .int .u8 b, .slice D l.length dap, .agg #[.slice TA turns.length tap, .int .i64 len]] w fun e w' => e = .returned (.bool true) ∧ Below w.heap.size w w' := by
  by_cases hd : l.length ≤ 60 ∧ turns.length ≤ 50 ∧ someB C R B F cl [] = true
  · obtain ⟨h60, h50, hs⟩ := hd
    have hok := chk_ok.1 (of_decide_eq_true hs).2
    have hC : 1 ≤ C := by have := hok.c3; omega
    have s0 : 0 ≤ (b % C) := Int.emod_nonneg _ (by omega)
    have s1 : (b % C) < C := Int.emod_lt_of_pos _ (by omega)
    have hc63 : cl.length ≤ 9223372036854775807 := Nat.le_trans hcl (by decide)
    have hl63 : l.length ≤ 9223372036854775807 := Nat.le_trans hll (by decide)
    have ht63 : turns.length ≤ 9223372036854775807 := Nat.le_trans htl (by decide)
    have H51 := fun (W : World) (ha : Ints W W.heap.size A cl) (hd : Ints W W.heap.size D l) => turn_any C R B F A cap cl (b % C) D dap l W hB hc63 ha hd hl63
    by_cases hway : wayErr C R B F cl (b % C) l = 0
    · simp only [hway, ↓reduceIte] at H51
      obtain ⟨_, _, hst⟩ := wayErr_zero hway
      obtain ⟨_, hrise, _⟩ := standsErr_zero hst
      have hM := hrise.2
      obtain ⟨f1, f2, f3, _⟩ := sweep_facts hC (best_spec (C := C) (s := (b % C)) (l := l)).1
      obtain ⟨t1, t2, t3, _, _⟩ := turnsOf_facts f1 f2 f3
      have hck := ckTurn_good (C := C) (R := R) (B := B) (F := F) (cl := cl) (s := (b % C)) (l := l) (len := lenOf (bestOf C (b % C) l).1 (bestOf C (b % C) l).2) hway (by omega : ¬ 40 < (turnsOf (bestOf C (b % C) l).1 (bestOf C (b % C) l).2).length) ⟨fun n hn hb => by obtain ⟨g1, g2, g3⟩ := t1 n hn; unfold turnBad at hb; omega, t2, turn_past hC s0 s1 hM⟩
      have H54a := fun (X : Option Addr) (xap : Nat) (W : World) (ha : Ints W W.heap.size A cl) (hd : Ints W W.heap.size D l) (hx : Ints W W.heap.size X (turnsOf (bestOf C (b % C) l).1 (bestOf C (b % C) l).2)) => checkTurn_any C R B F A cap cl (b % C) D dap l X xap (turnsOf (bestOf C (b % C) l).1 (bestOf C (b % C) l).2) (lenOf (bestOf C (b % C) l).1 (bestOf C (b % C) l).2) W hB hc63 hl63 (by omega) ha hd hx
      simp only [hck] at H54a
      have H54b := fun (W : World) (ha : Ints W W.heap.size A cl) (hd : Ints W W.heap.size D l) (hx : Ints W W.heap.size TA turns) => checkTurn_any C R B F A cap cl (b % C) D dap l TA tap turns len W hB hc63 hl63 ht63 ha hd hx
      have hct : ckTurn C R B F cl (b % C) l turns len = 0 → lenOf (bestOf C (b % C) l).1 (bestOf C (b % C) l).2 ≤ len := fun h0 => by
        by_cases h40 : 40 < turns.length
        · rw [ckTurn_many hway h40] at h0; cases h0
        · by_cases hg : (∀ n ∈ turns, ¬ turnBad C n) ∧ sumAbs turns = len ∧ ∀ x ∈ l, x ∈ (trips C (b % C) turns).2
          · rw [← hg.2.1]
            exact turn_least hC s0 s1 hg.2.2
          · rw [ckTurn_bad hway h40 hg] at h0; cases h0
      have hal := allOf_rise (C := C) (s := (b % C)) (l := l)
      have hall : (allOf C (b % C) l).length ≤ 120 := by have := colsTo_len (fun i => decide ((i : Int) = (b % C)) || isIn l i) C.toNat; have := hok.c120; unfold allOf; omega
      have hge : gapErr C R B F [] (allOf C (b % C) l) = 0 := by
        have h0 : chk C R B F [] = 0 := chk_ok.2 ⟨hok.c3, hok.c120, hok.r1, hok.r16, hok.b0, hok.f0, hok.bf, by simp, Rise.nil⟩
        unfold gapErr standsErr
        rw [if_neg (by simp [h0]), if_neg (by omega), if_pos ⟨hal, by simp⟩]
      have H49 := fun (Y : Option Addr) (yap : Nat) (W : World) (hy : Ints W W.heap.size Y (allOf C (b % C) l)) => gaps_any C R B F none 0 [] Y yap (allOf C (b % C) l) W hB (by simp) (by omega) Ints.nil hy
      simp only [hge, ↓reduceIte] at H49
      obtain ⟨g1, g2⟩ := widest_in (C := C) (s := (b % C)) (l := l) hC
      have g3 := turn_widest hC s0 s1 hM
      have g4 := turn_most (C := C) (s := (b % C)) (l := l) hC
      have hL0 : 0 ≤ lenOf (bestOf C (b % C) l).1 (bestOf C (b % C) l).2 := by unfold lenOf; omega
      have hgl : (gapsTo C (allOf C (b % C) l) (allOf C (b % C) l).length).length ≤ 120 := by rw [gapsTo_len]; exact hall
      by_cases hc0 : ckTurn C R B F cl (b % C) l turns len = 0
      · exact turningLaw_go0 C R B F A cap cl b D dap l TA tap turns len w hB hcl hll htl hr hl ht b0 b1 hs h60 h50 hok hM _ _ _ _ H51 H54a H54b hct H49 hL0 g4 g1 g2 g3 hgl hc0
      · exact turningLaw_go1 C R B F A cap cl b D dap l TA tap turns len w hB hcl hll htl hr hl ht b0 b1 hs h60 h50 hok hM _ _ _ _ H51 H54a H54b hct H49 hL0 g4 g1 g2 g3 hgl hc0
    · exact turningLaw_way C R B F A cap cl b D dap l TA tap turns len w hB hcl hll htl hr hl ht b0 b1 hs h60 h50 hok _ _ _ hway H51
  · exact turningLaw_out C R B F A cap cl b D dap l TA tap turns len w hB hcl hll htl hr hl ht b0 b1 hd

end Go.Proofs.Ytnjmkdgglpcfpaa
