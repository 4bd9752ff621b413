import Derived.Test.YtnjmkdgglpcfpaaM8
namespace Go.Proofs.Ytnjmkdgglpcfpaa
set_option linter.unusedSimpArgs false
set_option linter.unusedVariables false
open Go.RowKit

theorem one_new (w : World) (x : Int) : Ints (w.alloc (.cells #[.int .i64 x] 3)) (w.alloc (.cells #[.int .i64 x] 3)).heap.size (some ⟨w.heap.size, 0, none⟩) [x] := fun k y h => by
  match k, h with
  | 0, h =>
    obtain rfl : x = y := by simpa using h
    exact ⟨_, rfl, by simp, (Blk.new w 3 #[.int .i64 x]).cell 0⟩
  | k + 1, h => simp at h

set_option maxRecDepth 100000 in
set_option maxHeartbeats 1000000 in
theorem standsLaw_out (C R B F : Int) (A : Option Addr) (cap : Nat) (cl : List Int) (D : Option Addr) (dap : Nat) (l : List Int) (b : Int) (w : World) (hB : B ≤ 9223372036854775807) (hcl : cl.length ≤ maxLen) (hll : l.length ≤ maxLen) (hr : Ints w w.heap.size A cl) (hl : Ints w w.heap.size D l) (hs : someB C R B F cl l = false) :
    Calls Try.prog 9 #[.agg #[.int .i64 C, .int .i64 R, .int .i64 B, .int .i64 F, .slice A cl.length cap], .slice D l.length dap, .int .u8 b] w fun e w' => e = .returned (.bool true) ∧ Below w.heap.size w w' := by
  have hc63 : cl.length ≤ 9223372036854775807 := Nat.le_trans hcl (by decide)
  have bw0 := below_new w (.cells #[.int .i64 C, .int .i64 R, .int .i64 B, .int .i64 F, .slice A cl.length cap] 24)
  have kH0 := Blk.new w 24 #[.int .i64 C, .int .i64 R, .int .i64 B, .int .i64 F, .slice A cl.length cap]
  have iA0 := hr.behind bw0
  have iD0 := hl.behind bw0
  clear hr hl
  have HS := Lib.hid hs
  clear hs
  go_enter Try.func9, Try.ntmps9
  go_wp2_with (first
    | (go_at_call 55; refine (some_any C R B F A cap cl D dap l _ hB hc63 iA0).mono ?_; rw [HS.out]; rintro e w1 ⟨rfl, hb1⟩; have bw1 := below_next bw0 bw0.size hb1)
    | (go_at_call 15; refine (sanity_any _).mono ?_; rintro e w2 ⟨rfl, hb2⟩; have bw2 := below_next bw1 bw1.size hb2))
  go_ret
  exact ⟨ret_bool rfl, bw2⟩

set_option maxRecDepth 100000 in
set_option maxHeartbeats 1000000 in
theorem standsLaw_err (C R B F : Int) (A : Option Addr) (cap : Nat) (cl : List Int) (D : Option Addr) (dap : Nat) (l : List Int) (b : Int) (w : World) (hB : B ≤ 9223372036854775807) (hcl : cl.length ≤ maxLen) (hll : l.length ≤ maxLen) (hr : Ints w w.heap.size A cl) (hl : Ints w w.heap.size D l) (hs : someB C R B F cl l = true) (N : Nat) (er : Int) (hne : er ≠ 0) (C1 : ∀ W : World, Ints W W.heap.size A cl → Ints W W.heap.size D l → Calls Try.prog 37 #[.agg #[.int .i64 C, .int .i64 R, .int .i64 B, .int .i64 F, .slice A cl.length cap], .slice D l.length dap] W fun e w' => e = .returned (.tuple #[.int .i64 (N : Nat), .int .i64 er]) ∧ Below W.heap.size W w') :
    Calls Try.prog 9 #[.agg #[.int .i64 C, .int .i64 R, .int .i64 B, .int .i64 F, .slice A cl.length cap], .slice D l.length dap, .int .u8 b] w fun e w' => e = .returned (.bool true) ∧ Below w.heap.size w w' := by
  have hc63 : cl.length ≤ 9223372036854775807 := Nat.le_trans hcl (by decide)
  have bw0 := below_new w (.cells #[.int .i64 C, .int .i64 R, .int .i64 B, .int .i64 F, .slice A cl.length cap] 24)
  have kH0 := Blk.new w 24 #[.int .i64 C, .int .i64 R, .int .i64 B, .int .i64 F, .slice A cl.length cap]
  have iA0 := hr.behind bw0
  have iD0 := hl.behind bw0
  clear hr hl
  have HS := Lib.hid hs
  have H1 := Lib.hid C1
  have n1 : (er == 0) = false := by simpa using hne
  have n2 : (er != 0) = true := by simpa using hne
  clear hs C1 hne
  go_enter Try.func9, Try.ntmps9
  go_wp2_with (first
    | (go_at_call 55; refine (some_any C R B F A cap cl D dap l _ hB hc63 iA0).mono ?_; rw [HS.out]; rintro e w1 ⟨rfl, hb1⟩; have bw1 := below_next bw0 bw0.size hb1; have kH1 := kH0.below hb1 kH0.lt; have iA1 := iA0.behind hb1; have iD1 := iD0.behind hb1; obtain ⟨d0, d1, d2, d3, d4⟩ := kH1.five)
    | (go_at_call 37; refine (H1.out _ iA1 iD1).mono ?_; rintro e w2 ⟨rfl, hb2⟩; have bw2 := below_next bw1 bw1.size hb2)
    | (go_at_call 15; refine (sanity_any _).mono ?_; rintro e w3 ⟨rfl, hb3⟩; have bw3 := below_next bw2 bw2.size hb3))
  go_ret
  exact ⟨ret_bool rfl, bw3⟩

set_option maxRecDepth 100000 in
set_option maxHeartbeats 8000000 in
theorem standsLaw_a (C R B F : Int) (A : Option Addr) (cap : Nat) (cl : List Int) (D : Option Addr) (dap : Nat) (l : List Int) (b : Int) (w : World) (hB : B ≤ 9223372036854775807) (hcl : cl.length ≤ maxLen) (hll : l.length ≤ maxLen) (hr : Ints w w.heap.size A cl) (hl : Ints w w.heap.size D l) (b0 : 0 ≤ b) (b1 : b ≤ 255) (hs : someB C R B F cl l = true) (hok : Ok C R B F cl) (N M O : Nat) (e2 : Int) (ned use cl2 rest : List Int) (hnl : ned.length ≤ 1000000) (hul : use.length ≤ 1000000)
    (C1 : ∀ W : World, Ints W W.heap.size A cl → Ints W W.heap.size D l → Calls Try.prog 37 #[.agg #[.int .i64 C, .int .i64 R, .int .i64 B, .int .i64 F, .slice A cl.length cap], .slice D l.length dap] W fun e w' => e = .returned (.tuple #[.int .i64 (N : Nat), .int .i64 0]) ∧ Below W.heap.size W w')
    (CN : ∀ W : World, Ints W W.heap.size A cl → Ints W W.heap.size D l → Calls Try.prog 43 #[.agg #[.int .i64 C, .int .i64 R, .int .i64 B, .int .i64 F, .slice A cl.length cap], .slice D l.length dap] W (RetInts2 W ned 0))
    (CU : ∀ W : World, Ints W W.heap.size A cl → Ints W W.heap.size D l → Calls Try.prog 45 #[.agg #[.int .i64 C, .int .i64 R, .int .i64 B, .int .i64 F, .slice A cl.length cap], .slice D l.length dap] W (RetInts2 W use 0))
    (C34 : ∀ (X : Option Addr) (xap : Nat) (W : World), Ints W W.heap.size A cl → Ints W W.heap.size X [(b % C)] → Calls Try.prog 34 #[.agg #[.int .i64 C, .int .i64 R, .int .i64 B, .int .i64 F, .slice A cl.length cap], .slice X 1 xap] W (RetHouse W C R B F cl2 0))
    (C2 : ∀ (X : Option Addr) (xap : Nat) (W : World), Ints W W.heap.size X cl2 → Ints W W.heap.size D l → Calls Try.prog 37 #[.agg #[.int .i64 C, .int .i64 R, .int .i64 B, .int .i64 F, .slice X cl2.length xap], .slice D l.length dap] W fun e w' => e = .returned (.tuple #[.int .i64 (M : Nat), .int .i64 e2]) ∧ Below W.heap.size W w')
    (C32 : ∀ (X : Option Addr) (xap : Nat) (W : World), Ints W W.heap.size A cl → Ints W W.heap.size D l → Ints W W.heap.size X [(b % C)] → Calls Try.prog 32 #[.agg #[.int .i64 C, .int .i64 R, .int .i64 B, .int .i64 F, .slice A cl.length cap], .slice D l.length dap, .slice X 1 xap] W (RetInts2 W rest 0))
    (C3 : ∀ (Y : Option Addr) (yap : Nat) (W : World), Ints W W.heap.size A cl → Ints W W.heap.size Y rest → Calls Try.prog 37 #[.agg #[.int .i64 C, .int .i64 R, .int .i64 B, .int .i64 F, .slice A cl.length cap], .slice Y rest.length yap] W fun e w' => e = .returned (.tuple #[.int .i64 (O : Nat), .int .i64 0]) ∧ Below W.heap.size W w')
    (hce : e2 = 5) (ho : O + 1 = N) (hN : N ≤ 1000) (hd1 : decide ((b % C) ∈ ned) = true) (hd2 : decide ((b % C) ∈ use) = true) (hd3 : decide ((b % C) ∈ cl) = false) :
    Calls Try.prog 9 #[.agg #[.int .i64 C, .int .i64 R, .int .i64 B, .int .i64 F, .slice A cl.length cap], .slice D l.length dap, .int .u8 b] w fun e w' => e = .returned (.bool true) ∧ Below w.heap.size w w' := by
  have hc63 : cl.length ≤ 9223372036854775807 := Nat.le_trans hcl (by decide)
  have bw0 := below_new w (.cells #[.int .i64 C, .int .i64 R, .int .i64 B, .int .i64 F, .slice A cl.length cap] 24)
  have kH0 := Blk.new w 24 #[.int .i64 C, .int .i64 R, .int .i64 B, .int .i64 F, .slice A cl.length cap]
  have iA0 := hr.behind bw0
  have iD0 := hl.behind bw0
  clear hr hl
  have q1 := hok.c3
  have q2 := hok.c120
  have z1 : (C == 0) = false := by simp; omega
  have hz2 : b.tmod C = b % C := Int.tmod_eq_emod_of_nonneg b0
  have hcl6 : cl.length ≤ 1000000 := by have := hok.len; omega
  subst hce
  have f1 : (0 : Int) < (N : Int) := by omega
  have f2 : decide ((0 : Int) < (N : Int)) = true := decide_eq_true f1
  have f3 : ((O : Int) == (N : Int) - 1) = true := by simp; omega
  have f5 : IntKind.i64.wrap ((N : Int) - 1) = (N : Int) - 1 := IntWalk.i64_in _ (by omega)
  have HS := Lib.hid hs
  have H1 := Lib.hid C1
  have HN := Lib.hid CN
  have HU := Lib.hid CU
  have H34 := Lib.hid C34
  have H2 := Lib.hid C2
  have H32 := Lib.hid C32
  have H3 := Lib.hid C3
  have DN := Lib.hid hd1
  have DU := Lib.hid hd2
  have DC := Lib.hid hd3
  clear hs C1 CN CU C34 C2 C32 C3 hd1 hd2 hd3 hok
  go_enter Try.func9, Try.ntmps9
  go_wp2_with (first
    | (go_at_call 55; refine (some_any C R B F A cap cl D dap l _ hB hc63 iA0).mono ?_; rw [HS.out]; rintro e w1 ⟨rfl, hb1⟩; have bw1 := below_next bw0 bw0.size hb1; clear bw0; have kH1 := kH0.below hb1 kH0.lt; clear kH0; have iA1 := iA0.behind hb1; clear iA0; have iD1 := iD0.behind hb1; clear iD0; obtain ⟨d0, d1, d2, d3, d4⟩ := kH1.five)
    | (go_at_call 37; refine (H1.out _ iA1 iD1).mono ?_; rintro e w2 ⟨rfl, hb2⟩; have bw2 := below_next bw1 bw1.size hb2; clear bw1; have kH2 := kH1.below hb2 kH1.lt; clear kH1; have iA2 := iA1.behind hb2; clear iA1; have iD2 := iD1.behind hb2; clear iD1; clear d0 d1 d2 d3 d4; obtain ⟨d0, d1, d2, d3, d4⟩ := kH2.five)
    | (go_at_call 43; refine (HN.out _ iA2 iD2).mono ?_; rintro e w3 ⟨NA, nap, rfl, nx1, nx2, iN3, hb3⟩; have bw3 := below_next bw2 bw2.size hb3; clear bw2; have kH3 := kH2.below hb3 kH2.lt; clear kH2; have iA3 := iA2.behind hb3; clear iA2; have iD3 := iD2.behind hb3; clear iD2; clear d0 d1 d2 d3 d4; obtain ⟨d0, d1, d2, d3, d4⟩ := kH3.five)
    | (go_at_call 45; refine (HU.out _ iA3 iD3).mono ?_; rintro e w4 ⟨UA, uap, rfl, ux1, ux2, iU4, hb4⟩; have bw4 := below_next bw3 bw3.size hb4; clear bw3; have kH4 := kH3.below hb4 kH3.lt; clear kH3; have iA4 := iA3.behind hb4; clear iA3; have iD4 := iD3.behind hb4; clear iD3; have iN4 := iN3.behind hb4; clear iN3; clear d0 d1 d2 d3 d4; obtain ⟨d0, d1, d2, d3, d4⟩ := kH4.five)
    | (go_at_call 34; have hn5 := below_new w4 (.cells #[.int .i64 (b % C)] 3); have bw5 := below_next bw4 bw4.size hn5; clear bw4; have kH5 := kH4.below hn5 kH4.lt; clear kH4; have iA5 := iA4.behind hn5; clear iA4; have iD5 := iD4.behind hn5; clear iD4; have iN5 := iN4.behind hn5; clear iN4; have iU5 := iU4.behind hn5; clear iU4; have iS5 := one_new w4 (b % C); refine (H34.out _ _ _ iA5 iS5).mono ?_; rintro e w6 ⟨X, xap, rfl, x1, x2, iX6, hb6⟩; have bw6 := below_next bw5 bw5.size hb6; clear bw5; have kH6 := kH5.below hb6 kH5.lt; clear kH5; have iA6 := iA5.behind hb6; clear iA5; have iD6 := iD5.behind hb6; clear iD5; have iN6 := iN5.behind hb6; clear iN5; have iU6 := iU5.behind hb6; clear iU5; have hn7 := below_new w6 (.cells #[.int .i64 C, .int .i64 R, .int .i64 B, .int .i64 F, .slice X cl2.length xap] 24); have bw7 := below_next bw6 bw6.size hn7; clear bw6; have kH7 := kH6.below hn7 kH6.lt; clear kH6; have iA7 := iA6.behind hn7; clear iA6; have iD7 := iD6.behind hn7; clear iD6; have iN7 := iN6.behind hn7; clear iN6; have iU7 := iU6.behind hn7; clear iU6; have iX7 := iX6.behind hn7; clear iX6; have kT7 := Blk.new w6 24 #[.int .i64 C, .int .i64 R, .int .i64 B, .int .i64 F, .slice X cl2.length xap]; clear iS5; clear d0 d1 d2 d3 d4; obtain ⟨d0, d1, d2, d3, d4⟩ := kH7.five; obtain ⟨e0, e1, e2', e3, e4⟩ := kT7.five)
    | (go_at_call 37; refine (H2.out X xap _ iX7 iD7).mono ?_; rintro e w8 ⟨rfl, hb8⟩; have bw8 := below_next bw7 bw7.size hb8; clear bw7; have kH8 := kH7.below hb8 kH7.lt; clear kH7; have iA8 := iA7.behind hb8; clear iA7; have iD8 := iD7.behind hb8; clear iD7; have iN8 := iN7.behind hb8; clear iN7; have iU8 := iU7.behind hb8; clear iU7; have iX8 := iX7.behind hb8; clear iX7; clear d0 d1 d2 d3 d4; obtain ⟨d0, d1, d2, d3, d4⟩ := kH8.five; clear e0 e1 e2' e3 e4)
    | (go_at_call 32; have hn9 := below_new w8 (.cells #[.int .i64 (b % C)] 3); have bw9 := below_next bw8 bw8.size hn9; clear bw8; have kH9 := kH8.below hn9 kH8.lt; clear kH8; have iA9 := iA8.behind hn9; clear iA8; have iD9 := iD8.behind hn9; clear iD8; have iN9 := iN8.behind hn9; clear iN8; have iU9 := iU8.behind hn9; clear iU8; have iX9 := iX8.behind hn9; clear iX8; have iS9 := one_new w8 (b % C); refine (H32.out _ _ _ iA9 iD9 iS9).mono ?_; rintro e w10 ⟨Y, yap, rfl, y1, y2, iY10, hb10⟩; have bw10 := below_next bw9 bw9.size hb10; clear bw9; have kH10 := kH9.below hb10 kH9.lt; clear kH9; have iA10 := iA9.behind hb10; clear iA9; have iD10 := iD9.behind hb10; clear iD9; have iN10 := iN9.behind hb10; clear iN9; have iU10 := iU9.behind hb10; clear iU9; have iX10 := iX9.behind hb10; clear iX9; clear d0 d1 d2 d3 d4; obtain ⟨d0, d1, d2, d3, d4⟩ := kH10.five)
    | (go_at_call 37; refine (H3.out Y yap _ iA10 iY10).mono ?_; rintro e w11 ⟨rfl, hb11⟩; have bw11 := below_next bw10 bw10.size hb11; clear bw10; have kH11 := kH10.below hb11 kH10.lt; clear kH10; have iA11 := iA10.behind hb11; clear iA10; have iD11 := iD10.behind hb11; clear iD10; have iN11 := iN10.behind hb11; clear iN10; have iU11 := iU10.behind hb11; clear iU10; have iX11 := iX10.behind hb11; clear iX10; have iY11 := iY10.behind hb11; clear iY10; clear d0 d1 d2 d3 d4; obtain ⟨d0, d1, d2, d3, d4⟩ := kH11.five)
    | (go_at_call 15; refine (sanity_any _).mono ?_; rintro e w12 ⟨rfl, hb12⟩; have bw12 := below_next bw11 bw11.size hb12; clear bw11; have kH12 := kH11.below hb12 kH11.lt; clear kH11; have iA12 := iA11.behind hb12; clear iA11; have iD12 := iD11.behind hb12; clear iD11; have iN12 := iN11.behind hb12; clear iN11; have iU12 := iU11.behind hb12; clear iU11; have iX12 := iX11.behind hb12; clear iX11; have iY12 := iY11.behind hb12; clear iY11)
    | (go_at_call 56; refine (has56_any _ _ _ _ _ (by first | exact hnl | exact hul | exact hcl6) (by first | exact iN8 | exact iU8 | exact iA8)).mono ?_; (first | rw [DN.out] | rw [DU.out] | rw [DC.out]); rintro e wh ⟨rfl, rfl⟩)
    | (go_at_call 56; refine (has56_any _ _ _ _ _ (by first | exact hnl | exact hul | exact hcl6) (by first | exact iN12 | exact iU12 | exact iA12)).mono ?_; (first | rw [DN.out] | rw [DU.out] | rw [DC.out]); rintro e wh ⟨rfl, rfl⟩)
    | fail)
  go_ret
  exact ⟨ret_bool rfl, bw12⟩

set_option maxRecDepth 100000 in
set_option maxHeartbeats 8000000 in
theorem standsLaw_b (C R B F : Int) (A : Option Addr) (cap : Nat) (cl : List Int) (D : Option Addr) (dap : Nat) (l : List Int) (b : Int) (w : World) (hB : B ≤ 9223372036854775807) (hcl : cl.length ≤ maxLen) (hll : l.length ≤ maxLen) (hr : Ints w w.heap.size A cl) (hl : Ints w w.heap.size D l) (b0 : 0 ≤ b) (b1 : b ≤ 255) (hs : someB C R B F cl l = true) (hok : Ok C R B F cl) (N M O : Nat) (e2 : Int) (ned use cl2 rest : List Int) (hnl : ned.length ≤ 1000000) (hul : use.length ≤ 1000000)
    (C1 : ∀ W : World, Ints W W.heap.size A cl → Ints W W.heap.size D l → Calls Try.prog 37 #[.agg #[.int .i64 C, .int .i64 R, .int .i64 B, .int .i64 F, .slice A cl.length cap], .slice D l.length dap] W fun e w' => e = .returned (.tuple #[.int .i64 (N : Nat), .int .i64 0]) ∧ Below W.heap.size W w')
    (CN : ∀ W : World, Ints W W.heap.size A cl → Ints W W.heap.size D l → Calls Try.prog 43 #[.agg #[.int .i64 C, .int .i64 R, .int .i64 B, .int .i64 F, .slice A cl.length cap], .slice D l.length dap] W (RetInts2 W ned 0))
    (CU : ∀ W : World, Ints W W.heap.size A cl → Ints W W.heap.size D l → Calls Try.prog 45 #[.agg #[.int .i64 C, .int .i64 R, .int .i64 B, .int .i64 F, .slice A cl.length cap], .slice D l.length dap] W (RetInts2 W use 0))
    (C34 : ∀ (X : Option Addr) (xap : Nat) (W : World), Ints W W.heap.size A cl → Ints W W.heap.size X [(b % C)] → Calls Try.prog 34 #[.agg #[.int .i64 C, .int .i64 R, .int .i64 B, .int .i64 F, .slice A cl.length cap], .slice X 1 xap] W (RetHouse W C R B F cl2 0))
    (C2 : ∀ (X : Option Addr) (xap : Nat) (W : World), Ints W W.heap.size X cl2 → Ints W W.heap.size D l → Calls Try.prog 37 #[.agg #[.int .i64 C, .int .i64 R, .int .i64 B, .int .i64 F, .slice X cl2.length xap], .slice D l.length dap] W fun e w' => e = .returned (.tuple #[.int .i64 (M : Nat), .int .i64 e2]) ∧ Below W.heap.size W w')
    (C32 : ∀ (X : Option Addr) (xap : Nat) (W : World), Ints W W.heap.size A cl → Ints W W.heap.size D l → Ints W W.heap.size X [(b % C)] → Calls Try.prog 32 #[.agg #[.int .i64 C, .int .i64 R, .int .i64 B, .int .i64 F, .slice A cl.length cap], .slice D l.length dap, .slice X 1 xap] W (RetInts2 W rest 0))
    (C3 : ∀ (Y : Option Addr) (yap : Nat) (W : World), Ints W W.heap.size A cl → Ints W W.heap.size Y rest → Calls Try.prog 37 #[.agg #[.int .i64 C, .int .i64 R, .int .i64 B, .int .i64 F, .slice A cl.length cap], .slice Y rest.length yap] W fun e w' => e = .returned (.tuple #[.int .i64 (O : Nat), .int .i64 0]) ∧ Below W.heap.size W w')
    (hce : e2 = 0) (hc : N < M) (ho : O + 1 = N) (hN : N ≤ 1000) (hd1 : decide ((b % C) ∈ ned) = true) (hd2 : decide ((b % C) ∈ use) = true) (hd3 : decide ((b % C) ∈ cl) = false) :
    Calls Try.prog 9 #[.agg #[.int .i64 C, .int .i64 R, .int .i64 B, .int .i64 F, .slice A cl.length cap], .slice D l.length dap, .int .u8 b] w fun e w' => e = .returned (.bool true) ∧ Below w.heap.size w w' := by
  have hc63 : cl.length ≤ 9223372036854775807 := Nat.le_trans hcl (by decide)
  have bw0 := below_new w (.cells #[.int .i64 C, .int .i64 R, .int .i64 B, .int .i64 F, .slice A cl.length cap] 24)
  have kH0 := Blk.new w 24 #[.int .i64 C, .int .i64 R, .int .i64 B, .int .i64 F, .slice A cl.length cap]
  have iA0 := hr.behind bw0
  have iD0 := hl.behind bw0
  clear hr hl
  have q1 := hok.c3
  have q2 := hok.c120
  have z1 : (C == 0) = false := by simp; omega
  have hz2 : b.tmod C = b % C := Int.tmod_eq_emod_of_nonneg b0
  have hcl6 : cl.length ≤ 1000000 := by have := hok.len; omega
  subst hce
  have g1 : ¬ (M : Int) < (N : Int) := by omega
  have g2 : decide ((M : Int) < (N : Int)) = false := decide_eq_false g1
  have g3 : (N : Int) < (M : Int) := by omega
  have g4 : decide ((N : Int) < (M : Int)) = true := decide_eq_true g3
  have f1 : (0 : Int) < (N : Int) := by omega
  have f2 : decide ((0 : Int) < (N : Int)) = true := decide_eq_true f1
  have f3 : ((O : Int) == (N : Int) - 1) = true := by simp; omega
  have f5 : IntKind.i64.wrap ((N : Int) - 1) = (N : Int) - 1 := IntWalk.i64_in _ (by omega)
  have HS := Lib.hid hs
  have H1 := Lib.hid C1
  have HN := Lib.hid CN
  have HU := Lib.hid CU
  have H34 := Lib.hid C34
  have H2 := Lib.hid C2
  have H32 := Lib.hid C32
  have H3 := Lib.hid C3
  have DN := Lib.hid hd1
  have DU := Lib.hid hd2
  have DC := Lib.hid hd3
  clear hs C1 CN CU C34 C2 C32 C3 hd1 hd2 hd3 hok
  go_enter Try.func9, Try.ntmps9
  go_wp2_with (first
    | (go_at_call 55; refine (some_any C R B F A cap cl D dap l _ hB hc63 iA0).mono ?_; rw [HS.out]; rintro e w1 ⟨rfl, hb1⟩; have bw1 := below_next bw0 bw0.size hb1; clear bw0; have kH1 := kH0.below hb1 kH0.lt; clear kH0; have iA1 := iA0.behind hb1; clear iA0; have iD1 := iD0.behind hb1; clear iD0; obtain ⟨d0, d1, d2, d3, d4⟩ := kH1.five)
    | (go_at_call 37; refine (H1.out _ iA1 iD1).mono ?_; rintro e w2 ⟨rfl, hb2⟩; have bw2 := below_next bw1 bw1.size hb2; clear bw1; have kH2 := kH1.below hb2 kH1.lt; clear kH1; have iA2 := iA1.behind hb2; clear iA1; have iD2 := iD1.behind hb2; clear iD1; clear d0 d1 d2 d3 d4; obtain ⟨d0, d1, d2, d3, d4⟩ := kH2.five)
    | (go_at_call 43; refine (HN.out _ iA2 iD2).mono ?_; rintro e w3 ⟨NA, nap, rfl, nx1, nx2, iN3, hb3⟩; have bw3 := below_next bw2 bw2.size hb3; clear bw2; have kH3 := kH2.below hb3 kH2.lt; clear kH2; have iA3 := iA2.behind hb3; clear iA2; have iD3 := iD2.behind hb3; clear iD2; clear d0 d1 d2 d3 d4; obtain ⟨d0, d1, d2, d3, d4⟩ := kH3.five)
    | (go_at_call 45; refine (HU.out _ iA3 iD3).mono ?_; rintro e w4 ⟨UA, uap, rfl, ux1, ux2, iU4, hb4⟩; have bw4 := below_next bw3 bw3.size hb4; clear bw3; have kH4 := kH3.below hb4 kH3.lt; clear kH3; have iA4 := iA3.behind hb4; clear iA3; have iD4 := iD3.behind hb4; clear iD3; have iN4 := iN3.behind hb4; clear iN3; clear d0 d1 d2 d3 d4; obtain ⟨d0, d1, d2, d3, d4⟩ := kH4.five)
    | (go_at_call 34; have hn5 := below_new w4 (.cells #[.int .i64 (b % C)] 3); have bw5 := below_next bw4 bw4.size hn5; clear bw4; have kH5 := kH4.below hn5 kH4.lt; clear kH4; have iA5 := iA4.behind hn5; clear iA4; have iD5 := iD4.behind hn5; clear iD4; have iN5 := iN4.behind hn5; clear iN4; have iU5 := iU4.behind hn5; clear iU4; have iS5 := one_new w4 (b % C); refine (H34.out _ _ _ iA5 iS5).mono ?_; rintro e w6 ⟨X, xap, rfl, x1, x2, iX6, hb6⟩; have bw6 := below_next bw5 bw5.size hb6; clear bw5; have kH6 := kH5.below hb6 kH5.lt; clear kH5; have iA6 := iA5.behind hb6; clear iA5; have iD6 := iD5.behind hb6; clear iD5; have iN6 := iN5.behind hb6; clear iN5; have iU6 := iU5.behind hb6; clear iU5; have hn7 := below_new w6 (.cells #[.int .i64 C, .int .i64 R, .int .i64 B, .int .i64 F, .slice X cl2.length xap] 24); have bw7 := below_next bw6 bw6.size hn7; clear bw6; have kH7 := kH6.below hn7 kH6.lt; clear kH6; have iA7 := iA6.behind hn7; clear iA6; have iD7 := iD6.behind hn7; clear iD6; have iN7 := iN6.behind hn7; clear iN6; have iU7 := iU6.behind hn7; clear iU6; have iX7 := iX6.behind hn7; clear iX6; have kT7 := Blk.new w6 24 #[.int .i64 C, .int .i64 R, .int .i64 B, .int .i64 F, .slice X cl2.length xap]; clear iS5; clear d0 d1 d2 d3 d4; obtain ⟨d0, d1, d2, d3, d4⟩ := kH7.five; obtain ⟨e0, e1, e2', e3, e4⟩ := kT7.five)
    | (go_at_call 37; refine (H2.out X xap _ iX7 iD7).mono ?_; rintro e w8 ⟨rfl, hb8⟩; have bw8 := below_next bw7 bw7.size hb8; clear bw7; have kH8 := kH7.below hb8 kH7.lt; clear kH7; have iA8 := iA7.behind hb8; clear iA7; have iD8 := iD7.behind hb8; clear iD7; have iN8 := iN7.behind hb8; clear iN7; have iU8 := iU7.behind hb8; clear iU7; have iX8 := iX7.behind hb8; clear iX7; clear d0 d1 d2 d3 d4; obtain ⟨d0, d1, d2, d3, d4⟩ := kH8.five; clear e0 e1 e2' e3 e4)
    | (go_at_call 32; have hn9 := below_new w8 (.cells #[.int .i64 (b % C)] 3); have bw9 := below_next bw8 bw8.size hn9; clear bw8; have kH9 := kH8.below hn9 kH8.lt; clear kH8; have iA9 := iA8.behind hn9; clear iA8; have iD9 := iD8.behind hn9; clear iD8; have iN9 := iN8.behind hn9; clear iN8; have iU9 := iU8.behind hn9; clear iU8; have iX9 := iX8.behind hn9; clear iX8; have iS9 := one_new w8 (b % C); refine (H32.out _ _ _ iA9 iD9 iS9).mono ?_; rintro e w10 ⟨Y, yap, rfl, y1, y2, iY10, hb10⟩; have bw10 := below_next bw9 bw9.size hb10; clear bw9; have kH10 := kH9.below hb10 kH9.lt; clear kH9; have iA10 := iA9.behind hb10; clear iA9; have iD10 := iD9.behind hb10; clear iD9; have iN10 := iN9.behind hb10; clear iN9; have iU10 := iU9.behind hb10; clear iU9; have iX10 := iX9.behind hb10; clear iX9; clear d0 d1 d2 d3 d4; obtain ⟨d0, d1, d2, d3, d4⟩ := kH10.five)
    | (go_at_call 37; refine (H3.out Y yap _ iA10 iY10).mono ?_; rintro e w11 ⟨rfl, hb11⟩; have bw11 := below_next bw10 bw10.size hb11; clear bw10; have kH11 := kH10.below hb11 kH10.lt; clear kH10; have iA11 := iA10.behind hb11; clear iA10; have iD11 := iD10.behind hb11; clear iD10; have iN11 := iN10.behind hb11; clear iN10; have iU11 := iU10.behind hb11; clear iU10; have iX11 := iX10.behind hb11; clear iX10; have iY11 := iY10.behind hb11; clear iY10; clear d0 d1 d2 d3 d4; obtain ⟨d0, d1, d2, d3, d4⟩ := kH11.five)
    | (go_at_call 15; refine (sanity_any _).mono ?_; rintro e w12 ⟨rfl, hb12⟩; have bw12 := below_next bw11 bw11.size hb12; clear bw11; have kH12 := kH11.below hb12 kH11.lt; clear kH11; have iA12 := iA11.behind hb12; clear iA11; have iD12 := iD11.behind hb12; clear iD11; have iN12 := iN11.behind hb12; clear iN11; have iU12 := iU11.behind hb12; clear iU11; have iX12 := iX11.behind hb12; clear iX11; have iY12 := iY11.behind hb12; clear iY11)
    | (go_at_call 56; refine (has56_any _ _ _ _ _ (by first | exact hnl | exact hul | exact hcl6) (by first | exact iN8 | exact iU8 | exact iA8)).mono ?_; (first | rw [DN.out] | rw [DU.out] | rw [DC.out]); rintro e wh ⟨rfl, rfl⟩)
    | (go_at_call 56; refine (has56_any _ _ _ _ _ (by first | exact hnl | exact hul | exact hcl6) (by first | exact iN12 | exact iU12 | exact iA12)).mono ?_; (first | rw [DN.out] | rw [DU.out] | rw [DC.out]); rintro e wh ⟨rfl, rfl⟩)
    | fail)
  go_ret
  exact ⟨ret_bool rfl, bw12⟩

set_option maxRecDepth 100000 in
set_option maxHeartbeats 8000000 in
theorem standsLaw_c (C R B F : Int) (A : Option Addr) (cap : Nat) (cl : List Int) (D : Option Addr) (dap : Nat) (l : List Int) (b : Int) (w : World) (hB : B ≤ 9223372036854775807) (hcl : cl.length ≤ maxLen) (hll : l.length ≤ maxLen) (hr : Ints w w.heap.size A cl) (hl : Ints w w.heap.size D l) (b0 : 0 ≤ b) (b1 : b ≤ 255) (hs : someB C R B F cl l = true) (hok : Ok C R B F cl) (N M O : Nat) (e2 : Int) (ned use cl2 rest : List Int) (hnl : ned.length ≤ 1000000) (hul : use.length ≤ 1000000)
    (C1 : ∀ W : World, Ints W W.heap.size A cl → Ints W W.heap.size D l → Calls Try.prog 37 #[.agg #[.int .i64 C, .int .i64 R, .int .i64 B, .int .i64 F, .slice A cl.length cap], .slice D l.length dap] W fun e w' => e = .returned (.tuple #[.int .i64 (N : Nat), .int .i64 0]) ∧ Below W.heap.size W w')
    (CN : ∀ W : World, Ints W W.heap.size A cl → Ints W W.heap.size D l → Calls Try.prog 43 #[.agg #[.int .i64 C, .int .i64 R, .int .i64 B, .int .i64 F, .slice A cl.length cap], .slice D l.length dap] W (RetInts2 W ned 0))
    (CU : ∀ W : World, Ints W W.heap.size A cl → Ints W W.heap.size D l → Calls Try.prog 45 #[.agg #[.int .i64 C, .int .i64 R, .int .i64 B, .int .i64 F, .slice A cl.length cap], .slice D l.length dap] W (RetInts2 W use 0))
    (C34 : ∀ (X : Option Addr) (xap : Nat) (W : World), Ints W W.heap.size A cl → Ints W W.heap.size X [(b % C)] → Calls Try.prog 34 #[.agg #[.int .i64 C, .int .i64 R, .int .i64 B, .int .i64 F, .slice A cl.length cap], .slice X 1 xap] W (RetHouse W C R B F cl2 0))
    (C2 : ∀ (X : Option Addr) (xap : Nat) (W : World), Ints W W.heap.size X cl2 → Ints W W.heap.size D l → Calls Try.prog 37 #[.agg #[.int .i64 C, .int .i64 R, .int .i64 B, .int .i64 F, .slice X cl2.length xap], .slice D l.length dap] W fun e w' => e = .returned (.tuple #[.int .i64 (M : Nat), .int .i64 e2]) ∧ Below W.heap.size W w')
    (C32 : ∀ (X : Option Addr) (xap : Nat) (W : World), Ints W W.heap.size A cl → Ints W W.heap.size D l → Ints W W.heap.size X [(b % C)] → Calls Try.prog 32 #[.agg #[.int .i64 C, .int .i64 R, .int .i64 B, .int .i64 F, .slice A cl.length cap], .slice D l.length dap, .slice X 1 xap] W (RetInts2 W rest 0))
    (C3 : ∀ (Y : Option Addr) (yap : Nat) (W : World), Ints W W.heap.size A cl → Ints W W.heap.size Y rest → Calls Try.prog 37 #[.agg #[.int .i64 C, .int .i64 R, .int .i64 B, .int .i64 F, .slice A cl.length cap], .slice Y rest.length yap] W fun e w' => e = .returned (.tuple #[.int .i64 (O : Nat), .int .i64 0]) ∧ Below W.heap.size W w')
    (hce : e2 = 0) (hc : N = M) (ho : O + 1 = N) (hN : N ≤ 1000) (hd1 : decide ((b % C) ∈ ned) = false) (hd2 : decide ((b % C) ∈ use) = true) (hd3 : decide ((b % C) ∈ cl) = false) :
    Calls Try.prog 9 #[.agg #[.int .i64 C, .int .i64 R, .int .i64 B, .int .i64 F, .slice A cl.length cap], .slice D l.length dap, .int .u8 b] w fun e w' => e = .returned (.bool true) ∧ Below w.heap.size w w' := by
  have hc63 : cl.length ≤ 9223372036854775807 := Nat.le_trans hcl (by decide)
  have bw0 := below_new w (.cells #[.int .i64 C, .int .i64 R, .int .i64 B, .int .i64 F, .slice A cl.length cap] 24)
  have kH0 := Blk.new w 24 #[.int .i64 C, .int .i64 R, .int .i64 B, .int .i64 F, .slice A cl.length cap]
  have iA0 := hr.behind bw0
  have iD0 := hl.behind bw0
  clear hr hl
  have q1 := hok.c3
  have q2 := hok.c120
  have z1 : (C == 0) = false := by simp; omega
  have hz2 : b.tmod C = b % C := Int.tmod_eq_emod_of_nonneg b0
  have hcl6 : cl.length ≤ 1000000 := by have := hok.len; omega
  subst hce
  subst hc
  have g1 : ¬ (N : Int) < (N : Int) := by omega
  have g2 : decide ((N : Int) < (N : Int)) = false := decide_eq_false g1
  have f1 : (0 : Int) < (N : Int) := by omega
  have f2 : decide ((0 : Int) < (N : Int)) = true := decide_eq_true f1
  have f3 : ((O : Int) == (N : Int) - 1) = true := by simp; omega
  have f5 : IntKind.i64.wrap ((N : Int) - 1) = (N : Int) - 1 := IntWalk.i64_in _ (by omega)
  have HS := Lib.hid hs
  have H1 := Lib.hid C1
  have HN := Lib.hid CN
  have HU := Lib.hid CU
  have H34 := Lib.hid C34
  have H2 := Lib.hid C2
  have H32 := Lib.hid C32
  have H3 := Lib.hid C3
  have DN := Lib.hid hd1
  have DU := Lib.hid hd2
  have DC := Lib.hid hd3
  clear hs C1 CN CU C34 C2 C32 C3 hd1 hd2 hd3 hok
  go_enter Try.func9, Try.ntmps9
  go_wp2_with (first
    | (go_at_call 55; refine (some_any C R B F A cap cl D dap l _ hB hc63 iA0).mono ?_; rw [HS.out]; rintro e w1 ⟨rfl, hb1⟩; have bw1 := below_next bw0 bw0.size hb1; clear bw0; have kH1 := kH0.below hb1 kH0.lt; clear kH0; have iA1 := iA0.behind hb1; clear iA0; have iD1 := iD0.behind hb1; clear iD0; obtain ⟨d0, d1, d2, d3, d4⟩ := kH1.five)
    | (go_at_call 37; refine (H1.out _ iA1 iD1).mono ?_; rintro e w2 ⟨rfl, hb2⟩; have bw2 := below_next bw1 bw1.size hb2; clear bw1; have kH2 := kH1.below hb2 kH1.lt; clear kH1; have iA2 := iA1.behind hb2; clear iA1; have iD2 := iD1.behind hb2; clear iD1; clear d0 d1 d2 d3 d4; obtain ⟨d0, d1, d2, d3, d4⟩ := kH2.five)
    | (go_at_call 43; refine (HN.out _ iA2 iD2).mono ?_; rintro e w3 ⟨NA, nap, rfl, nx1, nx2, iN3, hb3⟩; have bw3 := below_next bw2 bw2.size hb3; clear bw2; have kH3 := kH2.below hb3 kH2.lt; clear kH2; have iA3 := iA2.behind hb3; clear iA2; have iD3 := iD2.behind hb3; clear iD2; clear d0 d1 d2 d3 d4; obtain ⟨d0, d1, d2, d3, d4⟩ := kH3.five)
    | (go_at_call 45; refine (HU.out _ iA3 iD3).mono ?_; rintro e w4 ⟨UA, uap, rfl, ux1, ux2, iU4, hb4⟩; have bw4 := below_next bw3 bw3.size hb4; clear bw3; have kH4 := kH3.below hb4 kH3.lt; clear kH3; have iA4 := iA3.behind hb4; clear iA3; have iD4 := iD3.behind hb4; clear iD3; have iN4 := iN3.behind hb4; clear iN3; clear d0 d1 d2 d3 d4; obtain ⟨d0, d1, d2, d3, d4⟩ := kH4.five)
    | (go_at_call 34; have hn5 := below_new w4 (.cells #[.int .i64 (b % C)] 3); have bw5 := below_next bw4 bw4.size hn5; clear bw4; have kH5 := kH4.below hn5 kH4.lt; clear kH4; have iA5 := iA4.behind hn5; clear iA4; have iD5 := iD4.behind hn5; clear iD4; have iN5 := iN4.behind hn5; clear iN4; have iU5 := iU4.behind hn5; clear iU4; have iS5 := one_new w4 (b % C); refine (H34.out _ _ _ iA5 iS5).mono ?_; rintro e w6 ⟨X, xap, rfl, x1, x2, iX6, hb6⟩; have bw6 := below_next bw5 bw5.size hb6; clear bw5; have kH6 := kH5.below hb6 kH5.lt; clear kH5; have iA6 := iA5.behind hb6; clear iA5; have iD6 := iD5.behind hb6; clear iD5; have iN6 := iN5.behind hb6; clear iN5; have iU6 := iU5.behind hb6; clear iU5; have hn7 := below_new w6 (.cells #[.int .i64 C, .int .i64 R, .int .i64 B, .int .i64 F, .slice X cl2.length xap] 24); have bw7 := below_next bw6 bw6.size hn7; clear bw6; have kH7 := kH6.below hn7 kH6.lt; clear kH6; have iA7 := iA6.behind hn7; clear iA6; have iD7 := iD6.behind hn7; clear iD6; have iN7 := iN6.behind hn7; clear iN6; have iU7 := iU6.behind hn7; clear iU6; have iX7 := iX6.behind hn7; clear iX6; have kT7 := Blk.new w6 24 #[.int .i64 C, .int .i64 R, .int .i64 B, .int .i64 F, .slice X cl2.length xap]; clear iS5; clear d0 d1 d2 d3 d4; obtain ⟨d0, d1, d2, d3, d4⟩ := kH7.five; obtain ⟨e0, e1, e2', e3, e4⟩ := kT7.five)
    | (go_at_call 37; refine (H2.out X xap _ iX7 iD7).mono ?_; rintro e w8 ⟨rfl, hb8⟩; have bw8 := below_next bw7 bw7.size hb8; clear bw7; have kH8 := kH7.below hb8 kH7.lt; clear kH7; have iA8 := iA7.behind hb8; clear iA7; have iD8 := iD7.behind hb8; clear iD7; have iN8 := iN7.behind hb8; clear iN7; have iU8 := iU7.behind hb8; clear iU7; have iX8 := iX7.behind hb8; clear iX7; clear d0 d1 d2 d3 d4; obtain ⟨d0, d1, d2, d3, d4⟩ := kH8.five; clear e0 e1 e2' e3 e4)
    | (go_at_call 32; have hn9 := below_new w8 (.cells #[.int .i64 (b % C)] 3); have bw9 := below_next bw8 bw8.size hn9; clear bw8; have kH9 := kH8.below hn9 kH8.lt; clear kH8; have iA9 := iA8.behind hn9; clear iA8; have iD9 := iD8.behind hn9; clear iD8; have iN9 := iN8.behind hn9; clear iN8; have iU9 := iU8.behind hn9; clear iU8; have iX9 := iX8.behind hn9; clear iX8; have iS9 := one_new w8 (b % C); refine (H32.out _ _ _ iA9 iD9 iS9).mono ?_; rintro e w10 ⟨Y, yap, rfl, y1, y2, iY10, hb10⟩; have bw10 := below_next bw9 bw9.size hb10; clear bw9; have kH10 := kH9.below hb10 kH9.lt; clear kH9; have iA10 := iA9.behind hb10; clear iA9; have iD10 := iD9.behind hb10; clear iD9; have iN10 := iN9.behind hb10; clear iN9; have iU10 := iU9.behind hb10; clear iU9; have iX10 := iX9.behind hb10; clear iX9; clear d0 d1 d2 d3 d4; obtain ⟨d0, d1, d2, d3, d4⟩ := kH10.five)
    | (go_at_call 37; refine (H3.out Y yap _ iA10 iY10).mono ?_; rintro e w11 ⟨rfl, hb11⟩; have bw11 := below_next bw10 bw10.size hb11; clear bw10; have kH11 := kH10.below hb11 kH10.lt; clear kH10; have iA11 := iA10.behind hb11; clear iA10; have iD11 := iD10.behind hb11; clear iD10; have iN11 := iN10.behind hb11; clear iN10; have iU11 := iU10.behind hb11; clear iU10; have iX11 := iX10.behind hb11; clear iX10; have iY11 := iY10.behind hb11; clear iY10; clear d0 d1 d2 d3 d4; obtain ⟨d0, d1, d2, d3, d4⟩ := kH11.five)
    | (go_at_call 15; refine (sanity_any _).mono ?_; rintro e w12 ⟨rfl, hb12⟩; have bw12 := below_next bw11 bw11.size hb12; clear bw11; have kH12 := kH11.below hb12 kH11.lt; clear kH11; have iA12 := iA11.behind hb12; clear iA11; have iD12 := iD11.behind hb12; clear iD11; have iN12 := iN11.behind hb12; clear iN11; have iU12 := iU11.behind hb12; clear iU11; have iX12 := iX11.behind hb12; clear iX11; have iY12 := iY11.behind hb12; clear iY11)
    | (go_at_call 56; refine (has56_any _ _ _ _ _ (by first | exact hnl | exact hul | exact hcl6) (by first | exact iN8 | exact iU8 | exact iA8)).mono ?_; (first | rw [DN.out] | rw [DU.out] | rw [DC.out]); rintro e wh ⟨rfl, rfl⟩)
    | (go_at_call 56; refine (has56_any _ _ _ _ _ (by first | exact hnl | exact hul | exact hcl6) (by first | exact iN12 | exact iU12 | exact iA12)).mono ?_; (first | rw [DN.out] | rw [DU.out] | rw [DC.out]); rintro e wh ⟨rfl, rfl⟩)
    | fail)
  go_ret
  exact ⟨ret_bool rfl, bw12⟩

set_option maxRecDepth 100000 in
set_option maxHeartbeats 8000000 in
theorem standsLaw_d (C R B F : Int) (A : Option Addr) (cap : Nat) (cl : List Int) (D : Option Addr) (dap : Nat) (l : List Int) (b : Int) (w : World) (hB : B ≤ 9223372036854775807) (hcl : cl.length ≤ maxLen) (hll : l.length ≤ maxLen) (hr : Ints w w.heap.size A cl) (hl : Ints w w.heap.size D l) (b0 : 0 ≤ b) (b1 : b ≤ 255) (hs : someB C R B F cl l = true) (hok : Ok C R B F cl) (N M O : Nat) (e2 : Int) (ned use cl2 rest : List Int) (hnl : ned.length ≤ 1000000) (hul : use.length ≤ 1000000)
    (C1 : ∀ W : World, Ints W W.heap.size A cl → Ints W W.heap.size D l → Calls Try.prog 37 #[.agg #[.int .i64 C, .int .i64 R, .int .i64 B, .int .i64 F, .slice A cl.length cap], .slice D l.length dap] W fun e w' => e = .returned (.tuple #[.int .i64 (N : Nat), .int .i64 0]) ∧ Below W.heap.size W w')
    (CN : ∀ W : World, Ints W W.heap.size A cl → Ints W W.heap.size D l → Calls Try.prog 43 #[.agg #[.int .i64 C, .int .i64 R, .int .i64 B, .int .i64 F, .slice A cl.length cap], .slice D l.length dap] W (RetInts2 W ned 0))
    (CU : ∀ W : World, Ints W W.heap.size A cl → Ints W W.heap.size D l → Calls Try.prog 45 #[.agg #[.int .i64 C, .int .i64 R, .int .i64 B, .int .i64 F, .slice A cl.length cap], .slice D l.length dap] W (RetInts2 W use 0))
    (C34 : ∀ (X : Option Addr) (xap : Nat) (W : World), Ints W W.heap.size A cl → Ints W W.heap.size X [(b % C)] → Calls Try.prog 34 #[.agg #[.int .i64 C, .int .i64 R, .int .i64 B, .int .i64 F, .slice A cl.length cap], .slice X 1 xap] W (RetHouse W C R B F cl2 0))
    (C2 : ∀ (X : Option Addr) (xap : Nat) (W : World), Ints W W.heap.size X cl2 → Ints W W.heap.size D l → Calls Try.prog 37 #[.agg #[.int .i64 C, .int .i64 R, .int .i64 B, .int .i64 F, .slice X cl2.length xap], .slice D l.length dap] W fun e w' => e = .returned (.tuple #[.int .i64 (M : Nat), .int .i64 e2]) ∧ Below W.heap.size W w')
    (hce : e2 = 0) (hc : N = M) (hd1 : decide ((b % C) ∈ ned) = false) (hd2 : decide ((b % C) ∈ use) = false) (hd3 : decide ((b % C) ∈ cl) = true) :
    Calls Try.prog 9 #[.agg #[.int .i64 C, .int .i64 R, .int .i64 B, .int .i64 F, .slice A cl.length cap], .slice D l.length dap, .int .u8 b] w fun e w' => e = .returned (.bool true) ∧ Below w.heap.size w w' := by
  have hc63 : cl.length ≤ 9223372036854775807 := Nat.le_trans hcl (by decide)
  have bw0 := below_new w (.cells #[.int .i64 C, .int .i64 R, .int .i64 B, .int .i64 F, .slice A cl.length cap] 24)
  have kH0 := Blk.new w 24 #[.int .i64 C, .int .i64 R, .int .i64 B, .int .i64 F, .slice A cl.length cap]
  have iA0 := hr.behind bw0
  have iD0 := hl.behind bw0
  clear hr hl
  have q1 := hok.c3
  have q2 := hok.c120
  have z1 : (C == 0) = false := by simp; omega
  have hz2 : b.tmod C = b % C := Int.tmod_eq_emod_of_nonneg b0
  have hcl6 : cl.length ≤ 1000000 := by have := hok.len; omega
  subst hce
  subst hc
  have g1 : ¬ (N : Int) < (N : Int) := by omega
  have g2 : decide ((N : Int) < (N : Int)) = false := decide_eq_false g1
  have HS := Lib.hid hs
  have H1 := Lib.hid C1
  have HN := Lib.hid CN
  have HU := Lib.hid CU
  have H34 := Lib.hid C34
  have H2 := Lib.hid C2
  have DN := Lib.hid hd1
  have DU := Lib.hid hd2
  have DC := Lib.hid hd3
  clear hs C1 CN CU C34 C2 hd1 hd2 hd3 hok
  go_enter Try.func9, Try.ntmps9
  go_wp2_with (first
    | (go_at_call 55; refine (some_any C R B F A cap cl D dap l _ hB hc63 iA0).mono ?_; rw [HS.out]; rintro e w1 ⟨rfl, hb1⟩; have bw1 := below_next bw0 bw0.size hb1; clear bw0; have kH1 := kH0.below hb1 kH0.lt; clear kH0; have iA1 := iA0.behind hb1; clear iA0; have iD1 := iD0.behind hb1; clear iD0; obtain ⟨d0, d1, d2, d3, d4⟩ := kH1.five)
    | (go_at_call 37; refine (H1.out _ iA1 iD1).mono ?_; rintro e w2 ⟨rfl, hb2⟩; have bw2 := below_next bw1 bw1.size hb2; clear bw1; have kH2 := kH1.below hb2 kH1.lt; clear kH1; have iA2 := iA1.behind hb2; clear iA1; have iD2 := iD1.behind hb2; clear iD1; clear d0 d1 d2 d3 d4; obtain ⟨d0, d1, d2, d3, d4⟩ := kH2.five)
    | (go_at_call 43; refine (HN.out _ iA2 iD2).mono ?_; rintro e w3 ⟨NA, nap, rfl, nx1, nx2, iN3, hb3⟩; have bw3 := below_next bw2 bw2.size hb3; clear bw2; have kH3 := kH2.below hb3 kH2.lt; clear kH2; have iA3 := iA2.behind hb3; clear iA2; have iD3 := iD2.behind hb3; clear iD2; clear d0 d1 d2 d3 d4; obtain ⟨d0, d1, d2, d3, d4⟩ := kH3.five)
    | (go_at_call 45; refine (HU.out _ iA3 iD3).mono ?_; rintro e w4 ⟨UA, uap, rfl, ux1, ux2, iU4, hb4⟩; have bw4 := below_next bw3 bw3.size hb4; clear bw3; have kH4 := kH3.below hb4 kH3.lt; clear kH3; have iA4 := iA3.behind hb4; clear iA3; have iD4 := iD3.behind hb4; clear iD3; have iN4 := iN3.behind hb4; clear iN3; clear d0 d1 d2 d3 d4; obtain ⟨d0, d1, d2, d3, d4⟩ := kH4.five)
    | (go_at_call 34; have hn5 := below_new w4 (.cells #[.int .i64 (b % C)] 3); have bw5 := below_next bw4 bw4.size hn5; clear bw4; have kH5 := kH4.below hn5 kH4.lt; clear kH4; have iA5 := iA4.behind hn5; clear iA4; have iD5 := iD4.behind hn5; clear iD4; have iN5 := iN4.behind hn5; clear iN4; have iU5 := iU4.behind hn5; clear iU4; have iS5 := one_new w4 (b % C); refine (H34.out _ _ _ iA5 iS5).mono ?_; rintro e w6 ⟨X, xap, rfl, x1, x2, iX6, hb6⟩; have bw6 := below_next bw5 bw5.size hb6; clear bw5; have kH6 := kH5.below hb6 kH5.lt; clear kH5; have iA6 := iA5.behind hb6; clear iA5; have iD6 := iD5.behind hb6; clear iD5; have iN6 := iN5.behind hb6; clear iN5; have iU6 := iU5.behind hb6; clear iU5; have hn7 := below_new w6 (.cells #[.int .i64 C, .int .i64 R, .int .i64 B, .int .i64 F, .slice X cl2.length xap] 24); have bw7 := below_next bw6 bw6.size hn7; clear bw6; have kH7 := kH6.below hn7 kH6.lt; clear kH6; have iA7 := iA6.behind hn7; clear iA6; have iD7 := iD6.behind hn7; clear iD6; have iN7 := iN6.behind hn7; clear iN6; have iU7 := iU6.behind hn7; clear iU6; have iX7 := iX6.behind hn7; clear iX6; have kT7 := Blk.new w6 24 #[.int .i64 C, .int .i64 R, .int .i64 B, .int .i64 F, .slice X cl2.length xap]; clear iS5; clear d0 d1 d2 d3 d4; obtain ⟨d0, d1, d2, d3, d4⟩ := kH7.five; obtain ⟨e0, e1, e2', e3, e4⟩ := kT7.five)
    | (go_at_call 37; refine (H2.out X xap _ iX7 iD7).mono ?_; rintro e w8 ⟨rfl, hb8⟩; have bw8 := below_next bw7 bw7.size hb8; clear bw7; have kH8 := kH7.below hb8 kH7.lt; clear kH7; have iA8 := iA7.behind hb8; clear iA7; have iD8 := iD7.behind hb8; clear iD7; have iN8 := iN7.behind hb8; clear iN7; have iU8 := iU7.behind hb8; clear iU7; have iX8 := iX7.behind hb8; clear iX7; clear d0 d1 d2 d3 d4; obtain ⟨d0, d1, d2, d3, d4⟩ := kH8.five; clear e0 e1 e2' e3 e4)
    | (go_at_call 15; refine (sanity_any _).mono ?_; rintro e w9 ⟨rfl, hb9⟩; have bw9 := below_next bw8 bw8.size hb9; clear bw8; have kH9 := kH8.below hb9 kH8.lt; clear kH8; have iA9 := iA8.behind hb9; clear iA8; have iD9 := iD8.behind hb9; clear iD8; have iN9 := iN8.behind hb9; clear iN8; have iU9 := iU8.behind hb9; clear iU8; have iX9 := iX8.behind hb9; clear iX8)
    | (go_at_call 56; refine (has56_any _ _ _ _ _ (by first | exact hnl | exact hul | exact hcl6) (by first | exact iN8 | exact iU8 | exact iA8)).mono ?_; (first | rw [DN.out] | rw [DU.out] | rw [DC.out]); rintro e wh ⟨rfl, rfl⟩)
    | (go_at_call 56; refine (has56_any _ _ _ _ _ (by first | exact hnl | exact hul | exact hcl6) (by first | exact iN9 | exact iU9 | exact iA9)).mono ?_; (first | rw [DN.out] | rw [DU.out] | rw [DC.out]); rintro e wh ⟨rfl, rfl⟩)
    | fail)
  go_ret
  exact ⟨ret_bool rfl, bw9⟩

set_option maxRecDepth 100000 in
set_option maxHeartbeats 8000000 in
theorem standsLaw_e (C R B F : Int) (A : Option Addr) (cap : Nat) (cl : List Int) (D : Option Addr) (dap : Nat) (l : List Int) (b : Int) (w : World) (hB : B ≤ 9223372036854775807) (hcl : cl.length ≤ maxLen) (hll : l.length ≤ maxLen) (hr : Ints w w.heap.size A cl) (hl : Ints w w.heap.size D l) (b0 : 0 ≤ b) (b1 : b ≤ 255) (hs : someB C R B F cl l = true) (hok : Ok C R B F cl) (N M O : Nat) (e2 : Int) (ned use cl2 rest : List Int) (hnl : ned.length ≤ 1000000) (hul : use.length ≤ 1000000)
    (C1 : ∀ W : World, Ints W W.heap.size A cl → Ints W W.heap.size D l → Calls Try.prog 37 #[.agg #[.int .i64 C, .int .i64 R, .int .i64 B, .int .i64 F, .slice A cl.length cap], .slice D l.length dap] W fun e w' => e = .returned (.tuple #[.int .i64 (N : Nat), .int .i64 0]) ∧ Below W.heap.size W w')
    (CN : ∀ W : World, Ints W W.heap.size A cl → Ints W W.heap.size D l → Calls Try.prog 43 #[.agg #[.int .i64 C, .int .i64 R, .int .i64 B, .int .i64 F, .slice A cl.length cap], .slice D l.length dap] W (RetInts2 W ned 0))
    (CU : ∀ W : World, Ints W W.heap.size A cl → Ints W W.heap.size D l → Calls Try.prog 45 #[.agg #[.int .i64 C, .int .i64 R, .int .i64 B, .int .i64 F, .slice A cl.length cap], .slice D l.length dap] W (RetInts2 W use 0))
    (C34 : ∀ (X : Option Addr) (xap : Nat) (W : World), Ints W W.heap.size A cl → Ints W W.heap.size X [(b % C)] → Calls Try.prog 34 #[.agg #[.int .i64 C, .int .i64 R, .int .i64 B, .int .i64 F, .slice A cl.length cap], .slice X 1 xap] W (RetHouse W C R B F cl2 0))
    (C2 : ∀ (X : Option Addr) (xap : Nat) (W : World), Ints W W.heap.size X cl2 → Ints W W.heap.size D l → Calls Try.prog 37 #[.agg #[.int .i64 C, .int .i64 R, .int .i64 B, .int .i64 F, .slice X cl2.length xap], .slice D l.length dap] W fun e w' => e = .returned (.tuple #[.int .i64 (M : Nat), .int .i64 e2]) ∧ Below W.heap.size W w')
    (C32 : ∀ (X : Option Addr) (xap : Nat) (W : World), Ints W W.heap.size A cl → Ints W W.heap.size D l → Ints W W.heap.size X [(b % C)] → Calls Try.prog 32 #[.agg #[.int .i64 C, .int .i64 R, .int .i64 B, .int .i64 F, .slice A cl.length cap], .slice D l.length dap, .slice X 1 xap] W (RetInts2 W rest 0))
    (C3 : ∀ (Y : Option Addr) (yap : Nat) (W : World), Ints W W.heap.size A cl → Ints W W.heap.size Y rest → Calls Try.prog 37 #[.agg #[.int .i64 C, .int .i64 R, .int .i64 B, .int .i64 F, .slice A cl.length cap], .slice Y rest.length yap] W fun e w' => e = .returned (.tuple #[.int .i64 (O : Nat), .int .i64 0]) ∧ Below W.heap.size W w')
    (hce : e2 = 0) (hc : N = M) (h0 : 0 < N) (ho : O + 1 ≠ N) (hN : N ≤ 1000) (hd1 : decide ((b % C) ∈ ned) = false) (hd2 : decide ((b % C) ∈ use) = false) (hd3 : decide ((b % C) ∈ cl) = false) :
    Calls Try.prog 9 #[.agg #[.int .i64 C, .int .i64 R, .int .i64 B, .int .i64 F, .slice A cl.length cap], .slice D l.length dap, .int .u8 b] w fun e w' => e = .returned (.bool true) ∧ Below w.heap.size w w' := by
  have hc63 : cl.length ≤ 9223372036854775807 := Nat.le_trans hcl (by decide)
  have bw0 := below_new w (.cells #[.int .i64 C, .int .i64 R, .int .i64 B, .int .i64 F, .slice A cl.length cap] 24)
  have kH0 := Blk.new w 24 #[.int .i64 C, .int .i64 R, .int .i64 B, .int .i64 F, .slice A cl.length cap]
  have iA0 := hr.behind bw0
  have iD0 := hl.behind bw0
  clear hr hl
  have q1 := hok.c3
  have q2 := hok.c120
  have z1 : (C == 0) = false := by simp; omega
  have hz2 : b.tmod C = b % C := Int.tmod_eq_emod_of_nonneg b0
  have hcl6 : cl.length ≤ 1000000 := by have := hok.len; omega
  subst hce
  subst hc
  have g1 : ¬ (N : Int) < (N : Int) := by omega
  have g2 : decide ((N : Int) < (N : Int)) = false := decide_eq_false g1
  have f1 : (0 : Int) < (N : Int) := by omega
  have f2 : decide ((0 : Int) < (N : Int)) = true := decide_eq_true f1
  have f3 : ((O : Int) == (N : Int) - 1) = false := by simp; omega
  have f5 : IntKind.i64.wrap ((N : Int) - 1) = (N : Int) - 1 := IntWalk.i64_in _ (by omega)
  have HS := Lib.hid hs
  have H1 := Lib.hid C1
  have HN := Lib.hid CN
  have HU := Lib.hid CU
  have H34 := Lib.hid C34
  have H2 := Lib.hid C2
  have H32 := Lib.hid C32
  have H3 := Lib.hid C3
  have DN := Lib.hid hd1
  have DU := Lib.hid hd2
  have DC := Lib.hid hd3
  clear hs C1 CN CU C34 C2 C32 C3 hd1 hd2 hd3 hok
  go_enter Try.func9, Try.ntmps9
  go_wp2_with (first
    | (go_at_call 55; refine (some_any C R B F A cap cl D dap l _ hB hc63 iA0).mono ?_; rw [HS.out]; rintro e w1 ⟨rfl, hb1⟩; have bw1 := below_next bw0 bw0.size hb1; clear bw0; have kH1 := kH0.below hb1 kH0.lt; clear kH0; have iA1 := iA0.behind hb1; clear iA0; have iD1 := iD0.behind hb1; clear iD0; obtain ⟨d0, d1, d2, d3, d4⟩ := kH1.five)
    | (go_at_call 37; refine (H1.out _ iA1 iD1).mono ?_; rintro e w2 ⟨rfl, hb2⟩; have bw2 := below_next bw1 bw1.size hb2; clear bw1; have kH2 := kH1.below hb2 kH1.lt; clear kH1; have iA2 := iA1.behind hb2; clear iA1; have iD2 := iD1.behind hb2; clear iD1; clear d0 d1 d2 d3 d4; obtain ⟨d0, d1, d2, d3, d4⟩ := kH2.five)
    | (go_at_call 43; refine (HN.out _ iA2 iD2).mono ?_; rintro e w3 ⟨NA, nap, rfl, nx1, nx2, iN3, hb3⟩; have bw3 := below_next bw2 bw2.size hb3; clear bw2; have kH3 := kH2.below hb3 kH2.lt; clear kH2; have iA3 := iA2.behind hb3; clear iA2; have iD3 := iD2.behind hb3; clear iD2; clear d0 d1 d2 d3 d4; obtain ⟨d0, d1, d2, d3, d4⟩ := kH3.five)
    | (go_at_call 45; refine (HU.out _ iA3 iD3).mono ?_; rintro e w4 ⟨UA, uap, rfl, ux1, ux2, iU4, hb4⟩; have bw4 := below_next bw3 bw3.size hb4; clear bw3; have kH4 := kH3.below hb4 kH3.lt; clear kH3; have iA4 := iA3.behind hb4; clear iA3; have iD4 := iD3.behind hb4; clear iD3; have iN4 := iN3.behind hb4; clear iN3; clear d0 d1 d2 d3 d4; obtain ⟨d0, d1, d2, d3, d4⟩ := kH4.five)
    | (go_at_call 34; have hn5 := below_new w4 (.cells #[.int .i64 (b % C)] 3); have bw5 := below_next bw4 bw4.size hn5; clear bw4; have kH5 := kH4.below hn5 kH4.lt; clear kH4; have iA5 := iA4.behind hn5; clear iA4; have iD5 := iD4.behind hn5; clear iD4; have iN5 := iN4.behind hn5; clear iN4; have iU5 := iU4.behind hn5; clear iU4; have iS5 := one_new w4 (b % C); refine (H34.out _ _ _ iA5 iS5).mono ?_; rintro e w6 ⟨X, xap, rfl, x1, x2, iX6, hb6⟩; have bw6 := below_next bw5 bw5.size hb6; clear bw5; have kH6 := kH5.below hb6 kH5.lt; clear kH5; have iA6 := iA5.behind hb6; clear iA5; have iD6 := iD5.behind hb6; clear iD5; have iN6 := iN5.behind hb6; clear iN5; have iU6 := iU5.behind hb6; clear iU5; have hn7 := below_new w6 (.cells #[.int .i64 C, .int .i64 R, .int .i64 B, .int .i64 F, .slice X cl2.length xap] 24); have bw7 := below_next bw6 bw6.size hn7; clear bw6; have kH7 := kH6.below hn7 kH6.lt; clear kH6; have iA7 := iA6.behind hn7; clear iA6; have iD7 := iD6.behind hn7; clear iD6; have iN7 := iN6.behind hn7; clear iN6; have iU7 := iU6.behind hn7; clear iU6; have iX7 := iX6.behind hn7; clear iX6; have kT7 := Blk.new w6 24 #[.int .i64 C, .int .i64 R, .int .i64 B, .int .i64 F, .slice X cl2.length xap]; clear iS5; clear d0 d1 d2 d3 d4; obtain ⟨d0, d1, d2, d3, d4⟩ := kH7.five; obtain ⟨e0, e1, e2', e3, e4⟩ := kT7.five)
    | (go_at_call 37; refine (H2.out X xap _ iX7 iD7).mono ?_; rintro e w8 ⟨rfl, hb8⟩; have bw8 := below_next bw7 bw7.size hb8; clear bw7; have kH8 := kH7.below hb8 kH7.lt; clear kH7; have iA8 := iA7.behind hb8; clear iA7; have iD8 := iD7.behind hb8; clear iD7; have iN8 := iN7.behind hb8; clear iN7; have iU8 := iU7.behind hb8; clear iU7; have iX8 := iX7.behind hb8; clear iX7; clear d0 d1 d2 d3 d4; obtain ⟨d0, d1, d2, d3, d4⟩ := kH8.five; clear e0 e1 e2' e3 e4)
    | (go_at_call 32; have hn9 := below_new w8 (.cells #[.int .i64 (b % C)] 3); have bw9 := below_next bw8 bw8.size hn9; clear bw8; have kH9 := kH8.below hn9 kH8.lt; clear kH8; have iA9 := iA8.behind hn9; clear iA8; have iD9 := iD8.behind hn9; clear iD8; have iN9 := iN8.behind hn9; clear iN8; have iU9 := iU8.behind hn9; clear iU8; have iX9 := iX8.behind hn9; clear iX8; have iS9 := one_new w8 (b % C); refine (H32.out _ _ _ iA9 iD9 iS9).mono ?_; rintro e w10 ⟨Y, yap, rfl, y1, y2, iY10, hb10⟩; have bw10 := below_next bw9 bw9.size hb10; clear bw9; have kH10 := kH9.below hb10 kH9.lt; clear kH9; have iA10 := iA9.behind hb10; clear iA9; have iD10 := iD9.behind hb10; clear iD9; have iN10 := iN9.behind hb10; clear iN9; have iU10 := iU9.behind hb10; clear iU9; have iX10 := iX9.behind hb10; clear iX9; clear d0 d1 d2 d3 d4; obtain ⟨d0, d1, d2, d3, d4⟩ := kH10.five)
    | (go_at_call 37; refine (H3.out Y yap _ iA10 iY10).mono ?_; rintro e w11 ⟨rfl, hb11⟩; have bw11 := below_next bw10 bw10.size hb11; clear bw10; have kH11 := kH10.below hb11 kH10.lt; clear kH10; have iA11 := iA10.behind hb11; clear iA10; have iD11 := iD10.behind hb11; clear iD10; have iN11 := iN10.behind hb11; clear iN10; have iU11 := iU10.behind hb11; clear iU10; have iX11 := iX10.behind hb11; clear iX10; have iY11 := iY10.behind hb11; clear iY10; clear d0 d1 d2 d3 d4; obtain ⟨d0, d1, d2, d3, d4⟩ := kH11.five)
    | (go_at_call 15; refine (sanity_any _).mono ?_; rintro e w12 ⟨rfl, hb12⟩; have bw12 := below_next bw11 bw11.size hb12; clear bw11; have kH12 := kH11.below hb12 kH11.lt; clear kH11; have iA12 := iA11.behind hb12; clear iA11; have iD12 := iD11.behind hb12; clear iD11; have iN12 := iN11.behind hb12; clear iN11; have iU12 := iU11.behind hb12; clear iU11; have iX12 := iX11.behind hb12; clear iX11; have iY12 := iY11.behind hb12; clear iY11)
    | (go_at_call 56; refine (has56_any _ _ _ _ _ (by first | exact hnl | exact hul | exact hcl6) (by first | exact iN8 | exact iU8 | exact iA8)).mono ?_; (first | rw [DN.out] | rw [DU.out] | rw [DC.out]); rintro e wh ⟨rfl, rfl⟩)
    | (go_at_call 56; refine (has56_any _ _ _ _ _ (by first | exact hnl | exact hul | exact hcl6) (by first | exact iN12 | exact iU12 | exact iA12)).mono ?_; (first | rw [DN.out] | rw [DU.out] | rw [DC.out]); rintro e wh ⟨rfl, rfl⟩)
    | fail)
  go_ret
  exact ⟨ret_bool rfl, bw12⟩

set_option maxRecDepth 100000 in
set_option maxHeartbeats 8000000 in
theorem standsLaw_f (C R B F : Int) (A : Option Addr) (cap : Nat) (cl : List Int) (D : Option Addr) (dap : Nat) (l : List Int) (b : Int) (w : World) (hB : B ≤ 9223372036854775807) (hcl : cl.length ≤ maxLen) (hll : l.length ≤ maxLen) (hr : Ints w w.heap.size A cl) (hl : Ints w w.heap.size D l) (b0 : 0 ≤ b) (b1 : b ≤ 255) (hs : someB C R B F cl l = true) (hok : Ok C R B F cl) (N M O : Nat) (e2 : Int) (ned use cl2 rest : List Int) (hnl : ned.length ≤ 1000000) (hul : use.length ≤ 1000000)
    (C1 : ∀ W : World, Ints W W.heap.size A cl → Ints W W.heap.size D l → Calls Try.prog 37 #[.agg #[.int .i64 C, .int .i64 R, .int .i64 B, .int .i64 F, .slice A cl.length cap], .slice D l.length dap] W fun e w' => e = .returned (.tuple #[.int .i64 (N : Nat), .int .i64 0]) ∧ Below W.heap.size W w')
    (CN : ∀ W : World, Ints W W.heap.size A cl → Ints W W.heap.size D l → Calls Try.prog 43 #[.agg #[.int .i64 C, .int .i64 R, .int .i64 B, .int .i64 F, .slice A cl.length cap], .slice D l.length dap] W (RetInts2 W ned 0))
    (CU : ∀ W : World, Ints W W.heap.size A cl → Ints W W.heap.size D l → Calls Try.prog 45 #[.agg #[.int .i64 C, .int .i64 R, .int .i64 B, .int .i64 F, .slice A cl.length cap], .slice D l.length dap] W (RetInts2 W use 0))
    (C34 : ∀ (X : Option Addr) (xap : Nat) (W : World), Ints W W.heap.size A cl → Ints W W.heap.size X [(b % C)] → Calls Try.prog 34 #[.agg #[.int .i64 C, .int .i64 R, .int .i64 B, .int .i64 F, .slice A cl.length cap], .slice X 1 xap] W (RetHouse W C R B F cl2 0))
    (C2 : ∀ (X : Option Addr) (xap : Nat) (W : World), Ints W W.heap.size X cl2 → Ints W W.heap.size D l → Calls Try.prog 37 #[.agg #[.int .i64 C, .int .i64 R, .int .i64 B, .int .i64 F, .slice X cl2.length xap], .slice D l.length dap] W fun e w' => e = .returned (.tuple #[.int .i64 (M : Nat), .int .i64 e2]) ∧ Below W.heap.size W w')
    (C32 : ∀ (X : Option Addr) (xap : Nat) (W : World), Ints W W.heap.size A cl → Ints W W.heap.size D l → Ints W W.heap.size X [(b % C)] → Calls Try.prog 32 #[.agg #[.int .i64 C, .int .i64 R, .int .i64 B, .int .i64 F, .slice A cl.length cap], .slice D l.length dap, .slice X 1 xap] W (RetInts2 W rest 0))
    (C3 : ∀ (Y : Option Addr) (yap : Nat) (W : World), Ints W W.heap.size A cl → Ints W W.heap.size Y rest → Calls Try.prog 37 #[.agg #[.int .i64 C, .int .i64 R, .int .i64 B, .int .i64 F, .slice A cl.length cap], .slice Y rest.length yap] W fun e w' => e = .returned (.tuple #[.int .i64 (O : Nat), .int .i64 0]) ∧ Below W.heap.size W w')
    (hce : e2 = 0) (hc : N = M) (h0 : N = 0) (hN : N ≤ 1000) (hd1 : decide ((b % C) ∈ ned) = false) (hd2 : decide ((b % C) ∈ use) = false) (hd3 : decide ((b % C) ∈ cl) = false) :
    Calls Try.prog 9 #[.agg #[.int .i64 C, .int .i64 R, .int .i64 B, .int .i64 F, .slice A cl.length cap], .slice D l.length dap, .int .u8 b] w fun e w' => e = .returned (.bool true) ∧ Below w.heap.size w w' := by
  have hc63 : cl.length ≤ 9223372036854775807 := Nat.le_trans hcl (by decide)
  have bw0 := below_new w (.cells #[.int .i64 C, .int .i64 R, .int .i64 B, .int .i64 F, .slice A cl.length cap] 24)
  have kH0 := Blk.new w 24 #[.int .i64 C, .int .i64 R, .int .i64 B, .int .i64 F, .slice A cl.length cap]
  have iA0 := hr.behind bw0
  have iD0 := hl.behind bw0
  clear hr hl
  have q1 := hok.c3
  have q2 := hok.c120
  have z1 : (C == 0) = false := by simp; omega
  have hz2 : b.tmod C = b % C := Int.tmod_eq_emod_of_nonneg b0
  have hcl6 : cl.length ≤ 1000000 := by have := hok.len; omega
  subst hce
  subst hc
  have g1 : ¬ (N : Int) < (N : Int) := by omega
  have g2 : decide ((N : Int) < (N : Int)) = false := decide_eq_false g1
  have f1 : ¬ (0 : Int) < (N : Int) := by omega
  have f2 : decide ((0 : Int) < (N : Int)) = false := decide_eq_false f1
  have f5 : IntKind.i64.wrap ((N : Int) - 1) = (N : Int) - 1 := IntWalk.i64_in _ (by omega)
  have HS := Lib.hid hs
  have H1 := Lib.hid C1
  have HN := Lib.hid CN
  have HU := Lib.hid CU
  have H34 := Lib.hid C34
  have H2 := Lib.hid C2
  have H32 := Lib.hid C32
  have H3 := Lib.hid C3
  have DN := Lib.hid hd1
  have DU := Lib.hid hd2
  have DC := Lib.hid hd3
  clear hs C1 CN CU C34 C2 C32 C3 hd1 hd2 hd3 hok
  go_enter Try.func9, Try.ntmps9
  go_wp2_with (first
    | (go_at_call 55; refine (some_any C R B F A cap cl D dap l _ hB hc63 iA0).mono ?_; rw [HS.out]; rintro e w1 ⟨rfl, hb1⟩; have bw1 := below_next bw0 bw0.size hb1; clear bw0; have kH1 := kH0.below hb1 kH0.lt; clear kH0; have iA1 := iA0.behind hb1; clear iA0; have iD1 := iD0.behind hb1; clear iD0; obtain ⟨d0, d1, d2, d3, d4⟩ := kH1.five)
    | (go_at_call 37; refine (H1.out _ iA1 iD1).mono ?_; rintro e w2 ⟨rfl, hb2⟩; have bw2 := below_next bw1 bw1.size hb2; clear bw1; have kH2 := kH1.below hb2 kH1.lt; clear kH1; have iA2 := iA1.behind hb2; clear iA1; have iD2 := iD1.behind hb2; clear iD1; clear d0 d1 d2 d3 d4; obtain ⟨d0, d1, d2, d3, d4⟩ := kH2.five)
    | (go_at_call 43; refine (HN.out _ iA2 iD2).mono ?_; rintro e w3 ⟨NA, nap, rfl, nx1, nx2, iN3, hb3⟩; have bw3 := below_next bw2 bw2.size hb3; clear bw2; have kH3 := kH2.below hb3 kH2.lt; clear kH2; have iA3 := iA2.behind hb3; clear iA2; have iD3 := iD2.behind hb3; clear iD2; clear d0 d1 d2 d3 d4; obtain ⟨d0, d1, d2, d3, d4⟩ := kH3.five)
    | (go_at_call 45; refine (HU.out _ iA3 iD3).mono ?_; rintro e w4 ⟨UA, uap, rfl, ux1, ux2, iU4, hb4⟩; have bw4 := below_next bw3 bw3.size hb4; clear bw3; have kH4 := kH3.below hb4 kH3.lt; clear kH3; have iA4 := iA3.behind hb4; clear iA3; have iD4 := iD3.behind hb4; clear iD3; have iN4 := iN3.behind hb4; clear iN3; clear d0 d1 d2 d3 d4; obtain ⟨d0, d1, d2, d3, d4⟩ := kH4.five)
    | (go_at_call 34; have hn5 := below_new w4 (.cells #[.int .i64 (b % C)] 3); have bw5 := below_next bw4 bw4.size hn5; clear bw4; have kH5 := kH4.below hn5 kH4.lt; clear kH4; have iA5 := iA4.behind hn5; clear iA4; have iD5 := iD4.behind hn5; clear iD4; have iN5 := iN4.behind hn5; clear iN4; have iU5 := iU4.behind hn5; clear iU4; have iS5 := one_new w4 (b % C); refine (H34.out _ _ _ iA5 iS5).mono ?_; rintro e w6 ⟨X, xap, rfl, x1, x2, iX6, hb6⟩; have bw6 := below_next bw5 bw5.size hb6; clear bw5; have kH6 := kH5.below hb6 kH5.lt; clear kH5; have iA6 := iA5.behind hb6; clear iA5; have iD6 := iD5.behind hb6; clear iD5; have iN6 := iN5.behind hb6; clear iN5; have iU6 := iU5.behind hb6; clear iU5; have hn7 := below_new w6 (.cells #[.int .i64 C, .int .i64 R, .int .i64 B, .int .i64 F, .slice X cl2.length xap] 24); have bw7 := below_next bw6 bw6.size hn7; clear bw6; have kH7 := kH6.below hn7 kH6.lt; clear kH6; have iA7 := iA6.behind hn7; clear iA6; have iD7 := iD6.behind hn7; clear iD6; have iN7 := iN6.behind hn7; clear iN6; have iU7 := iU6.behind hn7; clear iU6; have iX7 := iX6.behind hn7; clear iX6; have kT7 := Blk.new w6 24 #[.int .i64 C, .int .i64 R, .int .i64 B, .int .i64 F, .slice X cl2.length xap]; clear iS5; clear d0 d1 d2 d3 d4; obtain ⟨d0, d1, d2, d3, d4⟩ := kH7.five; obtain ⟨e0, e1, e2', e3, e4⟩ := kT7.five)
    | (go_at_call 37; refine (H2.out X xap _ iX7 iD7).mono ?_; rintro e w8 ⟨rfl, hb8⟩; have bw8 := below_next bw7 bw7.size hb8; clear bw7; have kH8 := kH7.below hb8 kH7.lt; clear kH7; have iA8 := iA7.behind hb8; clear iA7; have iD8 := iD7.behind hb8; clear iD7; have iN8 := iN7.behind hb8; clear iN7; have iU8 := iU7.behind hb8; clear iU7; have iX8 := iX7.behind hb8; clear iX7; clear d0 d1 d2 d3 d4; obtain ⟨d0, d1, d2, d3, d4⟩ := kH8.five; clear e0 e1 e2' e3 e4)
    | (go_at_call 32; have hn9 := below_new w8 (.cells #[.int .i64 (b % C)] 3); have bw9 := below_next bw8 bw8.size hn9; clear bw8; have kH9 := kH8.below hn9 kH8.lt; clear kH8; have iA9 := iA8.behind hn9; clear iA8; have iD9 := iD8.behind hn9; clear iD8; have iN9 := iN8.behind hn9; clear iN8; have iU9 := iU8.behind hn9; clear iU8; have iX9 := iX8.behind hn9; clear iX8; have iS9 := one_new w8 (b % C); refine (H32.out _ _ _ iA9 iD9 iS9).mono ?_; rintro e w10 ⟨Y, yap, rfl, y1, y2, iY10, hb10⟩; have bw10 := below_next bw9 bw9.size hb10; clear bw9; have kH10 := kH9.below hb10 kH9.lt; clear kH9; have iA10 := iA9.behind hb10; clear iA9; have iD10 := iD9.behind hb10; clear iD9; have iN10 := iN9.behind hb10; clear iN9; have iU10 := iU9.behind hb10; clear iU9; have iX10 := iX9.behind hb10; clear iX9; clear d0 d1 d2 d3 d4; obtain ⟨d0, d1, d2, d3, d4⟩ := kH10.five)
    | (go_at_call 37; refine (H3.out Y yap _ iA10 iY10).mono ?_; rintro e w11 ⟨rfl, hb11⟩; have bw11 := below_next bw10 bw10.size hb11; clear bw10; have kH11 := kH10.below hb11 kH10.lt; clear kH10; have iA11 := iA10.behind hb11; clear iA10; have iD11 := iD10.behind hb11; clear iD10; have iN11 := iN10.behind hb11; clear iN10; have iU11 := iU10.behind hb11; clear iU10; have iX11 := iX10.behind hb11; clear iX10; have iY11 := iY10.behind hb11; clear iY10; clear d0 d1 d2 d3 d4; obtain ⟨d0, d1, d2, d3, d4⟩ := kH11.five)
    | (go_at_call 15; refine (sanity_any _).mono ?_; rintro e w12 ⟨rfl, hb12⟩; have bw12 := below_next bw11 bw11.size hb12; clear bw11; have kH12 := kH11.below hb12 kH11.lt; clear kH11; have iA12 := iA11.behind hb12; clear iA11; have iD12 := iD11.behind hb12; clear iD11; have iN12 := iN11.behind hb12; clear iN11; have iU12 := iU11.behind hb12; clear iU11; have iX12 := iX11.behind hb12; clear iX11; have iY12 := iY11.behind hb12; clear iY11)
    | (go_at_call 56; refine (has56_any _ _ _ _ _ (by first | exact hnl | exact hul | exact hcl6) (by first | exact iN8 | exact iU8 | exact iA8)).mono ?_; (first | rw [DN.out] | rw [DU.out] | rw [DC.out]); rintro e wh ⟨rfl, rfl⟩)
    | (go_at_call 56; refine (has56_any _ _ _ _ _ (by first | exact hnl | exact hul | exact hcl6) (by first | exact iN12 | exact iU12 | exact iA12)).mono ?_; (first | rw [DN.out] | rw [DU.out] | rw [DC.out]); rintro e wh ⟨rfl, rfl⟩)
    | fail)
  go_ret
  exact ⟨ret_bool rfl, bw12⟩

theorem standsLaw_any (C R B F : Int) (A : Option Addr) (cap : Nat) (cl : List Int) (D : Option Addr) (dap : Nat) (l : List Int) (b : Int) (w : World) (hB : B ≤ 9223372036854775807) (hcl : cl.length ≤ maxLen) (hll : l.length ≤ maxLen) (hr : Ints w w.heap.size A cl) (hl : Ints w w.heap.size D l) (b0 : 0 ≤ b) (b1 : b ≤ 255) :
    Calls Try.prog 9 #[.agg #[.int .i64 C, .int .i64 R, .int .i64 B, .int .i64 F, .slice A cl.length cap], .slice D l.length dap, .int .u8 b] w fun e w' => e = .returned (.bool true) ∧ Below w.heap.size w w' := by
  have hc63 : cl.length ≤ 9223372036854775807 := Nat.le_trans hcl (by decide)
  have hl63 : l.length ≤ 9223372036854775807 := Nat.le_trans hll (by decide)
  cases hs : someB C R B F cl l with
  | false => exact standsLaw_out C R B F A cap cl D dap l b w hB hcl hll hr hl hs
  | true =>
    obtain ⟨hl60, hck⟩ := of_decide_eq_true hs
    have hok := chk_ok.1 hck
    have k1 := hok.c3
    have k2 := hok.c120
    have s0 : 0 ≤ (b % C) := Int.emod_nonneg _ (by omega)
    have s1 : (b % C) < C := Int.emod_lt_of_pos _ (by omega)
    have C1 := fun (W : World) (ha : Ints W W.heap.size A cl) (hd : Ints W W.heap.size D l) => count37 C R B F A cap cl D dap l hB hc63 hl63 W ha hd
    by_cases he : findErr C R B F cl l = 0
    · rw [he] at C1
      have hk := find_holes he
      have hb := find_best he
      have hlen : (findL C R B F cl l).length ≤ 1000 := by
        have hr : Rise C (findL C R B F cl l) := ⟨hb.rise, fun x hx => ⟨(hb.cov.op x hx).lo, (hb.cov.op x hx).hi⟩⟩
        have := rise_len hr
        omega
      have hnd := (need_len (C := C) (R := R) (B := B) (F := F) (cl := cl) (l := l))
      have CN := fun (W : World) (ha : Ints W W.heap.size A cl) (hd : Ints W W.heap.size D l) => needed43 C R B F A cap cl D dap l hB hc63 hl63 W ha hd
      have CU := fun (W : World) (ha : Ints W W.heap.size A cl) (hd : Ints W W.heap.size D l) => useful45 C R B F A cap cl D dap l hB hc63 hl63 W ha hd
      rw [he] at CN CU
      have hce : clErr C R B F cl [(b % C)] = 0 := by rw [clErr_ok _ hok, if_neg (by simp), if_pos (by simpa using ⟨s0, s1⟩)]
      have C34 : ∀ (X : Option Addr) (xap : Nat) (W : World), Ints W W.heap.size A cl → Ints W W.heap.size X [(b % C)] → Calls Try.prog 34 #[.agg #[.int .i64 C, .int .i64 R, .int .i64 B, .int .i64 F, .slice A cl.length cap], .slice X 1 xap] W (RetHouse W C R B F (clL cl [(b % C)]) 0) := fun X xap W ha hd => by
        have := close_any C R B F A cap cl X xap [(b % C)] W hB hc63 (by simp) ha hd
        simpa only [hce, ↓reduceIte, List.length_cons, List.length_nil, Nat.zero_add] using this
      have hok2 : Ok C R B F (clL cl [(b % C)]) := clL_ok hok (by simpa using ⟨s0, s1⟩)
      have hzl : (clL cl [(b % C)]).length ≤ 9223372036854775807 := by have := hok2.len; omega
      have C2 := fun (X : Option Addr) (xap : Nat) (W : World) (ha : Ints W W.heap.size X (clL cl [(b % C)])) (hd : Ints W W.heap.size D l) => count37 C R B F X xap (clL cl [(b % C)]) D dap l hB hzl hl63 W ha hd
      obtain ⟨m1, m2, m3, m4⟩ := stands_shut (s := (b % C)) he ⟨s0, s1⟩
      by_cases hcc : (b % C) ∈ cl
      · have hnu : (b % C) ∉ useL C R B F cl l := fun h => use_open he h hcc
        have hnn : (b % C) ∉ nedL C R B F cl l := fun h => hnu (m4 h)
        have h2 : findErr C R B F (clL cl [(b % C)]) l = 0 := m2.elim id fun h5 => absurd (m3.1 (.inl h5)) hnn
        rw [h2] at C2
        have h3 : (findL C R B F cl l).length = (findL C R B F (clL cl [(b % C)]) l).length := by
          have := m1 h2
          have h4 : ¬ (findL C R B F cl l).length < (findL C R B F (clL cl [(b % C)]) l).length := fun h => hnn (m3.1 (.inr ⟨h2, h⟩))
          omega
        exact standsLaw_d C R B F A cap cl D dap l b w hB hcl hll hr hl b0 b1 hs hok _ _ 0 0 _ _ _ [] (by omega) (by omega) C1 CN CU C34 C2 rfl h3 (decide_eq_false hnn) (decide_eq_false hnu) (decide_eq_true hcc)
      · obtain ⟨r1, r2⟩ := stands_rest (s := (b % C)) he ⟨s0, s1⟩ hcc
        have hse : leftErr C R B F cl l [(b % C)] = 0 := by
          unfold leftErr standsErr
          rw [if_neg (by simp [holesErr_zero.2 hk]), if_neg (by simp), if_pos ⟨⟨List.pairwise_singleton _ _, by simpa using ⟨s0, s1⟩⟩, by simpa using hcc⟩]
        have hle : leftL C R B F cl l [(b % C)] = cols (leftP C B F (isIn (colm C l)) [(b % C)]) := if_pos hse
        have C32 : ∀ (X : Option Addr) (xap : Nat) (W : World), Ints W W.heap.size A cl → Ints W W.heap.size D l → Ints W W.heap.size X [(b % C)] → Calls Try.prog 32 #[.agg #[.int .i64 C, .int .i64 R, .int .i64 B, .int .i64 F, .slice A cl.length cap], .slice D l.length dap, .slice X 1 xap] W (RetInts2 W (leftL C R B F cl l [(b % C)]) 0) := fun X xap W ha hd hx => by
          have := left_any C R B F A cap cl D dap l X xap [(b % C)] W hB hc63 hl63 (by simp) ha hd hx
          simpa only [hse, List.length_cons, List.length_nil, Nat.zero_add] using this
        have hrl : (leftL C R B F cl l [(b % C)]).length ≤ 9223372036854775807 := by
          rw [hle]
          have : (cols (leftP C B F (isIn (colm C l)) [(b % C)])).length ≤ 120 := colsTo_len _ _
          omega
        have C3 := fun (Y : Option Addr) (yap : Nat) (W : World) (ha : Ints W W.heap.size A cl) (hy : Ints W W.heap.size Y (leftL C R B F cl l [(b % C)])) => count37 C R B F A cap cl Y yap (leftL C R B F cl l [(b % C)]) hB hc63 hrl W ha hy
        rw [← hle] at r1 r2
        rw [r1] at C3
        by_cases hu : (b % C) ∈ useL C R B F cl l
        · obtain ⟨r3, r4⟩ := r2.2 hu
          by_cases hn : (b % C) ∈ nedL C R B F cl l
          · rcases m3.2 hn with h5 | ⟨h0, h1⟩
            · rw [h5] at C2
              exact standsLaw_a C R B F A cap cl D dap l b w hB hcl hll hr hl b0 b1 hs hok _ _ _ 5 _ _ _ _ (by omega) (by omega) C1 CN CU C34 C2 C32 C3 rfl r4 hlen (decide_eq_true hn) (decide_eq_true hu) (decide_eq_false hcc)
            · rw [h0] at C2
              exact standsLaw_b C R B F A cap cl D dap l b w hB hcl hll hr hl b0 b1 hs hok _ _ _ 0 _ _ _ _ (by omega) (by omega) C1 CN CU C34 C2 C32 C3 rfl h1 r4 hlen (decide_eq_true hn) (decide_eq_true hu) (decide_eq_false hcc)
          · have h2 : findErr C R B F (clL cl [(b % C)]) l = 0 := m2.elim id fun h5 => absurd (m3.1 (.inl h5)) hn
            rw [h2] at C2
            have h3 : (findL C R B F cl l).length = (findL C R B F (clL cl [(b % C)]) l).length := by
              have := m1 h2
              have h4 : ¬ (findL C R B F cl l).length < (findL C R B F (clL cl [(b % C)]) l).length := fun h => hn (m3.1 (.inr ⟨h2, h⟩))
              omega
            exact standsLaw_c C R B F A cap cl D dap l b w hB hcl hll hr hl b0 b1 hs hok _ _ _ 0 _ _ _ _ (by omega) (by omega) C1 CN CU C34 C2 C32 C3 rfl h3 r4 hlen (decide_eq_false hn) (decide_eq_true hu) (decide_eq_false hcc)
        · have hn : (b % C) ∉ nedL C R B F cl l := fun h => hu (m4 h)
          have h2 : findErr C R B F (clL cl [(b % C)]) l = 0 := m2.elim id fun h5 => absurd (m3.1 (.inl h5)) hn
          rw [h2] at C2
          have h3 : (findL C R B F cl l).length = (findL C R B F (clL cl [(b % C)]) l).length := by
            have := m1 h2
            have h4 : ¬ (findL C R B F cl l).length < (findL C R B F (clL cl [(b % C)]) l).length := fun h => hn (m3.1 (.inr ⟨h2, h⟩))
            omega
          by_cases hz : (findL C R B F cl l).length = 0
          · exact standsLaw_f C R B F A cap cl D dap l b w hB hcl hll hr hl b0 b1 hs hok _ _ _ 0 _ _ _ _ (by omega) (by omega) C1 CN CU C34 C2 C32 C3 rfl h3 hz hlen (decide_eq_false hn) (decide_eq_false hu) (decide_eq_false hcc)
          · exact standsLaw_e C R B F A cap cl D dap l b w hB hcl hll hr hl b0 b1 hs hok _ _ _ 0 _ _ _ _ (by omega) (by omega) C1 CN CU C34 C2 C32 C3 rfl h3 (by omega) (fun h => hu (r2.1 ⟨by omega, h⟩)) hlen (decide_eq_false hn) (decide_eq_false hu) (decide_eq_false hcc)
    · exact standsLaw_err C R B F A cap cl D dap l b w hB hcl hll hr hl hs _ _ he C1

end Go.Proofs.Ytnjmkdgglpcfpaa
