import Derived.Test.YtnjmkdgglpcfpaaC20
namespace Go.Proofs.Ytnjmkdgglpcfpaa
set_option linter.unusedSimpArgs false
set_option linter.unusedVariables false
open Go.RowKit

set_option maxRecDepth 100000 in
set_option maxHeartbeats 1000000 in
theorem needsLaw_o1 (C R B F : Int) (A : Option Addr) (cap : Nat) (cl : List Int) (D : Option Addr) (dap : Nat) (l : List Int) (w : World) (hB : B ≤ 9223372036854775807) (hcl : cl.length ≤ maxLen) (hll : l.length ≤ maxLen) (hr : Ints w w.heap.size A cl) (hl : Ints w w.heap.size D l) (hf : fewB C cl = false)  :
    Calls Try.prog 6 #[.agg #[.int .i64 C, .int .i64 R, .int .i64 B, .int .i64 F, .slice A cl.length cap], .slice D l.length dap] w fun e w' => e = .returned (.bool true) ∧ Below w.heap.size w w' := by
  have bw0 := below_new w (.cells #[.int .i64 C, .int .i64 R, .int .i64 B, .int .i64 F, .slice A cl.length cap] 24)
  have kH0 := Blk.new w 24 #[.int .i64 C, .int .i64 R, .int .i64 B, .int .i64 F, .slice A cl.length cap]
  have iA0 := hr.behind bw0
  have iD0 := hl.behind bw0
  have HF := Lib.hid hf
  clear hf
  go_enter Try.func6, Try.ntmps6
  go_wp2_with (first
    | (go_at_call 14; refine (few_any C R B F A cap cl _).mono ?_; rw [HF.out]; rintro e w1 ⟨rfl, hb1⟩; have bw1 := below_next bw0 bw0.size hb1; clear bw0; have kH1 := kH0.below hb1 kH0.lt; clear kH0; have iA1 := iA0.behind hb1; clear iA0; have iD1 := iD0.behind hb1; clear iD0; obtain ⟨d0, d1, d2, d3, d4⟩ := kH1.five)
    | (go_at_call 15; refine (sanity_any _).mono ?_; rintro e w2 ⟨rfl, hb2⟩; have bw2 := below_next bw1 bw1.size hb2)
    | fail)
  go_ret
  exact ⟨ret_bool rfl, bw2⟩

set_option maxRecDepth 100000 in
set_option maxHeartbeats 1000000 in
theorem needsLaw_o2 (C R B F : Int) (A : Option Addr) (cap : Nat) (cl : List Int) (D : Option Addr) (dap : Nat) (l : List Int) (w : World) (hB : B ≤ 9223372036854775807) (hcl : cl.length ≤ maxLen) (hll : l.length ≤ maxLen) (hr : Ints w w.heap.size A cl) (hl : Ints w w.heap.size D l) (hf : fewB C cl = true) (h2 : 210 < l.length) :
    Calls Try.prog 6 #[.agg #[.int .i64 C, .int .i64 R, .int .i64 B, .int .i64 F, .slice A cl.length cap], .slice D l.length dap] w fun e w' => e = .returned (.bool true) ∧ Below w.heap.size w w' := by
  have bw0 := below_new w (.cells #[.int .i64 C, .int .i64 R, .int .i64 B, .int .i64 F, .slice A cl.length cap] 24)
  have kH0 := Blk.new w 24 #[.int .i64 C, .int .i64 R, .int .i64 B, .int .i64 F, .slice A cl.length cap]
  have iA0 := hr.behind bw0
  have iD0 := hl.behind bw0
  have HF := Lib.hid hf
  clear hf
  have e1 : (210 : Int) < (l.length : Int) := by omega
  have e2 : decide ((210 : Int) < (l.length : Int)) = true := decide_eq_true e1
  go_enter Try.func6, Try.ntmps6
  go_wp2_with (first
    | (go_at_call 14; refine (few_any C R B F A cap cl _).mono ?_; rw [HF.out]; rintro e w1 ⟨rfl, hb1⟩; have bw1 := below_next bw0 bw0.size hb1; clear bw0; have kH1 := kH0.below hb1 kH0.lt; clear kH0; have iA1 := iA0.behind hb1; clear iA0; have iD1 := iD0.behind hb1; clear iD0; obtain ⟨d0, d1, d2, d3, d4⟩ := kH1.five)
    | (go_at_call 15; refine (sanity_any _).mono ?_; rintro e w2 ⟨rfl, hb2⟩; have bw2 := below_next bw1 bw1.size hb2)
    | fail)
  go_ret
  exact ⟨ret_bool rfl, bw2⟩

set_option maxRecDepth 100000 in
set_option maxHeartbeats 8000000 in
theorem needsLaw_in (C R B F : Int) (A : Option Addr) (cap : Nat) (cl : List Int) (D : Option Addr) (dap : Nat) (l : List Int) (w : World) (hB : B ≤ 9223372036854775807) (hcl : cl.length ≤ maxLen) (hll : l.length ≤ maxLen) (hr : Ints w w.heap.size A cl) (hl : Ints w w.heap.size D l) (hf : fewB C cl = true) (h2 : l.length ≤ 210) (L1 L2 L3 : List Int) (e0 : Int) (hl1 : L1.length ≤ 1000000) (hl2 : L2.length ≤ 1000000) (hl3 : L3.length ≤ 1000000) (c43 : ∀ W : World, Ints W W.heap.size A cl → Ints W W.heap.size D l → Calls Try.prog 43 #[.agg #[.int .i64 C, .int .i64 R, .int .i64 B, .int .i64 F, .slice A cl.length cap], .slice D l.length dap] W (RetInts2 W L1 e0)) (c44 : ∀ W : World, Ints W W.heap.size A cl → Ints W W.heap.size D l → Calls Try.prog 44 #[.agg #[.int .i64 C, .int .i64 R, .int .i64 B, .int .i64 F, .slice A cl.length cap], .slice D l.length dap] W (RetIntsE W L1 e0)) (c45 : ∀ W : World, Ints W W.heap.size A cl → Ints W W.heap.size D l → Calls Try.prog 45 #[.agg #[.int .i64 C, .int .i64 R, .int .i64 B, .int .i64 F, .slice A cl.length cap], .slice D l.length dap] W (RetInts2 W L2 e0)) (c46 : ∀ W : World, Ints W W.heap.size A cl → Ints W W.heap.size D l → Calls Try.prog 46 #[.agg #[.int .i64 C, .int .i64 R, .int .i64 B, .int .i64 F, .slice A cl.length cap], .slice D l.length dap] W (RetIntsE W L2 e0)) (c47 : ∀ W : World, Ints W W.heap.size A cl → Ints W W.heap.size D l → Calls Try.prog 47 #[.agg #[.int .i64 C, .int .i64 R, .int .i64 B, .int .i64 F, .slice A cl.length cap], .slice D l.length dap] W (RetInts2 W L3 e0)) (c48 : ∀ W : World, Ints W W.heap.size A cl → Ints W W.heap.size D l → Calls Try.prog 48 #[.agg #[.int .i64 C, .int .i64 R, .int .i64 B, .int .i64 F, .slice A cl.length cap], .slice D l.length dap] W (RetIntsE W L3 e0)) :
    Calls Try.prog 6 #[.agg #[.int .i64 C, .int .i64 R, .int .i64 B, .int .i64 F, .slice A cl.length cap], .slice D l.length dap] w fun e w' => e = .returned (.bool true) ∧ Below w.heap.size w w' := by
  have bw0 := below_new w (.cells #[.int .i64 C, .int .i64 R, .int .i64 B, .int .i64 F, .slice A cl.length cap] 24)
  have kH0 := Blk.new w 24 #[.int .i64 C, .int .i64 R, .int .i64 B, .int .i64 F, .slice A cl.length cap]
  have iA0 := hr.behind bw0
  have iD0 := hl.behind bw0
  have HF := Lib.hid hf
  have H43 := Lib.hid c43
  have H44 := Lib.hid c44
  have H45 := Lib.hid c45
  have H46 := Lib.hid c46
  have H47 := Lib.hid c47
  have H48 := Lib.hid c48
  clear hf c43 c44 c45 c46 c47 c48
  have q1 : ¬ (210 : Int) < (l.length : Int) := by omega
  have q2 : decide ((210 : Int) < (l.length : Int)) = false := decide_eq_false q1
  go_enter Try.func6, Try.ntmps6
  go_wp2_with (first
    | (go_at_call 14; refine (few_any C R B F A cap cl _).mono ?_; rw [HF.out]; rintro e w1 ⟨rfl, hb1⟩; have bw1 := below_next bw0 bw0.size hb1; clear bw0; have kH1 := kH0.below hb1 kH0.lt; clear kH0; have iA1 := iA0.behind hb1; clear iA0; have iD1 := iD0.behind hb1; clear iD0; obtain ⟨d0, d1, d2, d3, d4⟩ := kH1.five)
    | (go_at_call 43; refine (H43.out _ iA1 iD1).mono ?_; rintro e w2 ⟨S, sap, rfl, s1, s2, iS2, hb2⟩; have bw2 := below_next bw1 bw1.size hb2; clear bw1; have kH2 := kH1.below hb2 kH1.lt; clear kH1; have iA2 := iA1.behind hb2; clear iA1; have iD2 := iD1.behind hb2; clear iD1; clear d0 d1 d2 d3 d4; obtain ⟨d0, d1, d2, d3, d4⟩ := kH2.five)
    | (go_at_call 44; refine (H44.out _ iA2 iD2).mono ?_; rintro e w3 ⟨Q, qap, rfl, p1, p2, iP3, hb3⟩; have bw3 := below_next bw2 bw2.size hb3; clear bw2; have kH3 := kH2.below hb3 kH2.lt; clear kH2; have iA3 := iA2.behind hb3; clear iA2; have iD3 := iD2.behind hb3; clear iD2; have iS3 := iS2.behind hb3; clear iS2; have hn4 := below_new w3 (.cells #[.slice Q L1.length qap, .int .i64 e0] 36); have bw4 := below_next bw3 bw3.size hn4; clear bw3; have kH4 := kH3.below hn4 kH3.lt; clear kH3; have iA4 := iA3.behind hn4; clear iA3; have iD4 := iD3.behind hn4; clear iD3; have iS4 := iS3.behind hn4; clear iS3; have iP4 := iP3.behind hn4; clear iP3; have kZ4 := Blk.new w3 36 #[.slice Q L1.length qap, .int .i64 e0]; clear d0 d1 d2 d3 d4; obtain ⟨d0, d1, d2, d3, d4⟩ := kH4.five)
    | (go_at_call 45; refine (H45.out _ iA4 iD4).mono ?_; rintro e w5 ⟨U, uap, rfl, u1, u2, iU5, hb5⟩; have bw5 := below_next bw4 bw4.size hb5; clear bw4; have kH5 := kH4.below hb5 kH4.lt; clear kH4; have iA5 := iA4.behind hb5; clear iA4; have iD5 := iD4.behind hb5; clear iD4; have iS5 := iS4.behind hb5; clear iS4; have iP5 := iP4.behind hb5; clear iP4; have kZ5 := kZ4.below hb5 kZ4.lt; clear kZ4; clear d0 d1 d2 d3 d4; obtain ⟨d0, d1, d2, d3, d4⟩ := kH5.five)
    | (go_at_call 46; refine (H46.out _ iA5 iD5).mono ?_; rintro e w6 ⟨V, vap, rfl, v1, v2, iV6, hb6⟩; have bw6 := below_next bw5 bw5.size hb6; clear bw5; have kH6 := kH5.below hb6 kH5.lt; clear kH5; have iA6 := iA5.behind hb6; clear iA5; have iD6 := iD5.behind hb6; clear iD5; have iS6 := iS5.behind hb6; clear iS5; have iP6 := iP5.behind hb6; clear iP5; have kZ6 := kZ5.below hb6 kZ5.lt; clear kZ5; have iU6 := iU5.behind hb6; clear iU5; have hn7 := below_new w6 (.cells #[.slice V L2.length vap, .int .i64 e0] 36); have bw7 := below_next bw6 bw6.size hn7; clear bw6; have kH7 := kH6.below hn7 kH6.lt; clear kH6; have iA7 := iA6.behind hn7; clear iA6; have iD7 := iD6.behind hn7; clear iD6; have iS7 := iS6.behind hn7; clear iS6; have iP7 := iP6.behind hn7; clear iP6; have kZ7 := kZ6.below hn7 kZ6.lt; clear kZ6; have iU7 := iU6.behind hn7; clear iU6; have iV7 := iV6.behind hn7; clear iV6; have kV7 := Blk.new w6 36 #[.slice V L2.length vap, .int .i64 e0]; clear d0 d1 d2 d3 d4; obtain ⟨d0, d1, d2, d3, d4⟩ := kH7.five)
    | (go_at_call 47; refine (H47.out _ iA7 iD7).mono ?_; rintro e w8 ⟨X, xap, rfl, x1, x2, iX8, hb8⟩; have bw8 := below_next bw7 bw7.size hb8; clear bw7; have kH8 := kH7.below hb8 kH7.lt; clear kH7; have iA8 := iA7.behind hb8; clear iA7; have iD8 := iD7.behind hb8; clear iD7; have iS8 := iS7.behind hb8; clear iS7; have iP8 := iP7.behind hb8; clear iP7; have kZ8 := kZ7.below hb8 kZ7.lt; clear kZ7; have iU8 := iU7.behind hb8; clear iU7; have iV8 := iV7.behind hb8; clear iV7; have kV8 := kV7.below hb8 kV7.lt; clear kV7; clear d0 d1 d2 d3 d4; obtain ⟨d0, d1, d2, d3, d4⟩ := kH8.five)
    | (go_at_call 48; refine (H48.out _ iA8 iD8).mono ?_; rintro e w9 ⟨Y, yap, rfl, y1, y2, iY9, hb9⟩; have bw9 := below_next bw8 bw8.size hb9; clear bw8; have kH9 := kH8.below hb9 kH8.lt; clear kH8; have iA9 := iA8.behind hb9; clear iA8; have iD9 := iD8.behind hb9; clear iD8; have iS9 := iS8.behind hb9; clear iS8; have iP9 := iP8.behind hb9; clear iP8; have kZ9 := kZ8.below hb9 kZ8.lt; clear kZ8; have iU9 := iU8.behind hb9; clear iU8; have iV9 := iV8.behind hb9; clear iV8; have kV9 := kV8.below hb9 kV8.lt; clear kV8; have iX9 := iX8.behind hb9; clear iX8; have hn10 := below_new w9 (.cells #[.slice Y L3.length yap, .int .i64 e0] 36); have bw10 := below_next bw9 bw9.size hn10; clear bw9; have kH10 := kH9.below hn10 kH9.lt; clear kH9; have iA10 := iA9.behind hn10; clear iA9; have iD10 := iD9.behind hn10; clear iD9; have iS10 := iS9.behind hn10; clear iS9; have iP10 := iP9.behind hn10; clear iP9; have kZ10 := kZ9.below hn10 kZ9.lt; clear kZ9; have iU10 := iU9.behind hn10; clear iU9; have iV10 := iV9.behind hn10; clear iV9; have kV10 := kV9.below hn10 kV9.lt; clear kV9; have iX10 := iX9.behind hn10; clear iX9; have iY10 := iY9.behind hn10; clear iY9; have kM10 := Blk.new w9 36 #[.slice Y L3.length yap, .int .i64 e0]; clear d0 d1 d2 d3 d4; obtain ⟨d0, d1, d2, d3, d4⟩ := kH10.five)
    | fail)
  clear d0 d1 d2 d3 d4
  go_at_call 15
  refine (sanity_any _).mono ?_
  rintro e w11 ⟨rfl, hb11⟩
  have bw11 := below_next bw10 bw10.size hb11
  clear bw10
  have kH11 := kH10.below hb11 kH10.lt
  clear kH10
  have iA11 := iA10.behind hb11
  clear iA10
  have iD11 := iD10.behind hb11
  clear iD10
  have iS11 := iS10.behind hb11
  clear iS10
  have iP11 := iP10.behind hb11
  clear iP10
  have kZ11 := kZ10.below hb11 kZ10.lt
  clear kZ10
  have iU11 := iU10.behind hb11
  clear iU10
  have iV11 := iV10.behind hb11
  clear iV10
  have kV11 := kV10.below hb11 kV10.lt
  clear kV10
  have iX11 := iX10.behind hb11
  clear iX10
  have iY11 := iY10.behind hb11
  clear iY10
  have kM11 := kM10.below hb11 kM10.lt
  clear kM10
  obtain ⟨z0, z1⟩ := And.intro (kZ11.cell 0) (kZ11.cell 1)
  obtain ⟨v0, v1⟩ := And.intro (kV11.cell 0) (kV11.cell 1)
  obtain ⟨m0, m1⟩ := And.intro (kM11.cell 0) (kM11.cell 1)
  go_wp2_with fail
  go_at_call 28
  refine (same_n _ iS11 iP11 rfl rfl hl1 rfl).mono ?_
  rintro e w12 ⟨rfl, hb12⟩
  clear z0 z1 v0 v1 m0 m1
  have bw12 := below_next bw11 bw11.size hb12
  clear bw11
  have kH12 := kH11.below hb12 kH11.lt
  clear kH11
  have iA12 := iA11.behind hb12
  clear iA11
  have iD12 := iD11.behind hb12
  clear iD11
  have iS12 := iS11.behind hb12
  clear iS11
  have iP12 := iP11.behind hb12
  clear iP11
  have kZ12 := kZ11.below hb12 kZ11.lt
  clear kZ11
  have iU12 := iU11.behind hb12
  clear iU11
  have iV12 := iV11.behind hb12
  clear iV11
  have kV12 := kV11.below hb12 kV11.lt
  clear kV11
  have iX12 := iX11.behind hb12
  clear iX11
  have iY12 := iY11.behind hb12
  clear iY11
  have kM12 := kM11.below hb12 kM11.lt
  clear kM11
  obtain ⟨z0, z1⟩ := And.intro (kZ12.cell 0) (kZ12.cell 1)
  obtain ⟨v0, v1⟩ := And.intro (kV12.cell 0) (kV12.cell 1)
  obtain ⟨m0, m1⟩ := And.intro (kM12.cell 0) (kM12.cell 1)
  go_wp2_with fail
  go_at_call 28
  refine (same_n _ iU12 iV12 rfl rfl hl2 rfl).mono ?_
  rintro e w13 ⟨rfl, hb13⟩
  clear z0 z1 v0 v1 m0 m1
  have bw13 := below_next bw12 bw12.size hb13
  clear bw12
  have kH13 := kH12.below hb13 kH12.lt
  clear kH12
  have iA13 := iA12.behind hb13
  clear iA12
  have iD13 := iD12.behind hb13
  clear iD12
  have iS13 := iS12.behind hb13
  clear iS12
  have iP13 := iP12.behind hb13
  clear iP12
  have kZ13 := kZ12.below hb13 kZ12.lt
  clear kZ12
  have iU13 := iU12.behind hb13
  clear iU12
  have iV13 := iV12.behind hb13
  clear iV12
  have kV13 := kV12.below hb13 kV12.lt
  clear kV12
  have iX13 := iX12.behind hb13
  clear iX12
  have iY13 := iY12.behind hb13
  clear iY12
  have kM13 := kM12.below hb13 kM12.lt
  clear kM12
  obtain ⟨z0, z1⟩ := And.intro (kZ13.cell 0) (kZ13.cell 1)
  obtain ⟨v0, v1⟩ := And.intro (kV13.cell 0) (kV13.cell 1)
  obtain ⟨m0, m1⟩ := And.intro (kM13.cell 0) (kM13.cell 1)
  go_wp2_with fail
  go_at_call 28
  refine (same_n _ iX13 iY13 rfl rfl hl3 rfl).mono ?_
  rintro e w14 ⟨rfl, hb14⟩
  clear z0 z1 v0 v1 m0 m1
  have bw14 := below_next bw13 bw13.size hb14
  clear bw13
  have kH14 := kH13.below hb14 kH13.lt
  clear kH13
  have iA14 := iA13.behind hb14
  clear iA13
  have iD14 := iD13.behind hb14
  clear iD13
  have iS14 := iS13.behind hb14
  clear iS13
  have iP14 := iP13.behind hb14
  clear iP13
  have kZ14 := kZ13.below hb14 kZ13.lt
  clear kZ13
  have iU14 := iU13.behind hb14
  clear iU13
  have iV14 := iV13.behind hb14
  clear iV13
  have kV14 := kV13.below hb14 kV13.lt
  clear kV13
  have iX14 := iX13.behind hb14
  clear iX13
  have iY14 := iY13.behind hb14
  clear iY13
  have kM14 := kM13.below hb14 kM13.lt
  clear kM13
  obtain ⟨z0, z1⟩ := And.intro (kZ14.cell 0) (kZ14.cell 1)
  obtain ⟨v0, v1⟩ := And.intro (kV14.cell 0) (kV14.cell 1)
  obtain ⟨m0, m1⟩ := And.intro (kM14.cell 0) (kM14.cell 1)
  go_wp2_with fail
  go_ret
  exact ⟨ret_bool rfl, bw14⟩

theorem needsLaw_any (C R B F : Int) (A : Option Addr) (cap : Nat) (cl : List Int) (D : Option Addr) (dap : Nat) (l : List Int) (w : World) (hB : B ≤ 9223372036854775807) (hcl : cl.length ≤ maxLen) (hll : l.length ≤ maxLen) (hr : Ints w w.heap.size A cl) (hl : Ints w w.heap.size D l) :
    Calls Try.prog 6 #[.agg #[.int .i64 C, .int .i64 R, .int .i64 B, .int .i64 F, .slice A cl.length cap], .slice D l.length dap] w fun e w' => e = .returned (.bool true) ∧ Below w.heap.size w w' := by
  cases hf : fewB C cl with
  | false => exact needsLaw_o1 C R B F A cap cl D dap l w hB hcl hll hr hl hf
  | true =>
    by_cases h2 : 210 < l.length
    · exact needsLaw_o2 C R B F A cap cl D dap l w hB hcl hll hr hl hf h2
    · have hc130 : cl.length ≤ 130 := (of_decide_eq_true hf).2
      have hc120 : C ≤ 120 ∨ findErr C R B F cl l ≠ 0 := by
        by_cases he : findErr C R B F cl l = 0
        · exact .inl (find_holes he).ok.c120
        · exact .inr he
      have q1 : cl.length ≤ 1000000 := by omega
      have q2 : cl.length ≤ 9223372036854775807 := by omega
      have q3 : l.length ≤ 1000000 := by omega
      have q4 : l.length ≤ 9223372036854775807 := by omega
      obtain ⟨n1, n2, n3⟩ := need_len (C := C) (R := R) (B := B) (F := F) (cl := cl) (l := l)
      refine needsLaw_in C R B F A cap cl D dap l w hB hcl hll hr hl hf (by omega) _ _ _ _ (by omega) ?_ (by omega) (fun W ha hd => needed43 C R B F A cap cl D dap l hB q2 q4 W ha hd) (fun W ha hd => refNeeded44_any C R B F A cap cl D dap l W q1 q3 ha hd) (fun W ha hd => useful45 C R B F A cap cl D dap l hB q2 q4 W ha hd) (fun W ha hd => refUseful46_any C R B F A cap cl D dap l W q1 q3 ha hd) (fun W ha hd => saves47 C R B F A cap cl D dap l hB q2 q4 W ha hd) (fun W ha hd => refSaves48_any C R B F A cap cl D dap l W q1 q3 ha hd)
      rcases hc120 with h | h
      · omega
      · unfold useL
        rw [if_neg h]
        simp

end Go.Proofs.Ytnjmkdgglpcfpaa
