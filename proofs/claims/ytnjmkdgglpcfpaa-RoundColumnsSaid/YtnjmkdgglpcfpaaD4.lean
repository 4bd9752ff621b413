import Derived.Test.YtnjmkdgglpcfpaaC11
import Derived.Test.YtnjmkdgglpcfpaaM8
namespace Go.Proofs.Ytnjmkdgglpcfpaa
set_option linter.unusedSimpArgs false
set_option linter.unusedVariables false
open Go.RowKit

theorem cols_same {C R B F : Int} {cl l : List Int} (hk : HolesOk C R B F cl l) : colsTo (isIn (colm C l)) C.toNat = cols (isIn (colm C l)) := by
  have k1 := hk.ok.c3
  have k2 := hk.ok.c120
  refine rise_ext _ _ (colsTo_rise _ _) (cols_rise _) fun x => ?_
  rw [cols_in k2 (by omega), colsTo_mem]
  constructor
  · rintro ⟨i, hi, hp, rfl⟩
    exact isIn_iff.1 hp
  · intro hx
    have := hk.cols x hx
    exact ⟨x.toNat, by omega, by rw [isIn_iff, Int.toNat_of_nonneg this.1]; exact hx, by omega⟩
theorem left_same {C R B F : Int} {cl l st : List Int} (hk : HolesOk C R B F cl l) : ((colsTo (isIn (colm C l)) C.toNat).filter fun x => !anyR C B F st x) = cols (leftP C B F (isIn (colm C l)) st) := by
  refine rise_ext _ _ (List.Pairwise.filter _ (colsTo_rise _ _)) (cols_rise _) fun x => ?_
  rw [List.mem_filter, cols_same hk, left_mem hk, cols_in hk.ok.c120 (by have := hk.ok.c3; omega)]
  simp

set_option maxRecDepth 100000 in
set_option maxHeartbeats 1000000 in
theorem columnsLaw_o1 (C R B F : Int) (A : Option Addr) (cap : Nat) (cl : List Int) (D : Option Addr) (dap : Nat) (l : List Int) (E : Option Addr) (eap : Nat) (st : List Int) (w : World) (hB : B ≤ 9223372036854775807) (hcl : cl.length ≤ maxLen) (hll : l.length ≤ maxLen) (hsl : st.length ≤ maxLen) (hr : Ints w w.heap.size A cl) (hl : Ints w w.heap.size D l) (hst : Ints w w.heap.size E st) (hf : fewB C cl = false)  :
    Calls Try.prog 4 #[.agg #[.int .i64 C, .int .i64 R, .int .i64 B, .int .i64 F, .slice A cl.length cap], .slice D l.length dap, .slice E st.length eap] w fun e w' => e = .returned (.bool true) ∧ Below w.heap.size w w' := by
  have bw0 := below_new w (.cells #[.int .i64 C, .int .i64 R, .int .i64 B, .int .i64 F, .slice A cl.length cap] 24)
  have kH0 := Blk.new w 24 #[.int .i64 C, .int .i64 R, .int .i64 B, .int .i64 F, .slice A cl.length cap]
  have iA0 := hr.behind bw0
  have iD0 := hl.behind bw0
  have iE0 := hst.behind bw0
  have HF := Lib.hid hf
  clear hf
  go_enter Try.func4, Try.ntmps4
  go_wp2_with (first
    | (go_at_call 14; refine (few_any C R B F A cap cl _).mono ?_; rw [HF.out]; rintro e w1 ⟨rfl, hb1⟩; have bw1 := below_next bw0 bw0.size hb1; clear bw0; have kH1 := kH0.below hb1 kH0.lt; clear kH0; have iA1 := iA0.behind hb1; clear iA0; have iD1 := iD0.behind hb1; clear iD0; have iE1 := iE0.behind hb1; clear iE0; obtain ⟨d0, d1, d2, d3, d4⟩ := kH1.five)
    | (go_at_call 15; refine (sanity_any _).mono ?_; rintro e w2 ⟨rfl, hb2⟩; have bw2 := below_next bw1 bw1.size hb2)
    | fail)
  go_ret
  exact ⟨ret_bool rfl, bw2⟩

set_option maxRecDepth 100000 in
set_option maxHeartbeats 1000000 in
theorem columnsLaw_o2 (C R B F : Int) (A : Option Addr) (cap : Nat) (cl : List Int) (D : Option Addr) (dap : Nat) (l : List Int) (E : Option Addr) (eap : Nat) (st : List Int) (w : World) (hB : B ≤ 9223372036854775807) (hcl : cl.length ≤ maxLen) (hll : l.length ≤ maxLen) (hsl : st.length ≤ maxLen) (hr : Ints w w.heap.size A cl) (hl : Ints w w.heap.size D l) (hst : Ints w w.heap.size E st) (hf : fewB C cl = true) (h2 : 210 < l.length) :
    Calls Try.prog 4 #[.agg #[.int .i64 C, .int .i64 R, .int .i64 B, .int .i64 F, .slice A cl.length cap], .slice D l.length dap, .slice E st.length eap] w fun e w' => e = .returned (.bool true) ∧ Below w.heap.size w w' := by
  have bw0 := below_new w (.cells #[.int .i64 C, .int .i64 R, .int .i64 B, .int .i64 F, .slice A cl.length cap] 24)
  have kH0 := Blk.new w 24 #[.int .i64 C, .int .i64 R, .int .i64 B, .int .i64 F, .slice A cl.length cap]
  have iA0 := hr.behind bw0
  have iD0 := hl.behind bw0
  have iE0 := hst.behind bw0
  have HF := Lib.hid hf
  clear hf
  have e1 : (210 : Int) < (l.length : Int) := by omega
  have e2 : decide ((210 : Int) < (l.length : Int)) = true := decide_eq_true e1
  go_enter Try.func4, Try.ntmps4
  go_wp2_with (first
    | (go_at_call 14; refine (few_any C R B F A cap cl _).mono ?_; rw [HF.out]; rintro e w1 ⟨rfl, hb1⟩; have bw1 := below_next bw0 bw0.size hb1; clear bw0; have kH1 := kH0.below hb1 kH0.lt; clear kH0; have iA1 := iA0.behind hb1; clear iA0; have iD1 := iD0.behind hb1; clear iD0; have iE1 := iE0.behind hb1; clear iE0; obtain ⟨d0, d1, d2, d3, d4⟩ := kH1.five)
    | (go_at_call 15; refine (sanity_any _).mono ?_; rintro e w2 ⟨rfl, hb2⟩; have bw2 := below_next bw1 bw1.size hb2)
    | fail)
  go_ret
  exact ⟨ret_bool rfl, bw2⟩

set_option maxRecDepth 100000 in
set_option maxHeartbeats 1000000 in
theorem columnsLaw_o3 (C R B F : Int) (A : Option Addr) (cap : Nat) (cl : List Int) (D : Option Addr) (dap : Nat) (l : List Int) (E : Option Addr) (eap : Nat) (st : List Int) (w : World) (hB : B ≤ 9223372036854775807) (hcl : cl.length ≤ maxLen) (hll : l.length ≤ maxLen) (hsl : st.length ≤ maxLen) (hr : Ints w w.heap.size A cl) (hl : Ints w w.heap.size D l) (hst : Ints w w.heap.size E st) (hf : fewB C cl = true) (h2 : l.length ≤ 210) (h3 : 210 < st.length) :
    Calls Try.prog 4 #[.agg #[.int .i64 C, .int .i64 R, .int .i64 B, .int .i64 F, .slice A cl.length cap], .slice D l.length dap, .slice E st.length eap] w fun e w' => e = .returned (.bool true) ∧ Below w.heap.size w w' := by
  have bw0 := below_new w (.cells #[.int .i64 C, .int .i64 R, .int .i64 B, .int .i64 F, .slice A cl.length cap] 24)
  have kH0 := Blk.new w 24 #[.int .i64 C, .int .i64 R, .int .i64 B, .int .i64 F, .slice A cl.length cap]
  have iA0 := hr.behind bw0
  have iD0 := hl.behind bw0
  have iE0 := hst.behind bw0
  have HF := Lib.hid hf
  clear hf
  have e1 : ¬ (210 : Int) < (l.length : Int) := by omega
  have e2 : decide ((210 : Int) < (l.length : Int)) = false := decide_eq_false e1
  have g1 : (210 : Int) < (st.length : Int) := by omega
  have g2 : decide ((210 : Int) < (st.length : Int)) = true := decide_eq_true g1
  go_enter Try.func4, Try.ntmps4
  go_wp2_with (first
    | (go_at_call 14; refine (few_any C R B F A cap cl _).mono ?_; rw [HF.out]; rintro e w1 ⟨rfl, hb1⟩; have bw1 := below_next bw0 bw0.size hb1; clear bw0; have kH1 := kH0.below hb1 kH0.lt; clear kH0; have iA1 := iA0.behind hb1; clear iA0; have iD1 := iD0.behind hb1; clear iD0; have iE1 := iE0.behind hb1; clear iE0; obtain ⟨d0, d1, d2, d3, d4⟩ := kH1.five)
    | (go_at_call 15; refine (sanity_any _).mono ?_; rintro e w2 ⟨rfl, hb2⟩; have bw2 := below_next bw1 bw1.size hb2)
    | fail)
  go_ret
  exact ⟨ret_bool rfl, bw2⟩

set_option maxRecDepth 100000 in
set_option maxHeartbeats 8000000 in
theorem columnsLaw_in (C R B F : Int) (A : Option Addr) (cap : Nat) (cl : List Int) (D : Option Addr) (dap : Nat) (l : List Int) (E : Option Addr) (eap : Nat) (st : List Int) (w : World) (hB : B ≤ 9223372036854775807) (hcl : cl.length ≤ maxLen) (hll : l.length ≤ maxLen) (hsl : st.length ≤ maxLen) (hr : Ints w w.heap.size A cl) (hl : Ints w w.heap.size D l) (hst : Ints w w.heap.size E st) (hf : fewB C cl = true) (h2 : l.length ≤ 210) (h3 : st.length ≤ 210) (L1 L2 L3 : List Int) (e1 e2 e3 C1 R1 B1 F1 : Int) (hl1 : L1.length ≤ 1000000) (hl2 : L2.length ≤ 1000000) (hl3 : L3.length ≤ 1000000) (c30 : ∀ W : World, Ints W W.heap.size A cl → Ints W W.heap.size D l → Calls Try.prog 30 #[.agg #[.int .i64 C, .int .i64 R, .int .i64 B, .int .i64 F, .slice A cl.length cap], .slice D l.length dap] W (RetInts2 W L1 e1)) (c31 : ∀ W : World, Ints W W.heap.size A cl → Ints W W.heap.size D l → Calls Try.prog 31 #[.agg #[.int .i64 C, .int .i64 R, .int .i64 B, .int .i64 F, .slice A cl.length cap], .slice D l.length dap] W (RetIntsE W L1 e1)) (c32 : ∀ W : World, Ints W W.heap.size A cl → Ints W W.heap.size D l → Ints W W.heap.size E st → Calls Try.prog 32 #[.agg #[.int .i64 C, .int .i64 R, .int .i64 B, .int .i64 F, .slice A cl.length cap], .slice D l.length dap, .slice E st.length eap] W (RetInts2 W L2 e2)) (c33 : ∀ W : World, Ints W W.heap.size A cl → Ints W W.heap.size D l → Ints W W.heap.size E st → Calls Try.prog 33 #[.agg #[.int .i64 C, .int .i64 R, .int .i64 B, .int .i64 F, .slice A cl.length cap], .slice D l.length dap, .slice E st.length eap] W (RetIntsE W L2 e2)) (c34 : ∀ W : World, Ints W W.heap.size A cl → Ints W W.heap.size E st → Calls Try.prog 34 #[.agg #[.int .i64 C, .int .i64 R, .int .i64 B, .int .i64 F, .slice A cl.length cap], .slice E st.length eap] W (RetHouse W C1 R1 B1 F1 L3 e3)) (c35 : ∀ W : World, Ints W W.heap.size A cl → Ints W W.heap.size E st → Calls Try.prog 35 #[.agg #[.int .i64 C, .int .i64 R, .int .i64 B, .int .i64 F, .slice A cl.length cap], .slice E st.length eap] W (RetMadeW W C1 R1 B1 F1 L3 e3)) :
    Calls Try.prog 4 #[.agg #[.int .i64 C, .int .i64 R, .int .i64 B, .int .i64 F, .slice A cl.length cap], .slice D l.length dap, .slice E st.length eap] w fun e w' => e = .returned (.bool true) ∧ Below w.heap.size w w' := by
  have bw0 := below_new w (.cells #[.int .i64 C, .int .i64 R, .int .i64 B, .int .i64 F, .slice A cl.length cap] 24)
  have kH0 := Blk.new w 24 #[.int .i64 C, .int .i64 R, .int .i64 B, .int .i64 F, .slice A cl.length cap]
  have iA0 := hr.behind bw0
  have iD0 := hl.behind bw0
  have iE0 := hst.behind bw0
  have HF := Lib.hid hf
  have H30 := Lib.hid c30
  have H31 := Lib.hid c31
  have H32 := Lib.hid c32
  have H33 := Lib.hid c33
  have H34 := Lib.hid c34
  have H35 := Lib.hid c35
  clear hf c30 c31 c32 c33 c34 c35
  have q1 : ¬ (210 : Int) < (l.length : Int) := by omega
  have q2 : decide ((210 : Int) < (l.length : Int)) = false := decide_eq_false q1
  have g1 : ¬ (210 : Int) < (st.length : Int) := by omega
  have g2 : decide ((210 : Int) < (st.length : Int)) = false := decide_eq_false g1
  go_enter Try.func4, Try.ntmps4
  go_wp2_with (first
    | (go_at_call 14; refine (few_any C R B F A cap cl _).mono ?_; rw [HF.out]; rintro e w1 ⟨rfl, hb1⟩; have bw1 := below_next bw0 bw0.size hb1; clear bw0; have kH1 := kH0.below hb1 kH0.lt; clear kH0; have iA1 := iA0.behind hb1; clear iA0; have iD1 := iD0.behind hb1; clear iD0; have iE1 := iE0.behind hb1; clear iE0; obtain ⟨d0, d1, d2, d3, d4⟩ := kH1.five)
    | (go_at_call 30; refine (H30.out _ iA1 iD1).mono ?_; rintro e w2 ⟨S, sap, rfl, s1, s2, iS2, hb2⟩; have bw2 := below_next bw1 bw1.size hb2; clear bw1; have kH2 := kH1.below hb2 kH1.lt; clear kH1; have iA2 := iA1.behind hb2; clear iA1; have iD2 := iD1.behind hb2; clear iD1; have iE2 := iE1.behind hb2; clear iE1; clear d0 d1 d2 d3 d4; obtain ⟨d0, d1, d2, d3, d4⟩ := kH2.five)
    | (go_at_call 31; refine (H31.out _ iA2 iD2).mono ?_; rintro e w3 ⟨Q, qap, rfl, p1, p2, iP3, hb3⟩; have bw3 := below_next bw2 bw2.size hb3; clear bw2; have kH3 := kH2.below hb3 kH2.lt; clear kH2; have iA3 := iA2.behind hb3; clear iA2; have iD3 := iD2.behind hb3; clear iD2; have iE3 := iE2.behind hb3; clear iE2; have iS3 := iS2.behind hb3; clear iS2; have hn4 := below_new w3 (.cells #[.slice Q L1.length qap, .int .i64 e1] 36); have bw4 := below_next bw3 bw3.size hn4; clear bw3; have kH4 := kH3.below hn4 kH3.lt; clear kH3; have iA4 := iA3.behind hn4; clear iA3; have iD4 := iD3.behind hn4; clear iD3; have iE4 := iE3.behind hn4; clear iE3; have iS4 := iS3.behind hn4; clear iS3; have iP4 := iP3.behind hn4; clear iP3; have kZ4 := Blk.new w3 36 #[.slice Q L1.length qap, .int .i64 e1]; clear d0 d1 d2 d3 d4; obtain ⟨d0, d1, d2, d3, d4⟩ := kH4.five)
    | (go_at_call 32; refine (H32.out _ iA4 iD4 iE4).mono ?_; rintro e w5 ⟨U, uap, rfl, u1, u2, iU5, hb5⟩; have bw5 := below_next bw4 bw4.size hb5; clear bw4; have kH5 := kH4.below hb5 kH4.lt; clear kH4; have iA5 := iA4.behind hb5; clear iA4; have iD5 := iD4.behind hb5; clear iD4; have iE5 := iE4.behind hb5; clear iE4; have iS5 := iS4.behind hb5; clear iS4; have iP5 := iP4.behind hb5; clear iP4; have kZ5 := kZ4.below hb5 kZ4.lt; clear kZ4; clear d0 d1 d2 d3 d4; obtain ⟨d0, d1, d2, d3, d4⟩ := kH5.five)
    | (go_at_call 33; refine (H33.out _ iA5 iD5 iE5).mono ?_; rintro e w6 ⟨V, vap, rfl, v1, v2, iV6, hb6⟩; have bw6 := below_next bw5 bw5.size hb6; clear bw5; have kH6 := kH5.below hb6 kH5.lt; clear kH5; have iA6 := iA5.behind hb6; clear iA5; have iD6 := iD5.behind hb6; clear iD5; have iE6 := iE5.behind hb6; clear iE5; have iS6 := iS5.behind hb6; clear iS5; have iP6 := iP5.behind hb6; clear iP5; have kZ6 := kZ5.below hb6 kZ5.lt; clear kZ5; have iU6 := iU5.behind hb6; clear iU5; have hn7 := below_new w6 (.cells #[.slice V L2.length vap, .int .i64 e2] 36); have bw7 := below_next bw6 bw6.size hn7; clear bw6; have kH7 := kH6.below hn7 kH6.lt; clear kH6; have iA7 := iA6.behind hn7; clear iA6; have iD7 := iD6.behind hn7; clear iD6; have iE7 := iE6.behind hn7; clear iE6; have iS7 := iS6.behind hn7; clear iS6; have iP7 := iP6.behind hn7; clear iP6; have kZ7 := kZ6.below hn7 kZ6.lt; clear kZ6; have iU7 := iU6.behind hn7; clear iU6; have iV7 := iV6.behind hn7; clear iV6; have kV7 := Blk.new w6 36 #[.slice V L2.length vap, .int .i64 e2]; clear d0 d1 d2 d3 d4; obtain ⟨d0, d1, d2, d3, d4⟩ := kH7.five)
    | (go_at_call 34; refine (H34.out _ iA7 iE7).mono ?_; rintro e w8 ⟨X, xap, rfl, x1, x2, iX8, hb8⟩; have bw8 := below_next bw7 bw7.size hb8; clear bw7; have kH8 := kH7.below hb8 kH7.lt; clear kH7; have iA8 := iA7.behind hb8; clear iA7; have iD8 := iD7.behind hb8; clear iD7; have iE8 := iE7.behind hb8; clear iE7; have iS8 := iS7.behind hb8; clear iS7; have iP8 := iP7.behind hb8; clear iP7; have kZ8 := kZ7.below hb8 kZ7.lt; clear kZ7; have iU8 := iU7.behind hb8; clear iU7; have iV8 := iV7.behind hb8; clear iV7; have kV8 := kV7.below hb8 kV7.lt; clear kV7; have hn9 := below_new w8 (.cells #[.int .i64 C1, .int .i64 R1, .int .i64 B1, .int .i64 F1, .slice X L3.length xap] 24); have bw9 := below_next bw8 bw8.size hn9; clear bw8; have kH9 := kH8.below hn9 kH8.lt; clear kH8; have iA9 := iA8.behind hn9; clear iA8; have iD9 := iD8.behind hn9; clear iD8; have iE9 := iE8.behind hn9; clear iE8; have iS9 := iS8.behind hn9; clear iS8; have iP9 := iP8.behind hn9; clear iP8; have kZ9 := kZ8.below hn9 kZ8.lt; clear kZ8; have iU9 := iU8.behind hn9; clear iU8; have iV9 := iV8.behind hn9; clear iV8; have kV9 := kV8.below hn9 kV8.lt; clear kV8; have iX9 := iX8.behind hn9; clear iX8; have kT9 := Blk.new w8 24 #[.int .i64 C1, .int .i64 R1, .int .i64 B1, .int .i64 F1, .slice X L3.length xap]; clear d0 d1 d2 d3 d4; obtain ⟨d0, d1, d2, d3, d4⟩ := kH9.five)
    | (go_at_call 35; refine (H35.out _ iA9 iE9).mono ?_; rintro e w10 ⟨Y, yap, rfl, iY10, hb10⟩; have bw10 := below_next bw9 bw9.size hb10; clear bw9; have kH10 := kH9.below hb10 kH9.lt; clear kH9; have iA10 := iA9.behind hb10; clear iA9; have iD10 := iD9.behind hb10; clear iD9; have iE10 := iE9.behind hb10; clear iE9; have iS10 := iS9.behind hb10; clear iS9; have iP10 := iP9.behind hb10; clear iP9; have kZ10 := kZ9.below hb10 kZ9.lt; clear kZ9; have iU10 := iU9.behind hb10; clear iU9; have iV10 := iV9.behind hb10; clear iV9; have kV10 := kV9.below hb10 kV9.lt; clear kV9; have iX10 := iX9.behind hb10; clear iX9; have kT10 := kT9.below hb10 kT9.lt; clear kT9; have hn11 := below_new w10 (.cells #[.int .i64 C1, .int .i64 R1, .int .i64 B1, .int .i64 F1, .slice Y L3.length yap, .int .i64 e3] 41); have bw11 := below_next bw10 bw10.size hn11; clear bw10; have kH11 := kH10.below hn11 kH10.lt; clear kH10; have iA11 := iA10.behind hn11; clear iA10; have iD11 := iD10.behind hn11; clear iD10; have iE11 := iE10.behind hn11; clear iE10; have iS11 := iS10.behind hn11; clear iS10; have iP11 := iP10.behind hn11; clear iP10; have kZ11 := kZ10.below hn11 kZ10.lt; clear kZ10; have iU11 := iU10.behind hn11; clear iU10; have iV11 := iV10.behind hn11; clear iV10; have kV11 := kV10.below hn11 kV10.lt; clear kV10; have iX11 := iX10.behind hn11; clear iX10; have kT11 := kT10.below hn11 kT10.lt; clear kT10; have iY11 := iY10.behind hn11; clear iY10; have kM11 := Blk.new w10 41 #[.int .i64 C1, .int .i64 R1, .int .i64 B1, .int .i64 F1, .slice Y L3.length yap, .int .i64 e3]; clear d0 d1 d2 d3 d4; obtain ⟨d0, d1, d2, d3, d4⟩ := kH11.five)
    | fail)
  clear d0 d1 d2 d3 d4
  go_at_call 15
  refine (sanity_any _).mono ?_
  rintro e w12 ⟨rfl, hb12⟩
  have bw12 := below_next bw11 bw11.size hb12
  clear bw11
  have kH12 := kH11.below hb12 kH11.lt
  clear kH11
  have iA12 := iA11.behind hb12
  clear iA11
  have iD12 := iD11.behind hb12
  clear iD11
  have iE12 := iE11.behind hb12
  clear iE11
  have iS12 := iS11.behind hb12
  clear iS11
  have iP12 := iP11.behind hb12
  clear iP11
  have kZ12 := kZ11.below hb12 kZ11.lt
  clear kZ11
  have iU12 := iU11.behind hb12
  clear iU11
  have iV12 := iV11.behind hb12
  clear iV11
  have kV12 := kV11.below hb12 kV11.lt
  clear kV11
  have iX12 := iX11.behind hb12
  clear iX11
  have kT12 := kT11.below hb12 kT11.lt
  clear kT11
  have iY12 := iY11.behind hb12
  clear iY11
  have kM12 := kM11.below hb12 kM11.lt
  clear kM11
  obtain ⟨z0, z1⟩ := And.intro (kZ12.cell 0) (kZ12.cell 1)
  obtain ⟨v0, v1⟩ := And.intro (kV12.cell 0) (kV12.cell 1)
  obtain ⟨x0, x1, x2, x3, x4⟩ := kT12.five
  have m0 := kM12.cell 0
  have m1 := kM12.cell 1
  have m2 := kM12.cell 2
  have m3 := kM12.cell 3
  have m4 := kM12.cell 4
  have m5 := kM12.cell 5
  go_wp2_with fail
  go_at_call 28
  refine (same_n _ iS12 iP12 rfl rfl hl1 rfl).mono ?_
  rintro e w13 ⟨rfl, hb13⟩
  clear z0 z1 v0 v1 x0 x1 x2 x3 x4 m0 m1 m2 m3 m4 m5
  have bw13 := below_next bw12 bw12.size hb13
  clear bw12
  have kH13 := kH12.below hb13 kH12.lt
  clear kH12
  have iA13 := iA12.behind hb13
  clear iA12
  have iD13 := iD12.behind hb13
  clear iD12
  have iE13 := iE12.behind hb13
  clear iE12
  have iS13 := iS12.behind hb13
  clear iS12
  have iP13 := iP12.behind hb13
  clear iP12
  have kZ13 := kZ12.below hb13 kZ12.lt
  clear kZ12
  have iU13 := iU12.behind hb13
  clear iU12
  have iV13 := iV12.behind hb13
  clear iV12
  have kV13 := kV12.below hb13 kV12.lt
  clear kV12
  have iX13 := iX12.behind hb13
  clear iX12
  have kT13 := kT12.below hb13 kT12.lt
  clear kT12
  have iY13 := iY12.behind hb13
  clear iY12
  have kM13 := kM12.below hb13 kM12.lt
  clear kM12
  obtain ⟨z0, z1⟩ := And.intro (kZ13.cell 0) (kZ13.cell 1)
  obtain ⟨v0, v1⟩ := And.intro (kV13.cell 0) (kV13.cell 1)
  obtain ⟨x0, x1, x2, x3, x4⟩ := kT13.five
  have m0 := kM13.cell 0
  have m1 := kM13.cell 1
  have m2 := kM13.cell 2
  have m3 := kM13.cell 3
  have m4 := kM13.cell 4
  have m5 := kM13.cell 5
  go_wp2_with fail
  go_at_call 28
  refine (same_n _ iU13 iV13 rfl rfl hl2 rfl).mono ?_
  rintro e w14 ⟨rfl, hb14⟩
  clear z0 z1 v0 v1 x0 x1 x2 x3 x4 m0 m1 m2 m3 m4 m5
  have bw14 := below_next bw13 bw13.size hb14
  clear bw13
  have kH14 := kH13.below hb14 kH13.lt
  clear kH13
  have iA14 := iA13.behind hb14
  clear iA13
  have iD14 := iD13.behind hb14
  clear iD13
  have iE14 := iE13.behind hb14
  clear iE13
  have iS14 := iS13.behind hb14
  clear iS13
  have iP14 := iP13.behind hb14
  clear iP13
  have kZ14 := kZ13.below hb14 kZ13.lt
  clear kZ13
  have iU14 := iU13.behind hb14
  clear iU13
  have iV14 := iV13.behind hb14
  clear iV13
  have kV14 := kV13.below hb14 kV13.lt
  clear kV13
  have iX14 := iX13.behind hb14
  clear iX13
  have kT14 := kT13.below hb14 kT13.lt
  clear kT13
  have iY14 := iY13.behind hb14
  clear iY13
  have kM14 := kM13.below hb14 kM13.lt
  clear kM13
  obtain ⟨z0, z1⟩ := And.intro (kZ14.cell 0) (kZ14.cell 1)
  obtain ⟨v0, v1⟩ := And.intro (kV14.cell 0) (kV14.cell 1)
  obtain ⟨x0, x1, x2, x3, x4⟩ := kT14.five
  have m0 := kM14.cell 0
  have m1 := kM14.cell 1
  have m2 := kM14.cell 2
  have m3 := kM14.cell 3
  have m4 := kM14.cell 4
  have m5 := kM14.cell 5
  go_wp2_with fail
  go_at_call 29
  refine (sameHouse_any C1 R1 B1 F1 X xap L3 L3 Y yap _ rfl hl3 iX14 iY14).mono ?_
  rintro e w15 ⟨rfl, hb15⟩
  clear z0 z1 v0 v1 x0 x1 x2 x3 x4 m0 m1 m2 m3 m4 m5
  have bw15 := below_next bw14 bw14.size hb15
  clear bw14
  have kH15 := kH14.below hb15 kH14.lt
  clear kH14
  have iA15 := iA14.behind hb15
  clear iA14
  have iD15 := iD14.behind hb15
  clear iD14
  have iE15 := iE14.behind hb15
  clear iE14
  have iS15 := iS14.behind hb15
  clear iS14
  have iP15 := iP14.behind hb15
  clear iP14
  have kZ15 := kZ14.below hb15 kZ14.lt
  clear kZ14
  have iU15 := iU14.behind hb15
  clear iU14
  have iV15 := iV14.behind hb15
  clear iV14
  have kV15 := kV14.below hb15 kV14.lt
  clear kV14
  have iX15 := iX14.behind hb15
  clear iX14
  have kT15 := kT14.below hb15 kT14.lt
  clear kT14
  have iY15 := iY14.behind hb15
  clear iY14
  have kM15 := kM14.below hb15 kM14.lt
  clear kM14
  obtain ⟨z0, z1⟩ := And.intro (kZ15.cell 0) (kZ15.cell 1)
  obtain ⟨v0, v1⟩ := And.intro (kV15.cell 0) (kV15.cell 1)
  obtain ⟨x0, x1, x2, x3, x4⟩ := kT15.five
  have m0 := kM15.cell 0
  have m1 := kM15.cell 1
  have m2 := kM15.cell 2
  have m3 := kM15.cell 3
  have m4 := kM15.cell 4
  have m5 := kM15.cell 5
  go_wp2_with fail
  go_ret
  exact ⟨ret_bool rfl, bw15⟩

theorem columnsLaw_any (C R B F : Int) (A : Option Addr) (cap : Nat) (cl : List Int) (D : Option Addr) (dap : Nat) (l : List Int) (E : Option Addr) (eap : Nat) (st : List Int) (w : World) (hB : B ≤ 9223372036854775807) (hcl : cl.length ≤ maxLen) (hll : l.length ≤ maxLen) (hsl : st.length ≤ maxLen) (hr : Ints w w.heap.size A cl) (hl : Ints w w.heap.size D l) (hst : Ints w w.heap.size E st) :
    Calls Try.prog 4 #[.agg #[.int .i64 C, .int .i64 R, .int .i64 B, .int .i64 F, .slice A cl.length cap], .slice D l.length dap, .slice E st.length eap] w fun e w' => e = .returned (.bool true) ∧ Below w.heap.size w w' := by
  cases hf : fewB C cl with
  | false => exact columnsLaw_o1 C R B F A cap cl D dap l E eap st w hB hcl hll hsl hr hl hst hf
  | true =>
    by_cases h2 : 210 < l.length
    · exact columnsLaw_o2 C R B F A cap cl D dap l E eap st w hB hcl hll hsl hr hl hst hf h2
    · by_cases h3 : 210 < st.length
      · exact columnsLaw_o3 C R B F A cap cl D dap l E eap st w hB hcl hll hsl hr hl hst hf (by omega) h3
      · have hc130 : cl.length ≤ 130 := (of_decide_eq_true hf).2
        have q1 : cl.length ≤ 1000000 := by omega
        have q2 : cl.length ≤ 9223372036854775807 := by omega
        have q3 : l.length ≤ 1000000 := by omega
        have q4 : l.length ≤ 9223372036854775807 := by omega
        have q5 : st.length ≤ 1000000 := by omega
        have q6 : st.length ≤ 9223372036854775807 := by omega
        have hcols : (if holesErr C R B F cl l = 0 then colsTo (isIn (colm C l)) C.toNat else []) = (if holesErr C R B F cl l = 0 then cols (isIn (colm C l)) else []) := by
          by_cases he : holesErr C R B F cl l = 0
          · rw [if_pos he, if_pos he, cols_same (holesErr_zero.1 he)]
          · rw [if_neg he, if_neg he]
        have hleft : (if leftErr C R B F cl l st = 0 then ((colsTo (isIn (colm C l)) C.toNat).filter fun x => !anyR C B F st x) else []) = leftL C R B F cl l st := by
          unfold leftL
          by_cases he : leftErr C R B F cl l st = 0
          · have hz : holesErr C R B F cl l = 0 := by
              unfold leftErr at he
              split at he
              · exact absurd he (by assumption)
              · rename_i h; simpa using h
            rw [if_pos he, if_pos he, left_same (holesErr_zero.1 hz)]
          · rw [if_neg he, if_neg he]
        have hclose : (if clErr C R B F cl st = 0 then shutsL C cl st else []) = (if clErr C R B F cl st = 0 then clL cl st else []) := by
          by_cases he : clErr C R B F cl st = 0
          · rw [if_pos he, if_pos he]
            have hok : Ok C R B F cl := Classical.byContradiction fun h => (clErr_bad st h).2 he
            rw [clErr_ok _ hok] at he
            split at he
            · cases he
            · split at he
              · rename_i hh; exact shutsL_same hok hh
              · cases he
          · rw [if_neg he, if_neg he]
        refine columnsLaw_in C R B F A cap cl D dap l E eap st w hB hcl hll hsl hr hl hst hf (by omega) (by omega) _ _ _ _ _ _ _ _ _ _ ?_ ?_ ?_ (fun W ha hd => columns30_any C R B F A cap cl D dap l W hB q2 q4 ha hd) (fun W ha hd => ?_) (fun W ha hd hs => left_any C R B F A cap cl D dap l E eap st W hB q2 q4 q6 ha hd hs) (fun W ha hd hs => ?_) (fun W ha hs => close_any C R B F A cap cl E eap st W hB q2 q6 ha hs) (fun W ha hs => ?_)
        · split
          · have : (cols (isIn (colm C l))).length ≤ 120 := colsTo_len _ _
            omega
          · simp
        · unfold leftL
          split
          · have : (cols (leftP C B F (isIn (colm C l)) st)).length ≤ 120 := colsTo_len _ _
            omega
          · simp
        · split
          · have := cmpt_len (srt (cl ++ st))
            rw [srt_len, List.length_append] at this
            unfold clL
            omega
          · simp
        · rw [← hcols]
          exact refColumns31_any C R B F A cap cl D dap l W q1 q3 ha hd
        · rw [← hleft]
          exact refLeft33_any C R B F A cap cl D dap l E eap st W q1 q3 q5 ha hd hs
        · rw [← hclose]
          exact refClose35_any C R B F A cap cl E eap st W q1 q5 ha hs

end Go.Proofs.Ytnjmkdgglpcfpaa
