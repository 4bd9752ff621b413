import Derived.Test.YtnjmkdgglpcfpaaD11
namespace Go.Proofs.Ytnjmkdgglpcfpaa
set_option linter.unusedSimpArgs false
set_option linter.unusedVariables false
open Go.RowKit

set_option maxRecDepth 100000 in
set_option maxHeartbeats 8000000 in
theorem reachLaw_d (C R B F : Int) (A : Option Addr) (cap : Nat) (cl : List Int) (D : Option Addr) (dap : Nat) (l : List Int) (k1 k2 : Int) (E : Option Addr) (eap : Nat) (st : List Int) (w : World) (hB : B ≤ 9223372036854775807) (hcl : cl.length ≤ maxLen) (hll : l.length ≤ maxLen) (hsl : st.length ≤ maxLen) (hr : Ints w w.heap.size A cl) (hl : Ints w w.heap.size D l) (hst : Ints w w.heap.size E st) (k10 : 0 ≤ k1) (k11 : k1 ≤ 255) (k20 : 0 ≤ k2) (k21 : k2 ≤ 255) (hs : someB C R B F cl l = true) (h20 : st.length ≤ 20) (hok : Ok C R B F cl) (N M O : Nat) (C1 R1 Bx1 Fx1 ce : Int) (cz : List Int) (HC1 : Hid (∀ W : World, Ints W W.heap.size A cl → Ints W W.heap.size D l → Calls Try.prog 37 #[.agg #[.int .i64 C, .int .i64 R, .int .i64 B, .int .i64 F, .slice A cl.length cap], .slice D l.length dap] W fun e w' => e = .returned (.tuple #[.int .i64 (N : Nat), .int .i64 5]) ∧ Below W.heap.size W w')) (HC2 : Hid (∀ W : World, Ints W W.heap.size A cl → Ints W W.heap.size D l → Calls Try.prog 37 #[.agg #[.int .i64 C, .int .i64 R, .int .i64 (B + (k1 % (C - B - F))), .int .i64 (F + (k2 % (C - (B + (k1 % (C - B - F))) - F))), .slice A cl.length cap], .slice D l.length dap] W fun e w' => e = .returned (.tuple #[.int .i64 (M : Nat), .int .i64 0]) ∧ Below W.heap.size W w')) (HCL : Hid (∀ W : World, Ints W W.heap.size A cl → Ints W W.heap.size E st → Calls Try.prog 34 #[.agg #[.int .i64 C, .int .i64 R, .int .i64 B, .int .i64 F, .slice A cl.length cap], .slice E st.length eap] W (RetHouse W C1 R1 Bx1 Fx1 cz ce))) (hce : ce ≠ 0) :
    Calls Try.prog 11 #[.agg #[.int .i64 C, .int .i64 R, .int .i64 B, .int .i64 F, .slice A cl.length cap], .slice D l.length dap, .int .u8 k1, .int .u8 k2, .slice E st.length eap] w fun e w' => e = .returned (.bool true) ∧ Below w.heap.size w w' := by
  have hc63 : cl.length ≤ 9223372036854775807 := Nat.le_trans hcl (by decide)
  have hl63 : l.length ≤ 9223372036854775807 := Nat.le_trans hll (by decide)
  have bw0 := below_new w (.cells #[.int .i64 C, .int .i64 R, .int .i64 B, .int .i64 F, .slice A cl.length cap] 24)
  have kH0 := Blk.new w 24 #[.int .i64 C, .int .i64 R, .int .i64 B, .int .i64 F, .slice A cl.length cap]
  have iA0 := hr.behind bw0
  have iD0 := hl.behind bw0
  have iE0 := hst.behind bw0
  clear hr hl hst
  have q1 := hok.c3
  have q2 := hok.c120
  have q3 := hok.b0
  have q4 := hok.f0
  have q5 := hok.bf
  have t1 : 0 ≤ (k1 % (C - B - F)) := Int.emod_nonneg _ (by omega)
  have t2 : (k1 % (C - B - F)) < C - B - F := Int.emod_lt_of_pos _ (by omega)
  have t3 : 0 ≤ (k2 % (C - (B + (k1 % (C - B - F))) - F)) := Int.emod_nonneg _ (by omega)
  have t4 : (k2 % (C - (B + (k1 % (C - B - F))) - F)) < C - (B + (k1 % (C - B - F))) - F := Int.emod_lt_of_pos _ (by omega)
  have wr1 : IntKind.i64.wrap (C - B) = C - B := IntWalk.i64_in _ (by omega)
  have wr2 : IntKind.i64.wrap (C - B - F) = C - B - F := IntWalk.i64_in _ (by omega)
  have wr3 : IntKind.i64.wrap (B + (k1 % (C - B - F))) = (B + (k1 % (C - B - F))) := IntWalk.i64_in _ (by omega)
  have wr4 : IntKind.i64.wrap (C - (B + (k1 % (C - B - F)))) = C - (B + (k1 % (C - B - F))) := IntWalk.i64_in _ (by omega)
  have wr5 : IntKind.i64.wrap (C - (B + (k1 % (C - B - F))) - F) = C - (B + (k1 % (C - B - F))) - F := IntWalk.i64_in _ (by omega)
  have wr6 : IntKind.i64.wrap (F + (k2 % (C - (B + (k1 % (C - B - F))) - F))) = (F + (k2 % (C - (B + (k1 % (C - B - F))) - F))) := IntWalk.i64_in _ (by omega)
  have z1 : (C - B - F == 0) = false := by simp; omega
  have z2 : (C - (B + (k1 % (C - B - F))) - F == 0) = false := by simp; omega
  have e1 : ¬ (20 : Int) < (st.length : Int) := by omega
  have e2 : decide ((20 : Int) < (st.length : Int)) = false := decide_eq_false e1
  have HS := Lib.hid hs
  clear hs hok
  have n1 : (ce == 0) = false := by simpa using hce
  have n2 : (ce != 0) = true := by simpa using hce
  clear hce
  go_enter Try.func11, Try.ntmps11
  go_wp2_with (first
      | (go_at_call 55; refine (some_any C R B F A cap cl D dap l _ hB hc63 iA0).mono ?_; rw [HS.out]; rintro e w1 ⟨rfl, hb1⟩; have bw1 := below_next bw0 bw0.size hb1; clear bw0; have kH1 := kH0.below hb1 kH0.lt; clear kH0; have iA1 := iA0.behind hb1; clear iA0; have iD1 := iD0.behind hb1; clear iD0; have iE1 := iE0.behind hb1; clear iE0; obtain ⟨d0, d1, d2, d3, d4⟩ := kH1.five)
      | (go_at_call 37; refine (HC1.out _ iA1 iD1).mono ?_; rintro e w2 ⟨rfl, hb2⟩; have bw2 := below_next bw1 bw1.size hb2; clear bw1; have kH2 := kH1.below hb2 kH1.lt; clear kH1; have iA2 := iA1.behind hb2; clear iA1; have iD2 := iD1.behind hb2; clear iD1; have iE2 := iE1.behind hb2; clear iE1; clear d0 d1 d2 d3 d4; obtain ⟨d0, d1, d2, d3, d4⟩ := kH2.five)
      | fail)
  have hn3 := below_new w2 (.cells #[.int .i64 C, .int .i64 R, .int .i64 B, .int .i64 F, .slice A cl.length cap] 24)
  have kW := Blk.new w2 24 #[.int .i64 C, .int .i64 R, .int .i64 B, .int .i64 F, .slice A cl.length cap]
  have kH3 := kH2.below hn3 kH2.lt
  have kW2 := kW.cell 2
  clear d0 d1 d2 d3 d4
  obtain ⟨d0, d1, d2, d3, d4⟩ := kH3.five
  have kW2f := kW.frozen 2
  go_region
  clear d0 d1 d2 d3 d4 kW2 kW2f kW kH3 hn3
  have hlt2 := kH2.lt
  obtain ⟨w3, he3, hn3, kW3⟩ : ∃ w3, w3 = ((w2.alloc (.cells #[.int .i64 C, .int .i64 R, .int .i64 (B + (k1 % (C - B - F))), .int .i64 F, .slice A cl.length cap] 24)).drew) ∧ Below w2.heap.size w2 w3 ∧ Blk w3 w2.heap.size 24 #[.int .i64 C, .int .i64 R, .int .i64 (B + (k1 % (C - B - F))), .int .i64 F, .slice A cl.length cap] := ⟨_, rfl, (below_new w2 (.cells #[.int .i64 C, .int .i64 R, .int .i64 (B + (k1 % (C - B - F))), .int .i64 F, .slice A cl.length cap] 24)).trans (Below.refl _ _).drew, Blk.new w2 24 #[.int .i64 C, .int .i64 R, .int .i64 (B + (k1 % (C - B - F))), .int .i64 F, .slice A cl.length cap]⟩
  rw [← he3]
  clear he3
  have kH3 := kH2.below hn3 hlt2
  obtain ⟨d0, d1, d2, d3, d4⟩ := kH3.five
  obtain ⟨e0, e1, e2, e3, e4⟩ := kW3.five
  have e5 := kW3.frozen 3
  go_wp2_with fail
  go_region
  obtain ⟨w4, he4, hn4, kW4, kH4⟩ : ∃ w4, w4 = ((w3.setCell ⟨w2.heap.size, 3, none⟩ (.int .i64 (F + (k2 % (C - (B + (k1 % (C - B - F))) - F))))).drew) ∧ Below w2.heap.size w2 w4 ∧ Blk w4 w2.heap.size 24 #[.int .i64 C, .int .i64 R, .int .i64 (B + (k1 % (C - B - F))), .int .i64 (F + (k2 % (C - (B + (k1 % (C - B - F))) - F))), .slice A cl.length cap] ∧ Blk w4 w.heap.size 24 #[.int .i64 C, .int .i64 R, .int .i64 B, .int .i64 F, .slice A cl.length cap] := ⟨_, rfl, (hn3.setCell (p := ⟨w2.heap.size, 3, none⟩) (Nat.le_refl _) _).drew, kW3.store 3 (.int .i64 (F + (k2 % (C - (B + (k1 % (C - B - F))) - F)))), kH3.far (p := ⟨w2.heap.size, 3, none⟩) (Nat.ne_of_lt hlt2) _⟩
  rw [← he4]
  clear he4
  have bw4 := below_next bw2 bw2.size hn4
  have iA4 := iA2.behind hn4
  have iD4 := iD2.behind hn4
  have iE4 := iE2.behind hn4
  clear hn3 hn4 bw2 kH2 iA2 iD2 iE2 kH3 kW3 d0 d1 d2 d3 d4 e0 e1 e2 e3 e4 e5 wr1 wr2 wr3 wr4 wr5 wr6 z1 z2 t1 t2 t3 t4 hlt2
  obtain ⟨d0, d1, d2, d3, d4⟩ := kH4.five
  obtain ⟨e0, e1, e2, e3, e4⟩ := kW4.five
  go_wp2_with (first
      | (go_at_call 37; refine (HC2.out _ iA4 iD4).mono ?_; rintro e w5 ⟨rfl, hb5⟩; have bw5 := below_next bw4 bw4.size hb5; clear bw4; have kH5 := kH4.below hb5 kH4.lt; clear kH4; have kW5 := kW4.below hb5 kW4.lt; clear kW4; have iA5 := iA4.behind hb5; clear iA4; have iD5 := iD4.behind hb5; clear iD4; have iE5 := iE4.behind hb5; clear iE4; clear d0 d1 d2 d3 d4; obtain ⟨d0, d1, d2, d3, d4⟩ := kH5.five)
      | (go_at_call 34; refine (HCL.out _ iA5 iE5).mono ?_; rintro e w6 ⟨X, xap, rfl, x1, x2, iX6, hb6⟩; have bw6 := below_next bw5 bw5.size hb6; clear bw5; have kH6 := kH5.below hb6 kH5.lt; clear kH5; have kW6 := kW5.below hb6 kW5.lt; clear kW5; have iA6 := iA5.behind hb6; clear iA5; have iD6 := iD5.behind hb6; clear iD5; have iE6 := iE5.behind hb6; clear iE5; have hn7 := below_new w6 (.cells #[.int .i64 C1, .int .i64 R1, .int .i64 Bx1, .int .i64 Fx1, .slice X cz.length xap] 24); have bw7 := below_next bw6 bw6.size hn7; clear bw6; have kH7 := kH6.below hn7 kH6.lt; clear kH6; have kW7 := kW6.below hn7 kW6.lt; clear kW6; have iA7 := iA6.behind hn7; clear iA6; have iD7 := iD6.behind hn7; clear iD6; have iE7 := iE6.behind hn7; clear iE6; have iX7 := iX6.behind hn7; clear iX6; have kT7 := Blk.new w6 24 #[.int .i64 C1, .int .i64 R1, .int .i64 Bx1, .int .i64 Fx1, .slice X cz.length xap]; clear d0 d1 d2 d3 d4; obtain ⟨d0, d1, d2, d3, d4⟩ := kH7.five)
      | (go_at_call 15; refine (sanity_any _).mono ?_; rintro e w8 ⟨rfl, hb8⟩; have bw8 := below_next bw7 bw7.size hb8)
      | fail)
  go_ret
  exact ⟨ret_bool rfl, bw8⟩

set_option maxRecDepth 100000 in
set_option maxHeartbeats 8000000 in
theorem reachLaw_e (C R B F : Int) (A : Option Addr) (cap : Nat) (cl : List Int) (D : Option Addr) (dap : Nat) (l : List Int) (k1 k2 : Int) (E : Option Addr) (eap : Nat) (st : List Int) (w : World) (hB : B ≤ 9223372036854775807) (hcl : cl.length ≤ maxLen) (hll : l.length ≤ maxLen) (hsl : st.length ≤ maxLen) (hr : Ints w w.heap.size A cl) (hl : Ints w w.heap.size D l) (hst : Ints w w.heap.size E st) (k10 : 0 ≤ k1) (k11 : k1 ≤ 255) (k20 : 0 ≤ k2) (k21 : k2 ≤ 255) (hs : someB C R B F cl l = true) (h20 : st.length ≤ 20) (hok : Ok C R B F cl) (N M O : Nat) (C1 R1 Bx1 Fx1 ce : Int) (cz : List Int) (HC1 : Hid (∀ W : World, Ints W W.heap.size A cl → Ints W W.heap.size D l → Calls Try.prog 37 #[.agg #[.int .i64 C, .int .i64 R, .int .i64 B, .int .i64 F, .slice A cl.length cap], .slice D l.length dap] W fun e w' => e = .returned (.tuple #[.int .i64 (N : Nat), .int .i64 5]) ∧ Below W.heap.size W w')) (HC2 : Hid (∀ W : World, Ints W W.heap.size A cl → Ints W W.heap.size D l → Calls Try.prog 37 #[.agg #[.int .i64 C, .int .i64 R, .int .i64 (B + (k1 % (C - B - F))), .int .i64 (F + (k2 % (C - (B + (k1 % (C - B - F))) - F))), .slice A cl.length cap], .slice D l.length dap] W fun e w' => e = .returned (.tuple #[.int .i64 (M : Nat), .int .i64 0]) ∧ Below W.heap.size W w')) (HCL : Hid (∀ W : World, Ints W W.heap.size A cl → Ints W W.heap.size E st → Calls Try.prog 34 #[.agg #[.int .i64 C, .int .i64 R, .int .i64 B, .int .i64 F, .slice A cl.length cap], .slice E st.length eap] W (RetHouse W C R B F cz 0))) (HC3 : Hid (∀ (X : Option Addr) (xap : Nat) (W : World), Ints W W.heap.size X cz → Ints W W.heap.size D l → Calls Try.prog 37 #[.agg #[.int .i64 C, .int .i64 R, .int .i64 B, .int .i64 F, .slice X cz.length xap], .slice D l.length dap] W fun e w' => e = .returned (.tuple #[.int .i64 (O : Nat), .int .i64 5]) ∧ Below W.heap.size W w')) :
    Calls Try.prog 11 #[.agg #[.int .i64 C, .int .i64 R, .int .i64 B, .int .i64 F, .slice A cl.length cap], .slice D l.length dap, .int .u8 k1, .int .u8 k2, .slice E st.length eap] w fun e w' => e = .returned (.bool true) ∧ Below w.heap.size w w' := by
  have hc63 : cl.length ≤ 9223372036854775807 := Nat.le_trans hcl (by decide)
  have hl63 : l.length ≤ 9223372036854775807 := Nat.le_trans hll (by decide)
  have bw0 := below_new w (.cells #[.int .i64 C, .int .i64 R, .int .i64 B, .int .i64 F, .slice A cl.length cap] 24)
  have kH0 := Blk.new w 24 #[.int .i64 C, .int .i64 R, .int .i64 B, .int .i64 F, .slice A cl.length cap]
  have iA0 := hr.behind bw0
  have iD0 := hl.behind bw0
  have iE0 := hst.behind bw0
  clear hr hl hst
  have q1 := hok.c3
  have q2 := hok.c120
  have q3 := hok.b0
  have q4 := hok.f0
  have q5 := hok.bf
  have t1 : 0 ≤ (k1 % (C - B - F)) := Int.emod_nonneg _ (by omega)
  have t2 : (k1 % (C - B - F)) < C - B - F := Int.emod_lt_of_pos _ (by omega)
  have t3 : 0 ≤ (k2 % (C - (B + (k1 % (C - B - F))) - F)) := Int.emod_nonneg _ (by omega)
  have t4 : (k2 % (C - (B + (k1 % (C - B - F))) - F)) < C - (B + (k1 % (C - B - F))) - F := Int.emod_lt_of_pos _ (by omega)
  have wr1 : IntKind.i64.wrap (C - B) = C - B := IntWalk.i64_in _ (by omega)
  have wr2 : IntKind.i64.wrap (C - B - F) = C - B - F := IntWalk.i64_in _ (by omega)
  have wr3 : IntKind.i64.wrap (B + (k1 % (C - B - F))) = (B + (k1 % (C - B - F))) := IntWalk.i64_in _ (by omega)
  have wr4 : IntKind.i64.wrap (C - (B + (k1 % (C - B - F)))) = C - (B + (k1 % (C - B - F))) := IntWalk.i64_in _ (by omega)
  have wr5 : IntKind.i64.wrap (C - (B + (k1 % (C - B - F))) - F) = C - (B + (k1 % (C - B - F))) - F := IntWalk.i64_in _ (by omega)
  have wr6 : IntKind.i64.wrap (F + (k2 % (C - (B + (k1 % (C - B - F))) - F))) = (F + (k2 % (C - (B + (k1 % (C - B - F))) - F))) := IntWalk.i64_in _ (by omega)
  have z1 : (C - B - F == 0) = false := by simp; omega
  have z2 : (C - (B + (k1 % (C - B - F))) - F == 0) = false := by simp; omega
  have e1 : ¬ (20 : Int) < (st.length : Int) := by omega
  have e2 : decide ((20 : Int) < (st.length : Int)) = false := decide_eq_false e1
  have HS := Lib.hid hs
  clear hs hok
  go_enter Try.func11, Try.ntmps11
  go_wp2_with (first
      | (go_at_call 55; refine (some_any C R B F A cap cl D dap l _ hB hc63 iA0).mono ?_; rw [HS.out]; rintro e w1 ⟨rfl, hb1⟩; have bw1 := below_next bw0 bw0.size hb1; clear bw0; have kH1 := kH0.below hb1 kH0.lt; clear kH0; have iA1 := iA0.behind hb1; clear iA0; have iD1 := iD0.behind hb1; clear iD0; have iE1 := iE0.behind hb1; clear iE0; obtain ⟨d0, d1, d2, d3, d4⟩ := kH1.five)
      | (go_at_call 37; refine (HC1.out _ iA1 iD1).mono ?_; rintro e w2 ⟨rfl, hb2⟩; have bw2 := below_next bw1 bw1.size hb2; clear bw1; have kH2 := kH1.below hb2 kH1.lt; clear kH1; have iA2 := iA1.behind hb2; clear iA1; have iD2 := iD1.behind hb2; clear iD1; have iE2 := iE1.behind hb2; clear iE1; clear d0 d1 d2 d3 d4; obtain ⟨d0, d1, d2, d3, d4⟩ := kH2.five)
      | fail)
  have hn3 := below_new w2 (.cells #[.int .i64 C, .int .i64 R, .int .i64 B, .int .i64 F, .slice A cl.length cap] 24)
  have kW := Blk.new w2 24 #[.int .i64 C, .int .i64 R, .int .i64 B, .int .i64 F, .slice A cl.length cap]
  have kH3 := kH2.below hn3 kH2.lt
  have kW2 := kW.cell 2
  clear d0 d1 d2 d3 d4
  obtain ⟨d0, d1, d2, d3, d4⟩ := kH3.five
  have kW2f := kW.frozen 2
  go_region
  clear d0 d1 d2 d3 d4 kW2 kW2f kW kH3 hn3
  have hlt2 := kH2.lt
  obtain ⟨w3, he3, hn3, kW3⟩ : ∃ w3, w3 = ((w2.alloc (.cells #[.int .i64 C, .int .i64 R, .int .i64 (B + (k1 % (C - B - F))), .int .i64 F, .slice A cl.length cap] 24)).drew) ∧ Below w2.heap.size w2 w3 ∧ Blk w3 w2.heap.size 24 #[.int .i64 C, .int .i64 R, .int .i64 (B + (k1 % (C - B - F))), .int .i64 F, .slice A cl.length cap] := ⟨_, rfl, (below_new w2 (.cells #[.int .i64 C, .int .i64 R, .int .i64 (B + (k1 % (C - B - F))), .int .i64 F, .slice A cl.length cap] 24)).trans (Below.refl _ _).drew, Blk.new w2 24 #[.int .i64 C, .int .i64 R, .int .i64 (B + (k1 % (C - B - F))), .int .i64 F, .slice A cl.length cap]⟩
  rw [← he3]
  clear he3
  have kH3 := kH2.below hn3 hlt2
  obtain ⟨d0, d1, d2, d3, d4⟩ := kH3.five
  obtain ⟨e0, e1, e2, e3, e4⟩ := kW3.five
  have e5 := kW3.frozen 3
  go_wp2_with fail
  go_region
  obtain ⟨w4, he4, hn4, kW4, kH4⟩ : ∃ w4, w4 = ((w3.setCell ⟨w2.heap.size, 3, none⟩ (.int .i64 (F + (k2 % (C - (B + (k1 % (C - B - F))) - F))))).drew) ∧ Below w2.heap.size w2 w4 ∧ Blk w4 w2.heap.size 24 #[.int .i64 C, .int .i64 R, .int .i64 (B + (k1 % (C - B - F))), .int .i64 (F + (k2 % (C - (B + (k1 % (C - B - F))) - F))), .slice A cl.length cap] ∧ Blk w4 w.heap.size 24 #[.int .i64 C, .int .i64 R, .int .i64 B, .int .i64 F, .slice A cl.length cap] := ⟨_, rfl, (hn3.setCell (p := ⟨w2.heap.size, 3, none⟩) (Nat.le_refl _) _).drew, kW3.store 3 (.int .i64 (F + (k2 % (C - (B + (k1 % (C - B - F))) - F)))), kH3.far (p := ⟨w2.heap.size, 3, none⟩) (Nat.ne_of_lt hlt2) _⟩
  rw [← he4]
  clear he4
  have bw4 := below_next bw2 bw2.size hn4
  have iA4 := iA2.behind hn4
  have iD4 := iD2.behind hn4
  have iE4 := iE2.behind hn4
  clear hn3 hn4 bw2 kH2 iA2 iD2 iE2 kH3 kW3 d0 d1 d2 d3 d4 e0 e1 e2 e3 e4 e5 wr1 wr2 wr3 wr4 wr5 wr6 z1 z2 t1 t2 t3 t4 hlt2
  obtain ⟨d0, d1, d2, d3, d4⟩ := kH4.five
  obtain ⟨e0, e1, e2, e3, e4⟩ := kW4.five
  go_wp2_with (first
      | (go_at_call 37; refine (HC2.out _ iA4 iD4).mono ?_; rintro e w5 ⟨rfl, hb5⟩; have bw5 := below_next bw4 bw4.size hb5; clear bw4; have kH5 := kH4.below hb5 kH4.lt; clear kH4; have kW5 := kW4.below hb5 kW4.lt; clear kW4; have iA5 := iA4.behind hb5; clear iA4; have iD5 := iD4.behind hb5; clear iD4; have iE5 := iE4.behind hb5; clear iE4; clear d0 d1 d2 d3 d4; obtain ⟨d0, d1, d2, d3, d4⟩ := kH5.five)
      | (go_at_call 34; refine (HCL.out _ iA5 iE5).mono ?_; rintro e w6 ⟨X, xap, rfl, x1, x2, iX6, hb6⟩; have bw6 := below_next bw5 bw5.size hb6; clear bw5; have kH6 := kH5.below hb6 kH5.lt; clear kH5; have kW6 := kW5.below hb6 kW5.lt; clear kW5; have iA6 := iA5.behind hb6; clear iA5; have iD6 := iD5.behind hb6; clear iD5; have iE6 := iE5.behind hb6; clear iE5; have hn7 := below_new w6 (.cells #[.int .i64 C, .int .i64 R, .int .i64 B, .int .i64 F, .slice X cz.length xap] 24); have bw7 := below_next bw6 bw6.size hn7; clear bw6; have kH7 := kH6.below hn7 kH6.lt; clear kH6; have kW7 := kW6.below hn7 kW6.lt; clear kW6; have iA7 := iA6.behind hn7; clear iA6; have iD7 := iD6.behind hn7; clear iD6; have iE7 := iE6.behind hn7; clear iE6; have iX7 := iX6.behind hn7; clear iX6; have kT7 := Blk.new w6 24 #[.int .i64 C, .int .i64 R, .int .i64 B, .int .i64 F, .slice X cz.length xap]; clear d0 d1 d2 d3 d4; obtain ⟨d0, d1, d2, d3, d4⟩ := kH7.five; obtain ⟨f0, f1, f2, f3, f4⟩ := kT7.five)
      | (go_at_call 37; refine (HC3.out X xap _ iX7 iD7).mono ?_; rintro e w8 ⟨rfl, hb8⟩; have bw8 := below_next bw7 bw7.size hb8; have kH8 := kH7.below hb8 kH7.lt; clear d0 d1 d2 d3 d4; obtain ⟨d0, d1, d2, d3, d4⟩ := kH8.five)
      | (go_at_call 15; refine (sanity_any _).mono ?_; rintro e w9 ⟨rfl, hb9⟩; have bw9 := below_next bw8 bw8.size hb9)
      | fail)
  go_ret
  exact ⟨ret_bool rfl, bw9⟩

set_option maxRecDepth 100000 in
set_option maxHeartbeats 8000000 in
theorem reachLaw_f (C R B F : Int) (A : Option Addr) (cap : Nat) (cl : List Int) (D : Option Addr) (dap : Nat) (l : List Int) (k1 k2 : Int) (E : Option Addr) (eap : Nat) (st : List Int) (w : World) (hB : B ≤ 9223372036854775807) (hcl : cl.length ≤ maxLen) (hll : l.length ≤ maxLen) (hsl : st.length ≤ maxLen) (hr : Ints w w.heap.size A cl) (hl : Ints w w.heap.size D l) (hst : Ints w w.heap.size E st) (k10 : 0 ≤ k1) (k11 : k1 ≤ 255) (k20 : 0 ≤ k2) (k21 : k2 ≤ 255) (hs : someB C R B F cl l = true) (h20 : st.length ≤ 20) (hok : Ok C R B F cl) (N M O : Nat) (C1 R1 Bx1 Fx1 ce : Int) (cz : List Int) (HC1 : Hid (∀ W : World, Ints W W.heap.size A cl → Ints W W.heap.size D l → Calls Try.prog 37 #[.agg #[.int .i64 C, .int .i64 R, .int .i64 B, .int .i64 F, .slice A cl.length cap], .slice D l.length dap] W fun e w' => e = .returned (.tuple #[.int .i64 (N : Nat), .int .i64 5]) ∧ Below W.heap.size W w')) (HC2 : Hid (∀ W : World, Ints W W.heap.size A cl → Ints W W.heap.size D l → Calls Try.prog 37 #[.agg #[.int .i64 C, .int .i64 R, .int .i64 (B + (k1 % (C - B - F))), .int .i64 (F + (k2 % (C - (B + (k1 % (C - B - F))) - F))), .slice A cl.length cap], .slice D l.length dap] W fun e w' => e = .returned (.tuple #[.int .i64 (M : Nat), .int .i64 5]) ∧ Below W.heap.size W w')) (HCL : Hid (∀ W : World, Ints W W.heap.size A cl → Ints W W.heap.size E st → Calls Try.prog 34 #[.agg #[.int .i64 C, .int .i64 R, .int .i64 B, .int .i64 F, .slice A cl.length cap], .slice E st.length eap] W (RetHouse W C1 R1 Bx1 Fx1 cz ce))) (hce : ce ≠ 0) :
    Calls Try.prog 11 #[.agg #[.int .i64 C, .int .i64 R, .int .i64 B, .int .i64 F, .slice A cl.length cap], .slice D l.length dap, .int .u8 k1, .int .u8 k2, .slice E st.length eap] w fun e w' => e = .returned (.bool true) ∧ Below w.heap.size w w' := by
  have hc63 : cl.length ≤ 9223372036854775807 := Nat.le_trans hcl (by decide)
  have hl63 : l.length ≤ 9223372036854775807 := Nat.le_trans hll (by decide)
  have bw0 := below_new w (.cells #[.int .i64 C, .int .i64 R, .int .i64 B, .int .i64 F, .slice A cl.length cap] 24)
  have kH0 := Blk.new w 24 #[.int .i64 C, .int .i64 R, .int .i64 B, .int .i64 F, .slice A cl.length cap]
  have iA0 := hr.behind bw0
  have iD0 := hl.behind bw0
  have iE0 := hst.behind bw0
  clear hr hl hst
  have q1 := hok.c3
  have q2 := hok.c120
  have q3 := hok.b0
  have q4 := hok.f0
  have q5 := hok.bf
  have t1 : 0 ≤ (k1 % (C - B - F)) := Int.emod_nonneg _ (by omega)
  have t2 : (k1 % (C - B - F)) < C - B - F := Int.emod_lt_of_pos _ (by omega)
  have t3 : 0 ≤ (k2 % (C - (B + (k1 % (C - B - F))) - F)) := Int.emod_nonneg _ (by omega)
  have t4 : (k2 % (C - (B + (k1 % (C - B - F))) - F)) < C - (B + (k1 % (C - B - F))) - F := Int.emod_lt_of_pos _ (by omega)
  have wr1 : IntKind.i64.wrap (C - B) = C - B := IntWalk.i64_in _ (by omega)
  have wr2 : IntKind.i64.wrap (C - B - F) = C - B - F := IntWalk.i64_in _ (by omega)
  have wr3 : IntKind.i64.wrap (B + (k1 % (C - B - F))) = (B + (k1 % (C - B - F))) := IntWalk.i64_in _ (by omega)
  have wr4 : IntKind.i64.wrap (C - (B + (k1 % (C - B - F)))) = C - (B + (k1 % (C - B - F))) := IntWalk.i64_in _ (by omega)
  have wr5 : IntKind.i64.wrap (C - (B + (k1 % (C - B - F))) - F) = C - (B + (k1 % (C - B - F))) - F := IntWalk.i64_in _ (by omega)
  have wr6 : IntKind.i64.wrap (F + (k2 % (C - (B + (k1 % (C - B - F))) - F))) = (F + (k2 % (C - (B + (k1 % (C - B - F))) - F))) := IntWalk.i64_in _ (by omega)
  have z1 : (C - B - F == 0) = false := by simp; omega
  have z2 : (C - (B + (k1 % (C - B - F))) - F == 0) = false := by simp; omega
  have e1 : ¬ (20 : Int) < (st.length : Int) := by omega
  have e2 : decide ((20 : Int) < (st.length : Int)) = false := decide_eq_false e1
  have HS := Lib.hid hs
  clear hs hok
  have n1 : (ce == 0) = false := by simpa using hce
  have n2 : (ce != 0) = true := by simpa using hce
  clear hce
  go_enter Try.func11, Try.ntmps11
  go_wp2_with (first
      | (go_at_call 55; refine (some_any C R B F A cap cl D dap l _ hB hc63 iA0).mono ?_; rw [HS.out]; rintro e w1 ⟨rfl, hb1⟩; have bw1 := below_next bw0 bw0.size hb1; clear bw0; have kH1 := kH0.below hb1 kH0.lt; clear kH0; have iA1 := iA0.behind hb1; clear iA0; have iD1 := iD0.behind hb1; clear iD0; have iE1 := iE0.behind hb1; clear iE0; obtain ⟨d0, d1, d2, d3, d4⟩ := kH1.five)
      | (go_at_call 37; refine (HC1.out _ iA1 iD1).mono ?_; rintro e w2 ⟨rfl, hb2⟩; have bw2 := below_next bw1 bw1.size hb2; clear bw1; have kH2 := kH1.below hb2 kH1.lt; clear kH1; have iA2 := iA1.behind hb2; clear iA1; have iD2 := iD1.behind hb2; clear iD1; have iE2 := iE1.behind hb2; clear iE1; clear d0 d1 d2 d3 d4; obtain ⟨d0, d1, d2, d3, d4⟩ := kH2.five)
      | fail)
  have hn3 := below_new w2 (.cells #[.int .i64 C, .int .i64 R, .int .i64 B, .int .i64 F, .slice A cl.length cap] 24)
  have kW := Blk.new w2 24 #[.int .i64 C, .int .i64 R, .int .i64 B, .int .i64 F, .slice A cl.length cap]
  have kH3 := kH2.below hn3 kH2.lt
  have kW2 := kW.cell 2
  clear d0 d1 d2 d3 d4
  obtain ⟨d0, d1, d2, d3, d4⟩ := kH3.five
  have kW2f := kW.frozen 2
  go_region
  clear d0 d1 d2 d3 d4 kW2 kW2f kW kH3 hn3
  have hlt2 := kH2.lt
  obtain ⟨w3, he3, hn3, kW3⟩ : ∃ w3, w3 = ((w2.alloc (.cells #[.int .i64 C, .int .i64 R, .int .i64 (B + (k1 % (C - B - F))), .int .i64 F, .slice A cl.length cap] 24)).drew) ∧ Below w2.heap.size w2 w3 ∧ Blk w3 w2.heap.size 24 #[.int .i64 C, .int .i64 R, .int .i64 (B + (k1 % (C - B - F))), .int .i64 F, .slice A cl.length cap] := ⟨_, rfl, (below_new w2 (.cells #[.int .i64 C, .int .i64 R, .int .i64 (B + (k1 % (C - B - F))), .int .i64 F, .slice A cl.length cap] 24)).trans (Below.refl _ _).drew, Blk.new w2 24 #[.int .i64 C, .int .i64 R, .int .i64 (B + (k1 % (C - B - F))), .int .i64 F, .slice A cl.length cap]⟩
  rw [← he3]
  clear he3
  have kH3 := kH2.below hn3 hlt2
  obtain ⟨d0, d1, d2, d3, d4⟩ := kH3.five
  obtain ⟨e0, e1, e2, e3, e4⟩ := kW3.five
  have e5 := kW3.frozen 3
  go_wp2_with fail
  go_region
  obtain ⟨w4, he4, hn4, kW4, kH4⟩ : ∃ w4, w4 = ((w3.setCell ⟨w2.heap.size, 3, none⟩ (.int .i64 (F + (k2 % (C - (B + (k1 % (C - B - F))) - F))))).drew) ∧ Below w2.heap.size w2 w4 ∧ Blk w4 w2.heap.size 24 #[.int .i64 C, .int .i64 R, .int .i64 (B + (k1 % (C - B - F))), .int .i64 (F + (k2 % (C - (B + (k1 % (C - B - F))) - F))), .slice A cl.length cap] ∧ Blk w4 w.heap.size 24 #[.int .i64 C, .int .i64 R, .int .i64 B, .int .i64 F, .slice A cl.length cap] := ⟨_, rfl, (hn3.setCell (p := ⟨w2.heap.size, 3, none⟩) (Nat.le_refl _) _).drew, kW3.store 3 (.int .i64 (F + (k2 % (C - (B + (k1 % (C - B - F))) - F)))), kH3.far (p := ⟨w2.heap.size, 3, none⟩) (Nat.ne_of_lt hlt2) _⟩
  rw [← he4]
  clear he4
  have bw4 := below_next bw2 bw2.size hn4
  have iA4 := iA2.behind hn4
  have iD4 := iD2.behind hn4
  have iE4 := iE2.behind hn4
  clear hn3 hn4 bw2 kH2 iA2 iD2 iE2 kH3 kW3 d0 d1 d2 d3 d4 e0 e1 e2 e3 e4 e5 wr1 wr2 wr3 wr4 wr5 wr6 z1 z2 t1 t2 t3 t4 hlt2
  obtain ⟨d0, d1, d2, d3, d4⟩ := kH4.five
  obtain ⟨e0, e1, e2, e3, e4⟩ := kW4.five
  go_wp2_with (first
      | (go_at_call 37; refine (HC2.out _ iA4 iD4).mono ?_; rintro e w5 ⟨rfl, hb5⟩; have bw5 := below_next bw4 bw4.size hb5; clear bw4; have kH5 := kH4.below hb5 kH4.lt; clear kH4; have kW5 := kW4.below hb5 kW4.lt; clear kW4; have iA5 := iA4.behind hb5; clear iA4; have iD5 := iD4.behind hb5; clear iD4; have iE5 := iE4.behind hb5; clear iE4; clear d0 d1 d2 d3 d4; obtain ⟨d0, d1, d2, d3, d4⟩ := kH5.five)
      | (go_at_call 34; refine (HCL.out _ iA5 iE5).mono ?_; rintro e w6 ⟨X, xap, rfl, x1, x2, iX6, hb6⟩; have bw6 := below_next bw5 bw5.size hb6; clear bw5; have kH6 := kH5.below hb6 kH5.lt; clear kH5; have kW6 := kW5.below hb6 kW5.lt; clear kW5; have iA6 := iA5.behind hb6; clear iA5; have iD6 := iD5.behind hb6; clear iD5; have iE6 := iE5.behind hb6; clear iE5; have hn7 := below_new w6 (.cells #[.int .i64 C1, .int .i64 R1, .int .i64 Bx1, .int .i64 Fx1, .slice X cz.length xap] 24); have bw7 := below_next bw6 bw6.size hn7; clear bw6; have kH7 := kH6.below hn7 kH6.lt; clear kH6; have kW7 := kW6.below hn7 kW6.lt; clear kW6; have iA7 := iA6.behind hn7; clear iA6; have iD7 := iD6.behind hn7; clear iD6; have iE7 := iE6.behind hn7; clear iE6; have iX7 := iX6.behind hn7; clear iX6; have kT7 := Blk.new w6 24 #[.int .i64 C1, .int .i64 R1, .int .i64 Bx1, .int .i64 Fx1, .slice X cz.length xap]; clear d0 d1 d2 d3 d4; obtain ⟨d0, d1, d2, d3, d4⟩ := kH7.five)
      | (go_at_call 15; refine (sanity_any _).mono ?_; rintro e w8 ⟨rfl, hb8⟩; have bw8 := below_next bw7 bw7.size hb8)
      | fail)
  go_ret
  exact ⟨ret_bool rfl, bw8⟩

set_option maxRecDepth 100000 in
set_option maxHeartbeats 8000000 in
theorem reachLaw_g (C R B F : Int) (A : Option Addr) (cap : Nat) (cl : List Int) (D : Option Addr) (dap : Nat) (l : List Int) (k1 k2 : Int) (E : Option Addr) (eap : Nat) (st : List Int) (w : World) (hB : B ≤ 9223372036854775807) (hcl : cl.length ≤ maxLen) (hll : l.length ≤ maxLen) (hsl : st.length ≤ maxLen) (hr : Ints w w.heap.size A cl) (hl : Ints w w.heap.size D l) (hst : Ints w w.heap.size E st) (k10 : 0 ≤ k1) (k11 : k1 ≤ 255) (k20 : 0 ≤ k2) (k21 : k2 ≤ 255) (hs : someB C R B F cl l = true) (h20 : st.length ≤ 20) (hok : Ok C R B F cl) (N M O : Nat) (C1 R1 Bx1 Fx1 ce : Int) (cz : List Int) (HC1 : Hid (∀ W : World, Ints W W.heap.size A cl → Ints W W.heap.size D l → Calls Try.prog 37 #[.agg #[.int .i64 C, .int .i64 R, .int .i64 B, .int .i64 F, .slice A cl.length cap], .slice D l.length dap] W fun e w' => e = .returned (.tuple #[.int .i64 (N : Nat), .int .i64 5]) ∧ Below W.heap.size W w')) (HC2 : Hid (∀ W : World, Ints W W.heap.size A cl → Ints W W.heap.size D l → Calls Try.prog 37 #[.agg #[.int .i64 C, .int .i64 R, .int .i64 (B + (k1 % (C - B - F))), .int .i64 (F + (k2 % (C - (B + (k1 % (C - B - F))) - F))), .slice A cl.length cap], .slice D l.length dap] W fun e w' => e = .returned (.tuple #[.int .i64 (M : Nat), .int .i64 5]) ∧ Below W.heap.size W w')) (HCL : Hid (∀ W : World, Ints W W.heap.size A cl → Ints W W.heap.size E st → Calls Try.prog 34 #[.agg #[.int .i64 C, .int .i64 R, .int .i64 B, .int .i64 F, .slice A cl.length cap], .slice E st.length eap] W (RetHouse W C R B F cz 0))) (HC3 : Hid (∀ (X : Option Addr) (xap : Nat) (W : World), Ints W W.heap.size X cz → Ints W W.heap.size D l → Calls Try.prog 37 #[.agg #[.int .i64 C, .int .i64 R, .int .i64 B, .int .i64 F, .slice X cz.length xap], .slice D l.length dap] W fun e w' => e = .returned (.tuple #[.int .i64 (O : Nat), .int .i64 5]) ∧ Below W.heap.size W w')) :
    Calls Try.prog 11 #[.agg #[.int .i64 C, .int .i64 R, .int .i64 B, .int .i64 F, .slice A cl.length cap], .slice D l.length dap, .int .u8 k1, .int .u8 k2, .slice E st.length eap] w fun e w' => e = .returned (.bool true) ∧ Below w.heap.size w w' := by
  have hc63 : cl.length ≤ 9223372036854775807 := Nat.le_trans hcl (by decide)
  have hl63 : l.length ≤ 9223372036854775807 := Nat.le_trans hll (by decide)
  have bw0 := below_new w (.cells #[.int .i64 C, .int .i64 R, .int .i64 B, .int .i64 F, .slice A cl.length cap] 24)
  have kH0 := Blk.new w 24 #[.int .i64 C, .int .i64 R, .int .i64 B, .int .i64 F, .slice A cl.length cap]
  have iA0 := hr.behind bw0
  have iD0 := hl.behind bw0
  have iE0 := hst.behind bw0
  clear hr hl hst
  have q1 := hok.c3
  have q2 := hok.c120
  have q3 := hok.b0
  have q4 := hok.f0
  have q5 := hok.bf
  have t1 : 0 ≤ (k1 % (C - B - F)) := Int.emod_nonneg _ (by omega)
  have t2 : (k1 % (C - B - F)) < C - B - F := Int.emod_lt_of_pos _ (by omega)
  have t3 : 0 ≤ (k2 % (C - (B + (k1 % (C - B - F))) - F)) := Int.emod_nonneg _ (by omega)
  have t4 : (k2 % (C - (B + (k1 % (C - B - F))) - F)) < C - (B + (k1 % (C - B - F))) - F := Int.emod_lt_of_pos _ (by omega)
  have wr1 : IntKind.i64.wrap (C - B) = C - B := IntWalk.i64_in _ (by omega)
  have wr2 : IntKind.i64.wrap (C - B - F) = C - B - F := IntWalk.i64_in _ (by omega)
  have wr3 : IntKind.i64.wrap (B + (k1 % (C - B - F))) = (B + (k1 % (C - B - F))) := IntWalk.i64_in _ (by omega)
  have wr4 : IntKind.i64.wrap (C - (B + (k1 % (C - B - F)))) = C - (B + (k1 % (C - B - F))) := IntWalk.i64_in _ (by omega)
  have wr5 : IntKind.i64.wrap (C - (B + (k1 % (C - B - F))) - F) = C - (B + (k1 % (C - B - F))) - F := IntWalk.i64_in _ (by omega)
  have wr6 : IntKind.i64.wrap (F + (k2 % (C - (B + (k1 % (C - B - F))) - F))) = (F + (k2 % (C - (B + (k1 % (C - B - F))) - F))) := IntWalk.i64_in _ (by omega)
  have z1 : (C - B - F == 0) = false := by simp; omega
  have z2 : (C - (B + (k1 % (C - B - F))) - F == 0) = false := by simp; omega
  have e1 : ¬ (20 : Int) < (st.length : Int) := by omega
  have e2 : decide ((20 : Int) < (st.length : Int)) = false := decide_eq_false e1
  have HS := Lib.hid hs
  clear hs hok
  go_enter Try.func11, Try.ntmps11
  go_wp2_with (first
      | (go_at_call 55; refine (some_any C R B F A cap cl D dap l _ hB hc63 iA0).mono ?_; rw [HS.out]; rintro e w1 ⟨rfl, hb1⟩; have bw1 := below_next bw0 bw0.size hb1; clear bw0; have kH1 := kH0.below hb1 kH0.lt; clear kH0; have iA1 := iA0.behind hb1; clear iA0; have iD1 := iD0.behind hb1; clear iD0; have iE1 := iE0.behind hb1; clear iE0; obtain ⟨d0, d1, d2, d3, d4⟩ := kH1.five)
      | (go_at_call 37; refine (HC1.out _ iA1 iD1).mono ?_; rintro e w2 ⟨rfl, hb2⟩; have bw2 := below_next bw1 bw1.size hb2; clear bw1; have kH2 := kH1.below hb2 kH1.lt; clear kH1; have iA2 := iA1.behind hb2; clear iA1; have iD2 := iD1.behind hb2; clear iD1; have iE2 := iE1.behind hb2; clear iE1; clear d0 d1 d2 d3 d4; obtain ⟨d0, d1, d2, d3, d4⟩ := kH2.five)
      | fail)
  have hn3 := below_new w2 (.cells #[.int .i64 C, .int .i64 R, .int .i64 B, .int .i64 F, .slice A cl.length cap] 24)
  have kW := Blk.new w2 24 #[.int .i64 C, .int .i64 R, .int .i64 B, .int .i64 F, .slice A cl.length cap]
  have kH3 := kH2.below hn3 kH2.lt
  have kW2 := kW.cell 2
  clear d0 d1 d2 d3 d4
  obtain ⟨d0, d1, d2, d3, d4⟩ := kH3.five
  have kW2f := kW.frozen 2
  go_region
  clear d0 d1 d2 d3 d4 kW2 kW2f kW kH3 hn3
  have hlt2 := kH2.lt
  obtain ⟨w3, he3, hn3, kW3⟩ : ∃ w3, w3 = ((w2.alloc (.cells #[.int .i64 C, .int .i64 R, .int .i64 (B + (k1 % (C - B - F))), .int .i64 F, .slice A cl.length cap] 24)).drew) ∧ Below w2.heap.size w2 w3 ∧ Blk w3 w2.heap.size 24 #[.int .i64 C, .int .i64 R, .int .i64 (B + (k1 % (C - B - F))), .int .i64 F, .slice A cl.length cap] := ⟨_, rfl, (below_new w2 (.cells #[.int .i64 C, .int .i64 R, .int .i64 (B + (k1 % (C - B - F))), .int .i64 F, .slice A cl.length cap] 24)).trans (Below.refl _ _).drew, Blk.new w2 24 #[.int .i64 C, .int .i64 R, .int .i64 (B + (k1 % (C - B - F))), .int .i64 F, .slice A cl.length cap]⟩
  rw [← he3]
  clear he3
  have kH3 := kH2.below hn3 hlt2
  obtain ⟨d0, d1, d2, d3, d4⟩ := kH3.five
  obtain ⟨e0, e1, e2, e3, e4⟩ := kW3.five
  have e5 := kW3.frozen 3
  go_wp2_with fail
  go_region
  obtain ⟨w4, he4, hn4, kW4, kH4⟩ : ∃ w4, w4 = ((w3.setCell ⟨w2.heap.size, 3, none⟩ (.int .i64 (F + (k2 % (C - (B + (k1 % (C - B - F))) - F))))).drew) ∧ Below w2.heap.size w2 w4 ∧ Blk w4 w2.heap.size 24 #[.int .i64 C, .int .i64 R, .int .i64 (B + (k1 % (C - B - F))), .int .i64 (F + (k2 % (C - (B + (k1 % (C - B - F))) - F))), .slice A cl.length cap] ∧ Blk w4 w.heap.size 24 #[.int .i64 C, .int .i64 R, .int .i64 B, .int .i64 F, .slice A cl.length cap] := ⟨_, rfl, (hn3.setCell (p := ⟨w2.heap.size, 3, none⟩) (Nat.le_refl _) _).drew, kW3.store 3 (.int .i64 (F + (k2 % (C - (B + (k1 % (C - B - F))) - F)))), kH3.far (p := ⟨w2.heap.size, 3, none⟩) (Nat.ne_of_lt hlt2) _⟩
  rw [← he4]
  clear he4
  have bw4 := below_next bw2 bw2.size hn4
  have iA4 := iA2.behind hn4
  have iD4 := iD2.behind hn4
  have iE4 := iE2.behind hn4
  clear hn3 hn4 bw2 kH2 iA2 iD2 iE2 kH3 kW3 d0 d1 d2 d3 d4 e0 e1 e2 e3 e4 e5 wr1 wr2 wr3 wr4 wr5 wr6 z1 z2 t1 t2 t3 t4 hlt2
  obtain ⟨d0, d1, d2, d3, d4⟩ := kH4.five
  obtain ⟨e0, e1, e2, e3, e4⟩ := kW4.five
  go_wp2_with (first
      | (go_at_call 37; refine (HC2.out _ iA4 iD4).mono ?_; rintro e w5 ⟨rfl, hb5⟩; have bw5 := below_next bw4 bw4.size hb5; clear bw4; have kH5 := kH4.below hb5 kH4.lt; clear kH4; have kW5 := kW4.below hb5 kW4.lt; clear kW4; have iA5 := iA4.behind hb5; clear iA4; have iD5 := iD4.behind hb5; clear iD4; have iE5 := iE4.behind hb5; clear iE4; clear d0 d1 d2 d3 d4; obtain ⟨d0, d1, d2, d3, d4⟩ := kH5.five)
      | (go_at_call 34; refine (HCL.out _ iA5 iE5).mono ?_; rintro e w6 ⟨X, xap, rfl, x1, x2, iX6, hb6⟩; have bw6 := below_next bw5 bw5.size hb6; clear bw5; have kH6 := kH5.below hb6 kH5.lt; clear kH5; have kW6 := kW5.below hb6 kW5.lt; clear kW5; have iA6 := iA5.behind hb6; clear iA5; have iD6 := iD5.behind hb6; clear iD5; have iE6 := iE5.behind hb6; clear iE5; have hn7 := below_new w6 (.cells #[.int .i64 C, .int .i64 R, .int .i64 B, .int .i64 F, .slice X cz.length xap] 24); have bw7 := below_next bw6 bw6.size hn7; clear bw6; have kH7 := kH6.below hn7 kH6.lt; clear kH6; have kW7 := kW6.below hn7 kW6.lt; clear kW6; have iA7 := iA6.behind hn7; clear iA6; have iD7 := iD6.behind hn7; clear iD6; have iE7 := iE6.behind hn7; clear iE6; have iX7 := iX6.behind hn7; clear iX6; have kT7 := Blk.new w6 24 #[.int .i64 C, .int .i64 R, .int .i64 B, .int .i64 F, .slice X cz.length xap]; clear d0 d1 d2 d3 d4; obtain ⟨d0, d1, d2, d3, d4⟩ := kH7.five; obtain ⟨f0, f1, f2, f3, f4⟩ := kT7.five)
      | (go_at_call 37; refine (HC3.out X xap _ iX7 iD7).mono ?_; rintro e w8 ⟨rfl, hb8⟩; have bw8 := below_next bw7 bw7.size hb8; have kH8 := kH7.below hb8 kH7.lt; clear d0 d1 d2 d3 d4; obtain ⟨d0, d1, d2, d3, d4⟩ := kH8.five)
      | (go_at_call 15; refine (sanity_any _).mono ?_; rintro e w9 ⟨rfl, hb9⟩; have bw9 := below_next bw8 bw8.size hb9)
      | fail)
  go_ret
  exact ⟨ret_bool rfl, bw9⟩

set_option maxRecDepth 100000 in
set_option maxHeartbeats 8000000 in
theorem reachLaw_in (C R B F : Int) (A : Option Addr) (cap : Nat) (cl : List Int) (D : Option Addr) (dap : Nat) (l : List Int) (k1 k2 : Int) (E : Option Addr) (eap : Nat) (st : List Int) (w : World) (hB : B ≤ 9223372036854775807) (hcl : cl.length ≤ maxLen) (hll : l.length ≤ maxLen) (hsl : st.length ≤ maxLen) (hr : Ints w w.heap.size A cl) (hl : Ints w w.heap.size D l) (hst : Ints w w.heap.size E st) (k10 : 0 ≤ k1) (k11 : k1 ≤ 255) (k20 : 0 ≤ k2) (k21 : k2 ≤ 255) (hs : someB C R B F cl l = true) (h20 : st.length ≤ 20) :
    Calls Try.prog 11 #[.agg #[.int .i64 C, .int .i64 R, .int .i64 B, .int .i64 F, .slice A cl.length cap], .slice D l.length dap, .int .u8 k1, .int .u8 k2, .slice E st.length eap] w fun e w' => e = .returned (.bool true) ∧ Below w.heap.size w w' := by
  have hc63 : cl.length ≤ 9223372036854775807 := Nat.le_trans hcl (by decide)
  have hl63 : l.length ≤ 9223372036854775807 := Nat.le_trans hll (by decide)
  have bw0 := below_new w (.cells #[.int .i64 C, .int .i64 R, .int .i64 B, .int .i64 F, .slice A cl.length cap] 24)
  have kH0 := Blk.new w 24 #[.int .i64 C, .int .i64 R, .int .i64 B, .int .i64 F, .slice A cl.length cap]
  have iA0 := hr.behind bw0
  have iD0 := hl.behind bw0
  have iE0 := hst.behind bw0
  obtain ⟨hl60, hck⟩ := of_decide_eq_true hs
  have hok := chk_ok.1 hck
  have q1 := hok.c3
  have q2 := hok.c120
  have q3 := hok.b0
  have q4 := hok.f0
  have q5 := hok.bf
  have e1 : ¬ (20 : Int) < (st.length : Int) := by omega
  have e2 : decide ((20 : Int) < (st.length : Int)) = false := decide_eq_false e1
  have HS := Lib.hid hs
  clear hs hck
  have C1 := fun (W : World) (ha : Ints W W.heap.size A cl) (hd : Ints W W.heap.size D l) => count37 C R B F A cap cl D dap l hB hc63 hl63 W ha hd
  by_cases hh : HolesOk C R B F cl l
  · have t1 : 0 ≤ (k1 % (C - B - F)) := Int.emod_nonneg _ (by omega)
    have t2 : (k1 % (C - B - F)) < C - B - F := Int.emod_lt_of_pos _ (by omega)
    have t3 : 0 ≤ (k2 % (C - (B + (k1 % (C - B - F))) - F)) := Int.emod_nonneg _ (by omega)
    have t4 : (k2 % (C - (B + (k1 % (C - B - F))) - F)) < C - (B + (k1 % (C - B - F))) - F := Int.emod_lt_of_pos _ (by omega)
    have hB2 : (B + (k1 % (C - B - F))) ≤ 9223372036854775807 := by omega
    obtain ⟨m1, m2, m3, m4⟩ := reach_words (B' := (B + (k1 % (C - B - F)))) (F' := (F + (k2 % (C - (B + (k1 % (C - B - F))) - F)))) (st := st) hh (by omega) (by omega) (by omega)
    have C2 := fun (W : World) (ha : Ints W W.heap.size A cl) (hd : Ints W W.heap.size D l) => count37 C R (B + (k1 % (C - B - F))) (F + (k2 % (C - (B + (k1 % (C - B - F))) - F))) A cap cl D dap l hB2 hc63 hl63 W ha hd
    have CL := fun (W : World) (ha : Ints W W.heap.size A cl) (hd : Ints W W.heap.size E st) => close_any C R B F A cap cl E eap st W hB hc63 (Nat.le_trans hsl (by decide)) ha hd
    have hs : someB C R B F cl l = true := HS.out
    by_cases hce : clErr C R B F cl st = 0
    · have m9 := m4 hce
      have hzl : (clL cl st).length ≤ 9223372036854775807 := by
        have := cmpt_len (srt (cl ++ st))
        rw [srt_len, List.length_append] at this
        unfold clL
        have := hok.len
        omega
      have C3 := fun (X : Option Addr) (xap : Nat) (W : World) (ha : Ints W W.heap.size X (clL cl st)) (hd : Ints W W.heap.size D l) => count37 C R B F X xap (clL cl st) D dap l hB hzl hl63 W ha hd
      have CL2 : ∀ W : World, Ints W W.heap.size A cl → Ints W W.heap.size E st → Calls Try.prog 34 #[.agg #[.int .i64 C, .int .i64 R, .int .i64 B, .int .i64 F, .slice A cl.length cap], .slice E st.length eap] W (RetHouse W C R B F (clL cl st) 0) := fun W ha hd => by
        have := CL W ha hd
        simpa only [hce, ↓reduceIte] using this
      rcases m1 with hfe | hfe
      · obtain ⟨m5, m6⟩ := m2 hfe
        rw [hfe] at C1
        rw [m5] at C2
        rcases m9 with m9 | ⟨m9, _, m10⟩
        · rw [m9] at C3
          exact reachLaw_b C R B F A cap cl D dap l k1 k2 E eap st w hB hcl hll hsl hr hl hst k10 k11 k20 k21 hs h20 hok _ _ _ 0 0 0 0 0 _ C1 C2 CL2 C3 m6
        · rw [m9] at C3
          exact reachLaw_c C R B F A cap cl D dap l k1 k2 E eap st w hB hcl hll hsl hr hl hst k10 k11 k20 k21 hs h20 hok _ _ _ 0 0 0 0 0 _ C1 C2 CL2 C3 m10 m6
      · rw [hfe] at C1
        rcases m9 with m9 | ⟨_, m9, _⟩
        · rw [m9] at C3
          rcases m3 with m3 | m3
          · rw [m3] at C2
            exact reachLaw_e C R B F A cap cl D dap l k1 k2 E eap st w hB hcl hll hsl hr hl hst k10 k11 k20 k21 hs h20 hok _ _ _ 0 0 0 0 0 _ C1 C2 CL2 C3
          · rw [m3] at C2
            exact reachLaw_g C R B F A cap cl D dap l k1 k2 E eap st w hB hcl hll hsl hr hl hst k10 k11 k20 k21 hs h20 hok _ _ _ 0 0 0 0 0 _ C1 C2 CL2 C3
        · rw [hfe] at m9; cases m9
    · rcases m1 with hfe | hfe
      · obtain ⟨m5, m6⟩ := m2 hfe
        rw [hfe] at C1
        rw [m5] at C2
        exact reachLaw_a C R B F A cap cl D dap l k1 k2 E eap st w hB hcl hll hsl hr hl hst k10 k11 k20 k21 hs h20 hok _ _ 0 _ _ _ _ _ _ C1 C2 CL hce m6
      · rw [hfe] at C1
        rcases m3 with m3 | m3
        · rw [m3] at C2
          exact reachLaw_d C R B F A cap cl D dap l k1 k2 E eap st w hB hcl hll hsl hr hl hst k10 k11 k20 k21 hs h20 hok _ _ 0 _ _ _ _ _ _ C1 C2 CL hce
        · rw [m3] at C2
          exact reachLaw_f C R B F A cap cl D dap l k1 k2 E eap st w hB hcl hll hsl hr hl hst k10 k11 k20 k21 hs h20 hok _ _ 0 _ _ _ _ _ _ C1 C2 CL hce
  · obtain ⟨-, g2, g3, g4⟩ := find_bad_err hh
    rw [g2] at C1
    generalize findErr C R B F cl l = fe at *
    have n1 : (fe == 0) = false := by simpa using g3
    have n2 : (fe != 0) = true := by simpa using g3
    have n3 : (fe == 5) = false := by simpa using g4
    have n4 : (fe != 5) = true := by simpa using g4
    have HC1 := Lib.hid C1
    clear C1 g2 g3 g4 hh
    go_enter Try.func11, Try.ntmps11
    go_wp2_with (first
      | (go_at_call 55; refine (some_any C R B F A cap cl D dap l _ hB hc63 iA0).mono ?_; rw [HS.out]; rintro e w1 ⟨rfl, hb1⟩; have bw1 := below_next bw0 bw0.size hb1; clear bw0; have kH1 := kH0.below hb1 kH0.lt; clear kH0; have iA1 := iA0.behind hb1; clear iA0; have iD1 := iD0.behind hb1; clear iD0; have iE1 := iE0.behind hb1; clear iE0; obtain ⟨d0, d1, d2, d3, d4⟩ := kH1.five)
      | (go_at_call 37; refine (HC1.out _ iA1 iD1).mono ?_; rintro e w2 ⟨rfl, hb2⟩; have bw2 := below_next bw1 bw1.size hb2; clear bw1; have kH2 := kH1.below hb2 kH1.lt; clear kH1; have iA2 := iA1.behind hb2; clear iA1; have iD2 := iD1.behind hb2; clear iD1; have iE2 := iE1.behind hb2; clear iE1; clear d0 d1 d2 d3 d4; obtain ⟨d0, d1, d2, d3, d4⟩ := kH2.five)
      | (go_at_call 15; refine (sanity_any _).mono ?_; rintro e w3 ⟨rfl, hb3⟩; have bw3 := below_next bw2 bw2.size hb3)
      | fail)
    go_ret
    exact ⟨ret_bool rfl, bw3⟩

theorem reachLaw_any (C R B F : Int) (A : Option Addr) (cap : Nat) (cl : List Int) (D : Option Addr) (dap : Nat) (l : List Int) (k1 k2 : Int) (E : Option Addr) (eap : Nat) (st : List Int) (w : World) (hB : B ≤ 9223372036854775807) (hcl : cl.length ≤ maxLen) (hll : l.length ≤ maxLen) (hsl : st.length ≤ maxLen) (hr : Ints w w.heap.size A cl) (hl : Ints w w.heap.size D l) (hst : Ints w w.heap.size E st) (k10 : 0 ≤ k1) (k11 : k1 ≤ 255) (k20 : 0 ≤ k2) (k21 : k2 ≤ 255) :
    Calls Try.prog 11 #[.agg #[.int .i64 C, .int .i64 R, .int .i64 B, .int .i64 F, .slice A cl.length cap], .slice D l.length dap, .int .u8 k1, .int .u8 k2, .slice E st.length eap] w fun e w' => e = .returned (.bool true) ∧ Below w.heap.size w w' := by
  by_cases hs : someB C R B F cl l = true ∧ st.length ≤ 20
  · exact reachLaw_in C R B F A cap cl D dap l k1 k2 E eap st w hB hcl hll hsl hr hl hst k10 k11 k20 k21 hs.1 hs.2
  · exact reachLaw_out C R B F A cap cl D dap l k1 k2 E eap st w hB hcl hll hsl hr hl hst k10 k11 k20 k21 hs

end Go.Proofs.Ytnjmkdgglpcfpaa
