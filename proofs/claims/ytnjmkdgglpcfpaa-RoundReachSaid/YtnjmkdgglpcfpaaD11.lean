import Derived.Test.YtnjmkdgglpcfpaaM4
namespace Go.Proofs.Ytnjmkdgglpcfpaa
set_option linter.unusedSimpArgs false
set_option linter.unusedVariables false
open Go.RowKit

set_option maxRecDepth 100000 in
set_option maxHeartbeats 1000000 in
theorem reachLaw_out (C R B F : Int) (A : Option Addr) (cap : Nat) (cl : List Int) (D : Option Addr) (dap : Nat) (l : List Int) (k1 k2 : Int) (E : Option Addr) (eap : Nat) (st : List Int) (w : World) (hB : B ≤ 9223372036854775807) (hcl : cl.length ≤ maxLen) (hll : l.length ≤ maxLen) (hsl : st.length ≤ maxLen) (hr : Ints w w.heap.size A cl) (hl : Ints w w.heap.size D l) (hst : Ints w w.heap.size E st) (k10 : 0 ≤ k1) (k11 : k1 ≤ 255) (k20 : 0 ≤ k2) (k21 : k2 ≤ 255) (hs : ¬ (someB C R B F cl l = true ∧ st.length ≤ 20)) :
    Calls Try.prog 11 #[.agg #[.int .i64 C, .int .i64 R, .int .i64 B, .int .i64 F, .slice A cl.length cap], .slice D l.length dap, .int .u8 k1, .int .u8 k2, .slice E st.length eap] w fun e w' => e = .returned (.bool true) ∧ Below w.heap.size w w' := by
  have hc63 : cl.length ≤ 9223372036854775807 := Nat.le_trans hcl (by decide)
  have hl63 : l.length ≤ 9223372036854775807 := Nat.le_trans hll (by decide)
  have bw0 := below_new w (.cells #[.int .i64 C, .int .i64 R, .int .i64 B, .int .i64 F, .slice A cl.length cap] 24)
  have kH0 := Blk.new w 24 #[.int .i64 C, .int .i64 R, .int .i64 B, .int .i64 F, .slice A cl.length cap]
  have iA0 := hr.behind bw0
  have iD0 := hl.behind bw0
  have iE0 := hst.behind bw0
  cases hsb : someB C R B F cl l with
  | false =>
    have HS := Lib.hid hsb
    clear hs hsb
    go_enter Try.func11, Try.ntmps11
    go_wp2_with (first
      | (go_at_call 55; refine (some_any C R B F A cap cl D dap l _ hB hc63 iA0).mono ?_; rw [HS.out]; rintro e w1 ⟨rfl, hb1⟩; have bw1 := below_next bw0 bw0.size hb1; clear bw0; have kH1 := kH0.below hb1 kH0.lt; clear kH0; have iA1 := iA0.behind hb1; clear iA0; have iD1 := iD0.behind hb1; clear iD0; have iE1 := iE0.behind hb1; clear iE0; obtain ⟨d0, d1, d2, d3, d4⟩ := kH1.five)
      | (go_at_call 15; refine (sanity_any _).mono ?_; rintro e w2 ⟨rfl, hb2⟩; have bw2 := below_next bw1 bw1.size hb2)
      | fail)
    go_ret
    exact ⟨ret_bool rfl, bw2⟩
  | true =>
    have e1 : (20 : Int) < (st.length : Int) := by have : ¬ st.length ≤ 20 := fun h => hs ⟨hsb, h⟩; omega
    have e2 : decide ((20 : Int) < (st.length : Int)) = true := decide_eq_true e1
    have HS := Lib.hid hsb
    clear hs hsb
    go_enter Try.func11, Try.ntmps11
    go_wp2_with (first
      | (go_at_call 55; refine (some_any C R B F A cap cl D dap l _ hB hc63 iA0).mono ?_; rw [HS.out]; rintro e w1 ⟨rfl, hb1⟩; have bw1 := below_next bw0 bw0.size hb1; clear bw0; have kH1 := kH0.below hb1 kH0.lt; clear kH0; have iA1 := iA0.behind hb1; clear iA0; have iD1 := iD0.behind hb1; clear iD0; have iE1 := iE0.behind hb1; clear iE0; obtain ⟨d0, d1, d2, d3, d4⟩ := kH1.five)
      | (go_at_call 15; refine (sanity_any _).mono ?_; rintro e w2 ⟨rfl, hb2⟩; have bw2 := below_next bw1 bw1.size hb2)
      | fail)
    go_ret
    exact ⟨ret_bool rfl, bw2⟩

/-- a greater reach, and further stands closed: what Count tells then -/
theorem reach_words {C R B F B' F' : Int} {cl l st : List Int} (h : HolesOk C R B F cl l) (hb : B ≤ B') (hf : F ≤ F') (hbf : F' < C - B') :
    (findErr C R B F cl l = 0 ∨ findErr C R B F cl l = 5) ∧
    (findErr C R B F cl l = 0 → findErr C R B' F' cl l = 0 ∧ (findL C R B' F' cl l).length ≤ (findL C R B F cl l).length) ∧
    (findErr C R B' F' cl l = 0 ∨ findErr C R B' F' cl l = 5) ∧
    (clErr C R B F cl st = 0 → findErr C R B F (clL cl st) l = 5 ∨ findErr C R B F (clL cl st) l = 0 ∧ findErr C R B F cl l = 0 ∧ (findL C R B F cl l).length ≤ (findL C R B F (clL cl st) l).length) := by
  have hw : HolesOk C R B' F' cl l := ⟨⟨h.ok.c3, h.ok.c120, h.ok.r1, h.ok.r16, by have := h.ok.b0; omega, by have := h.ok.f0; omega, hbf, h.ok.len, h.ok.rise⟩, h.len, h.all⟩
  have e5 : ∀ {B F : Int} {cl : List Int}, HolesOk C R B F cl l → findErr C R B F cl l = 0 ∨ findErr C R B F cl l = 5 := fun hk => by
    rcases find_words hk with ⟨_, e, _⟩ | ⟨_, e⟩
    · exact .inr e
    · exact .inl e
  refine ⟨e5 h, fun he => find_of_cov hw (cov_more h.ok.dims hw.ok.dims hb hf (find_some h he).cov), e5 hw, fun hc => ?_⟩
  have hst : ∀ x ∈ st, 0 ≤ x ∧ x < C := by
    rw [clErr_ok st h.ok] at hc
    split at hc
    · cases hc
    · split at hc
      · assumption
      · cases hc
  have hk : HolesOk C R B F (clL cl st) l := ⟨clL_ok h.ok hst, h.len, h.all⟩
  rcases e5 hk with e | e
  · have := find_of_cov h (cov_closed.1 (find_some hk e).cov).1
    exact .inr ⟨e, this.1, this.2⟩
  · exact .inl e

set_option maxRecDepth 100000 in
set_option maxHeartbeats 8000000 in
theorem reachLaw_a (C R B F : Int) (A : Option Addr) (cap : Nat) (cl : List Int) (D : Option Addr) (dap : Nat) (l : List Int) (k1 k2 : Int) (E : Option Addr) (eap : Nat) (st : List Int) (w : World) (hB : B ≤ 9223372036854775807) (hcl : cl.length ≤ maxLen) (hll : l.length ≤ maxLen) (hsl : st.length ≤ maxLen) (hr : Ints w w.heap.size A cl) (hl : Ints w w.heap.size D l) (hst : Ints w w.heap.size E st) (k10 : 0 ≤ k1) (k11 : k1 ≤ 255) (k20 : 0 ≤ k2) (k21 : k2 ≤ 255) (hs : someB C R B F cl l = true) (h20 : st.length ≤ 20) (hok : Ok C R B F cl) (N M O : Nat) (C1 R1 Bx1 Fx1 ce : Int) (cz : List Int) (HC1 : Hid (∀ W : World, Ints W W.heap.size A cl → Ints W W.heap.size D l → Calls Try.prog 37 #[.agg #[.int .i64 C, .int .i64 R, .int .i64 B, .int .i64 F, .slice A cl.length cap], .slice D l.length dap] W fun e w' => e = .returned (.tuple #[.int .i64 (N : Nat), .int .i64 0]) ∧ Below W.heap.size W w')) (HC2 : Hid (∀ W : World, Ints W W.heap.size A cl → Ints W W.heap.size D l → Calls Try.prog 37 #[.agg #[.int .i64 C, .int .i64 R, .int .i64 (B + (k1 % (C - B - F))), .int .i64 (F + (k2 % (C - (B + (k1 % (C - B - F))) - F))), .slice A cl.length cap], .slice D l.length dap] W fun e w' => e = .returned (.tuple #[.int .i64 (M : Nat), .int .i64 0]) ∧ Below W.heap.size W w')) (HCL : Hid (∀ W : World, Ints W W.heap.size A cl → Ints W W.heap.size E st → Calls Try.prog 34 #[.agg #[.int .i64 C, .int .i64 R, .int .i64 B, .int .i64 F, .slice A cl.length cap], .slice E st.length eap] W (RetHouse W C1 R1 Bx1 Fx1 cz ce))) (hce : ce ≠ 0) (hMN : M ≤ N) :
    Calls Try.prog 11 #[.agg #[.int .i64 C, .int .i64 R, .int .i64 B, .int .i64 F, .slice A cl.length cap], .slice D l.length dap, .int .u8 k1, .int .u8 k2, .slice E st.length eap] w fun e w' => e = .returned (.bool true) ∧ Below w.heap.size w w' := by
  have hc63 : cl.length ≤ 9223372036854775807 := Nat.le_trans hcl (by decide)
  have hl63 : l.length ≤ 9223372036854775807 := Nat.le_trans hll (by decide)
  have bw0 := below_new w (.cells #[.int .i64 C, .int .i64 R, .int .i64 B, .int .i64 F, .slice A cl.length cap] 24)
  have kH0 := Blk.new w 24 #[.int .i64 C, .int .i64 R, .int .i64 B, .int .i64 F, .slice A cl.length cap]
  have iA0 := hr.behind bw0
  have iD0 := hl.behind bw0
  have iE0 := hst.behind bw0
  clear hr hl hst
  have q1 := hok.c3
  have q2 := hok.c120
  have q3 := hok.b0
  have q4 := hok.f0
  have q5 := hok.bf
  have t1 : 0 ≤ (k1 % (C - B - F)) := Int.emod_nonneg _ (by omega)
  have t2 : (k1 % (C - B - F)) < C - B - F := Int.emod_lt_of_pos _ (by omega)
  have t3 : 0 ≤ (k2 % (C - (B + (k1 % (C - B - F))) - F)) := Int.emod_nonneg _ (by omega)
  have t4 : (k2 % (C - (B + (k1 % (C - B - F))) - F)) < C - (B + (k1 % (C - B - F))) - F := Int.emod_lt_of_pos _ (by omega)
  have wr1 : IntKind.i64.wrap (C - B) = C - B := IntWalk.i64_in _ (by omega)
  have wr2 : IntKind.i64.wrap (C - B - F) = C - B - F := IntWalk.i64_in _ (by omega)
  have wr3 : IntKind.i64.wrap (B + (k1 % (C - B - F))) = (B + (k1 % (C - B - F))) := IntWalk.i64_in _ (by omega)
  have wr4 : IntKind.i64.wrap (C - (B + (k1 % (C - B - F)))) = C - (B + (k1 % (C - B - F))) := IntWalk.i64_in _ (by omega)
  have wr5 : IntKind.i64.wrap (C - (B + (k1 % (C - B - F))) - F) = C - (B + (k1 % (C - B - F))) - F := IntWalk.i64_in _ (by omega)
  have wr6 : IntKind.i64.wrap (F + (k2 % (C - (B + (k1 % (C - B - F))) - F))) = (F + (k2 % (C - (B + (k1 % (C - B - F))) - F))) := IntWalk.i64_in _ (by omega)
  have z1 : (C - B - F == 0) = false := by simp; omega
  have z2 : (C - (B + (k1 % (C - B - F))) - F == 0) = false := by simp; omega
  have e1 : ¬ (20 : Int) < (st.length : Int) := by omega
  have e2 : decide ((20 : Int) < (st.length : Int)) = false := decide_eq_false e1
  have HS := Lib.hid hs
  clear hs hok
  have g3 : ¬ (N : Int) < (M : Int) := by omega
  have g4 : decide ((N : Int) < (M : Int)) = false := decide_eq_false g3
  have n1 : (ce == 0) = false := by simpa using hce
  have n2 : (ce != 0) = true := by simpa using hce
  clear hce
  go_enter Try.func11, Try.ntmps11
  go_wp2_with (first
      | (go_at_call 55; refine (some_any C R B F A cap cl D dap l _ hB hc63 iA0).mono ?_; rw [HS.out]; rintro e w1 ⟨rfl, hb1⟩; have bw1 := below_next bw0 bw0.size hb1; clear bw0; have kH1 := kH0.below hb1 kH0.lt; clear kH0; have iA1 := iA0.behind hb1; clear iA0; have iD1 := iD0.behind hb1; clear iD0; have iE1 := iE0.behind hb1; clear iE0; obtain ⟨d0, d1, d2, d3, d4⟩ := kH1.five)
      | (go_at_call 37; refine (HC1.out _ iA1 iD1).mono ?_; rintro e w2 ⟨rfl, hb2⟩; have bw2 := below_next bw1 bw1.size hb2; clear bw1; have kH2 := kH1.below hb2 kH1.lt; clear kH1; have iA2 := iA1.behind hb2; clear iA1; have iD2 := iD1.behind hb2; clear iD1; have iE2 := iE1.behind hb2; clear iE1; clear d0 d1 d2 d3 d4; obtain ⟨d0, d1, d2, d3, d4⟩ := kH2.five)
      | fail)
  have hn3 := below_new w2 (.cells #[.int .i64 C, .int .i64 R, .int .i64 B, .int .i64 F, .slice A cl.length cap] 24)
  have kW := Blk.new w2 24 #[.int .i64 C, .int .i64 R, .int .i64 B, .int .i64 F, .slice A cl.length cap]
  have kH3 := kH2.below hn3 kH2.lt
  have kW2 := kW.cell 2
  clear d0 d1 d2 d3 d4
  obtain ⟨d0, d1, d2, d3, d4⟩ := kH3.five
  have kW2f := kW.frozen 2
  go_region
  clear d0 d1 d2 d3 d4 kW2 kW2f kW kH3 hn3
  have hlt2 := kH2.lt
  obtain ⟨w3, he3, hn3, kW3⟩ : ∃ w3, w3 = ((w2.alloc (.cells #[.int .i64 C, .int .i64 R, .int .i64 (B + (k1 % (C - B - F))), .int .i64 F, .slice A cl.length cap] 24)).drew) ∧ Below w2.heap.size w2 w3 ∧ Blk w3 w2.heap.size 24 #[.int .i64 C, .int .i64 R, .int .i64 (B + (k1 % (C - B - F))), .int .i64 F, .slice A cl.length cap] := ⟨_, rfl, (below_new w2 (.cells #[.int .i64 C, .int .i64 R, .int .i64 (B + (k1 % (C - B - F))), .int .i64 F, .slice A cl.length cap] 24)).trans (Below.refl _ _).drew, Blk.new w2 24 #[.int .i64 C, .int .i64 R, .int .i64 (B + (k1 % (C - B - F))), .int .i64 F, .slice A cl.length cap]⟩
  rw [← he3]
  clear he3
  have kH3 := kH2.below hn3 hlt2
  obtain ⟨d0, d1, d2, d3, d4⟩ := kH3.five
  obtain ⟨e0, e1, e2, e3, e4⟩ := kW3.five
  have e5 := kW3.frozen 3
  go_wp2_with fail
  go_region
  obtain ⟨w4, he4, hn4, kW4, kH4⟩ : ∃ w4, w4 = ((w3.setCell ⟨w2.heap.size, 3, none⟩ (.int .i64 (F + (k2 % (C - (B + (k1 % (C - B - F))) - F))))).drew) ∧ Below w2.heap.size w2 w4 ∧ Blk w4 w2.heap.size 24 #[.int .i64 C, .int .i64 R, .int .i64 (B + (k1 % (C - B - F))), .int .i64 (F + (k2 % (C - (B + (k1 % (C - B - F))) - F))), .slice A cl.length cap] ∧ Blk w4 w.heap.size 24 #[.int .i64 C, .int .i64 R, .int .i64 B, .int .i64 F, .slice A cl.length cap] := ⟨_, rfl, (hn3.setCell (p := ⟨w2.heap.size, 3, none⟩) (Nat.le_refl _) _).drew, kW3.store 3 (.int .i64 (F + (k2 % (C - (B + (k1 % (C - B - F))) - F)))), kH3.far (p := ⟨w2.heap.size, 3, none⟩) (Nat.ne_of_lt hlt2) _⟩
  rw [← he4]
  clear he4
  have bw4 := below_next bw2 bw2.size hn4
  have iA4 := iA2.behind hn4
  have iD4 := iD2.behind hn4
  have iE4 := iE2.behind hn4
  clear hn3 hn4 bw2 kH2 iA2 iD2 iE2 kH3 kW3 d0 d1 d2 d3 d4 e0 e1 e2 e3 e4 e5 wr1 wr2 wr3 wr4 wr5 wr6 z1 z2 t1 t2 t3 t4 hlt2
  obtain ⟨d0, d1, d2, d3, d4⟩ := kH4.five
  obtain ⟨e0, e1, e2, e3, e4⟩ := kW4.five
  go_wp2_with (first
      | (go_at_call 37; refine (HC2.out _ iA4 iD4).mono ?_; rintro e w5 ⟨rfl, hb5⟩; have bw5 := below_next bw4 bw4.size hb5; clear bw4; have kH5 := kH4.below hb5 kH4.lt; clear kH4; have kW5 := kW4.below hb5 kW4.lt; clear kW4; have iA5 := iA4.behind hb5; clear iA4; have iD5 := iD4.behind hb5; clear iD4; have iE5 := iE4.behind hb5; clear iE4; clear d0 d1 d2 d3 d4; obtain ⟨d0, d1, d2, d3, d4⟩ := kH5.five)
      | (go_at_call 34; refine (HCL.out _ iA5 iE5).mono ?_; rintro e w6 ⟨X, xap, rfl, x1, x2, iX6, hb6⟩; have bw6 := below_next bw5 bw5.size hb6; clear bw5; have kH6 := kH5.below hb6 kH5.lt; clear kH5; have kW6 := kW5.below hb6 kW5.lt; clear kW5; have iA6 := iA5.behind hb6; clear iA5; have iD6 := iD5.behind hb6; clear iD5; have iE6 := iE5.behind hb6; clear iE5; have hn7 := below_new w6 (.cells #[.int .i64 C1, .int .i64 R1, .int .i64 Bx1, .int .i64 Fx1, .slice X cz.length xap] 24); have bw7 := below_next bw6 bw6.size hn7; clear bw6; have kH7 := kH6.below hn7 kH6.lt; clear kH6; have kW7 := kW6.below hn7 kW6.lt; clear kW6; have iA7 := iA6.behind hn7; clear iA6; have iD7 := iD6.behind hn7; clear iD6; have iE7 := iE6.behind hn7; clear iE6; have iX7 := iX6.behind hn7; clear iX6; have kT7 := Blk.new w6 24 #[.int .i64 C1, .int .i64 R1, .int .i64 Bx1, .int .i64 Fx1, .slice X cz.length xap]; clear d0 d1 d2 d3 d4; obtain ⟨d0, d1, d2, d3, d4⟩ := kH7.five)
      | (go_at_call 15; refine (sanity_any _).mono ?_; rintro e w8 ⟨rfl, hb8⟩; have bw8 := below_next bw7 bw7.size hb8)
      | fail)
  go_ret
  exact ⟨ret_bool rfl, bw8⟩

set_option maxRecDepth 100000 in
set_option maxHeartbeats 8000000 in
theorem reachLaw_b (C R B F : Int) (A : Option Addr) (cap : Nat) (cl : List Int) (D : Option Addr) (dap : Nat) (l : List Int) (k1 k2 : Int) (E : Option Addr) (eap : Nat) (st : List Int) (w : World) (hB : B ≤ 9223372036854775807) (hcl : cl.length ≤ maxLen) (hll : l.length ≤ maxLen) (hsl : st.length ≤ maxLen) (hr : Ints w w.heap.size A cl) (hl : Ints w w.heap.size D l) (hst : Ints w w.heap.size E st) (k10 : 0 ≤ k1) (k11 : k1 ≤ 255) (k20 : 0 ≤ k2) (k21 : k2 ≤ 255) (hs : someB C R B F cl l = true) (h20 : st.length ≤ 20) (hok : Ok C R B F cl) (N M O : Nat) (C1 R1 Bx1 Fx1 ce : Int) (cz : List Int) (HC1 : Hid (∀ W : World, Ints W W.heap.size A cl → Ints W W.heap.size D l → Calls Try.prog 37 #[.agg #[.int .i64 C, .int .i64 R, .int .i64 B, .int .i64 F, .slice A cl.length cap], .slice D l.length dap] W fun e w' => e = .returned (.tuple #[.int .i64 (N : Nat), .int .i64 0]) ∧ Below W.heap.size W w')) (HC2 : Hid (∀ W : World, Ints W W.heap.size A cl → Ints W W.heap.size D l → Calls Try.prog 37 #[.agg #[.int .i64 C, .int .i64 R, .int .i64 (B + (k1 % (C - B - F))), .int .i64 (F + (k2 % (C - (B + (k1 % (C - B - F))) - F))), .slice A cl.length cap], .slice D l.length dap] W fun e w' => e = .returned (.tuple #[.int .i64 (M : Nat), .int .i64 0]) ∧ Below W.heap.size W w')) (HCL : Hid (∀ W : World, Ints W W.heap.size A cl → Ints W W.heap.size E st → Calls Try.prog 34 #[.agg #[.int .i64 C, .int .i64 R, .int .i64 B, .int .i64 F, .slice A cl.length cap], .slice E st.length eap] W (RetHouse W C R B F cz 0))) (HC3 : Hid (∀ (X : Option Addr) (xap : Nat) (W : World), Ints W W.heap.size X cz → Ints W W.heap.size D l → Calls Try.prog 37 #[.agg #[.int .i64 C, .int .i64 R, .int .i64 B, .int .i64 F, .slice X cz.length xap], .slice D l.length dap] W fun e w' => e = .returned (.tuple #[.int .i64 (O : Nat), .int .i64 5]) ∧ Below W.heap.size W w')) (hMN : M ≤ N) :
    Calls Try.prog 11 #[.agg #[.int .i64 C, .int .i64 R, .int .i64 B, .int .i64 F, .slice A cl.length cap], .slice D l.length dap, .int .u8 k1, .int .u8 k2, .slice E st.length eap] w fun e w' => e = .returned (.bool true) ∧ Below w.heap.size w w' := by
  have hc63 : cl.length ≤ 9223372036854775807 := Nat.le_trans hcl (by decide)
  have hl63 : l.length ≤ 9223372036854775807 := Nat.le_trans hll (by decide)
  have bw0 := below_new w (.cells #[.int .i64 C, .int .i64 R, .int .i64 B, .int .i64 F, .slice A cl.length cap] 24)
  have kH0 := Blk.new w 24 #[.int .i64 C, .int .i64 R, .int .i64 B, .int .i64 F, .slice A cl.length cap]
  have iA0 := hr.behind bw0
  have iD0 := hl.behind bw0
  have iE0 := hst.behind bw0
  clear hr hl hst
  have q1 := hok.c3
  have q2 := hok.c120
  have q3 := hok.b0
  have q4 := hok.f0
  have q5 := hok.bf
  have t1 : 0 ≤ (k1 % (C - B - F)) := Int.emod_nonneg _ (by omega)
  have t2 : (k1 % (C - B - F)) < C - B - F := Int.emod_lt_of_pos _ (by omega)
  have t3 : 0 ≤ (k2 % (C - (B + (k1 % (C - B - F))) - F)) := Int.emod_nonneg _ (by omega)
  have t4 : (k2 % (C - (B + (k1 % (C - B - F))) - F)) < C - (B + (k1 % (C - B - F))) - F := Int.emod_lt_of_pos _ (by omega)
  have wr1 : IntKind.i64.wrap (C - B) = C - B := IntWalk.i64_in _ (by omega)
  have wr2 : IntKind.i64.wrap (C - B - F) = C - B - F := IntWalk.i64_in _ (by omega)
  have wr3 : IntKind.i64.wrap (B + (k1 % (C - B - F))) = (B + (k1 % (C - B - F))) := IntWalk.i64_in _ (by omega)
  have wr4 : IntKind.i64.wrap (C - (B + (k1 % (C - B - F)))) = C - (B + (k1 % (C - B - F))) := IntWalk.i64_in _ (by omega)
  have wr5 : IntKind.i64.wrap (C - (B + (k1 % (C - B - F))) - F) = C - (B + (k1 % (C - B - F))) - F := IntWalk.i64_in _ (by omega)
  have wr6 : IntKind.i64.wrap (F + (k2 % (C - (B + (k1 % (C - B - F))) - F))) = (F + (k2 % (C - (B + (k1 % (C - B - F))) - F))) := IntWalk.i64_in _ (by omega)
  have z1 : (C - B - F == 0) = false := by simp; omega
  have z2 : (C - (B + (k1 % (C - B - F))) - F == 0) = false := by simp; omega
  have e1 : ¬ (20 : Int) < (st.length : Int) := by omega
  have e2 : decide ((20 : Int) < (st.length : Int)) = false := decide_eq_false e1
  have HS := Lib.hid hs
  clear hs hok
  have g3 : ¬ (N : Int) < (M : Int) := by omega
  have g4 : decide ((N : Int) < (M : Int)) = false := decide_eq_false g3
  go_enter Try.func11, Try.ntmps11
  go_wp2_with (first
      | (go_at_call 55; refine (some_any C R B F A cap cl D dap l _ hB hc63 iA0).mono ?_; rw [HS.out]; rintro e w1 ⟨rfl, hb1⟩; have bw1 := below_next bw0 bw0.size hb1; clear bw0; have kH1 := kH0.below hb1 kH0.lt; clear kH0; have iA1 := iA0.behind hb1; clear iA0; have iD1 := iD0.behind hb1; clear iD0; have iE1 := iE0.behind hb1; clear iE0; obtain ⟨d0, d1, d2, d3, d4⟩ := kH1.five)
      | (go_at_call 37; refine (HC1.out _ iA1 iD1).mono ?_; rintro e w2 ⟨rfl, hb2⟩; have bw2 := below_next bw1 bw1.size hb2; clear bw1; have kH2 := kH1.below hb2 kH1.lt; clear kH1; have iA2 := iA1.behind hb2; clear iA1; have iD2 := iD1.behind hb2; clear iD1; have iE2 := iE1.behind hb2; clear iE1; clear d0 d1 d2 d3 d4; obtain ⟨d0, d1, d2, d3, d4⟩ := kH2.five)
      | fail)
  have hn3 := below_new w2 (.cells #[.int .i64 C, .int .i64 R, .int .i64 B, .int .i64 F, .slice A cl.length cap] 24)
  have kW := Blk.new w2 24 #[.int .i64 C, .int .i64 R, .int .i64 B, .int .i64 F, .slice A cl.length cap]
  have kH3 := kH2.below hn3 kH2.lt
  have kW2 := kW.cell 2
  clear d0 d1 d2 d3 d4
  obtain ⟨d0, d1, d2, d3, d4⟩ := kH3.five
  have kW2f := kW.frozen 2
  go_region
  clear d0 d1 d2 d3 d4 kW2 kW2f kW kH3 hn3
  have hlt2 := kH2.lt
  obtain ⟨w3, he3, hn3, kW3⟩ : ∃ w3, w3 = ((w2.alloc (.cells #[.int .i64 C, .int .i64 R, .int .i64 (B + (k1 % (C - B - F))), .int .i64 F, .slice A cl.length cap] 24)).drew) ∧ Below w2.heap.size w2 w3 ∧ Blk w3 w2.heap.size 24 #[.int .i64 C, .int .i64 R, .int .i64 (B + (k1 % (C - B - F))), .int .i64 F, .slice A cl.length cap] := ⟨_, rfl, (below_new w2 (.cells #[.int .i64 C, .int .i64 R, .int .i64 (B + (k1 % (C - B - F))), .int .i64 F, .slice A cl.length cap] 24)).trans (Below.refl _ _).drew, Blk.new w2 24 #[.int .i64 C, .int .i64 R, .int .i64 (B + (k1 % (C - B - F))), .int .i64 F, .slice A cl.length cap]⟩
  rw [← he3]
  clear he3
  have kH3 := kH2.below hn3 hlt2
  obtain ⟨d0, d1, d2, d3, d4⟩ := kH3.five
  obtain ⟨e0, e1, e2, e3, e4⟩ := kW3.five
  have e5 := kW3.frozen 3
  go_wp2_with fail
  go_region
  obtain ⟨w4, he4, hn4, kW4, kH4⟩ : ∃ w4, w4 = ((w3.setCell ⟨w2.heap.size, 3, none⟩ (.int .i64 (F + (k2 % (C - (B + (k1 % (C - B - F))) - F))))).drew) ∧ Below w2.heap.size w2 w4 ∧ Blk w4 w2.heap.size 24 #[.int .i64 C, .int .i64 R, .int .i64 (B + (k1 % (C - B - F))), .int .i64 (F + (k2 % (C - (B + (k1 % (C - B - F))) - F))), .slice A cl.length cap] ∧ Blk w4 w.heap.size 24 #[.int .i64 C, .int .i64 R, .int .i64 B, .int .i64 F, .slice A cl.length cap] := ⟨_, rfl, (hn3.setCell (p := ⟨w2.heap.size, 3, none⟩) (Nat.le_refl _) _).drew, kW3.store 3 (.int .i64 (F + (k2 % (C - (B + (k1 % (C - B - F))) - F)))), kH3.far (p := ⟨w2.heap.size, 3, none⟩) (Nat.ne_of_lt hlt2) _⟩
  rw [← he4]
  clear he4
  have bw4 := below_next bw2 bw2.size hn4
  have iA4 := iA2.behind hn4
  have iD4 := iD2.behind hn4
  have iE4 := iE2.behind hn4
  clear hn3 hn4 bw2 kH2 iA2 iD2 iE2 kH3 kW3 d0 d1 d2 d3 d4 e0 e1 e2 e3 e4 e5 wr1 wr2 wr3 wr4 wr5 wr6 z1 z2 t1 t2 t3 t4 hlt2
  obtain ⟨d0, d1, d2, d3, d4⟩ := kH4.five
  obtain ⟨e0, e1, e2, e3, e4⟩ := kW4.five
  go_wp2_with (first
      | (go_at_call 37; refine (HC2.out _ iA4 iD4).mono ?_; rintro e w5 ⟨rfl, hb5⟩; have bw5 := below_next bw4 bw4.size hb5; clear bw4; have kH5 := kH4.below hb5 kH4.lt; clear kH4; have kW5 := kW4.below hb5 kW4.lt; clear kW4; have iA5 := iA4.behind hb5; clear iA4; have iD5 := iD4.behind hb5; clear iD4; have iE5 := iE4.behind hb5; clear iE4; clear d0 d1 d2 d3 d4; obtain ⟨d0, d1, d2, d3, d4⟩ := kH5.five)
      | (go_at_call 34; refine (HCL.out _ iA5 iE5).mono ?_; rintro e w6 ⟨X, xap, rfl, x1, x2, iX6, hb6⟩; have bw6 := below_next bw5 bw5.size hb6; clear bw5; have kH6 := kH5.below hb6 kH5.lt; clear kH5; have kW6 := kW5.below hb6 kW5.lt; clear kW5; have iA6 := iA5.behind hb6; clear iA5; have iD6 := iD5.behind hb6; clear iD5; have iE6 := iE5.behind hb6; clear iE5; have hn7 := below_new w6 (.cells #[.int .i64 C, .int .i64 R, .int .i64 B, .int .i64 F, .slice X cz.length xap] 24); have bw7 := below_next bw6 bw6.size hn7; clear bw6; have kH7 := kH6.below hn7 kH6.lt; clear kH6; have kW7 := kW6.below hn7 kW6.lt; clear kW6; have iA7 := iA6.behind hn7; clear iA6; have iD7 := iD6.behind hn7; clear iD6; have iE7 := iE6.behind hn7; clear iE6; have iX7 := iX6.behind hn7; clear iX6; have kT7 := Blk.new w6 24 #[.int .i64 C, .int .i64 R, .int .i64 B, .int .i64 F, .slice X cz.length xap]; clear d0 d1 d2 d3 d4; obtain ⟨d0, d1, d2, d3, d4⟩ := kH7.five; obtain ⟨f0, f1, f2, f3, f4⟩ := kT7.five)
      | (go_at_call 37; refine (HC3.out X xap _ iX7 iD7).mono ?_; rintro e w8 ⟨rfl, hb8⟩; have bw8 := below_next bw7 bw7.size hb8; have kH8 := kH7.below hb8 kH7.lt; clear d0 d1 d2 d3 d4; obtain ⟨d0, d1, d2, d3, d4⟩ := kH8.five)
      | (go_at_call 15; refine (sanity_any _).mono ?_; rintro e w9 ⟨rfl, hb9⟩; have bw9 := below_next bw8 bw8.size hb9)
      | fail)
  go_ret
  exact ⟨ret_bool rfl, bw9⟩

set_option maxRecDepth 100000 in
set_option maxHeartbeats 8000000 in
theorem reachLaw_c (C R B F : Int) (A : Option Addr) (cap : Nat) (cl : List Int) (D : Option Addr) (dap : Nat) (l : List Int) (k1 k2 : Int) (E : Option Addr) (eap : Nat) (st : List Int) (w : World) (hB : B ≤ 9223372036854775807) (hcl : cl.length ≤ maxLen) (hll : l.length ≤ maxLen) (hsl : st.length ≤ maxLen) (hr : Ints w w.heap.size A cl) (hl : Ints w w.heap.size D l) (hst : Ints w w.heap.size E st) (k10 : 0 ≤ k1) (k11 : k1 ≤ 255) (k20 : 0 ≤ k2) (k21 : k2 ≤ 255) (hs : someB C R B F cl l = true) (h20 : st.length ≤ 20) (hok : Ok C R B F cl) (N M O : Nat) (C1 R1 Bx1 Fx1 ce : Int) (cz : List Int) (HC1 : Hid (∀ W : World, Ints W W.heap.size A cl → Ints W W.heap.size D l → Calls Try.prog 37 #[.agg #[.int .i64 C, .int .i64 R, .int .i64 B, .int .i64 F, .slice A cl.length cap], .slice D l.length dap] W fun e w' => e = .returned (.tuple #[.int .i64 (N : Nat), .int .i64 0]) ∧ Below W.heap.size W w')) (HC2 : Hid (∀ W : World, Ints W W.heap.size A cl → Ints W W.heap.size D l → Calls Try.prog 37 #[.agg #[.int .i64 C, .int .i64 R, .int .i64 (B + (k1 % (C - B - F))), .int .i64 (F + (k2 % (C - (B + (k1 % (C - B - F))) - F))), .slice A cl.length cap], .slice D l.length dap] W fun e w' => e = .returned (.tuple #[.int .i64 (M : Nat), .int .i64 0]) ∧ Below W.heap.size W w')) (HCL : Hid (∀ W : World, Ints W W.heap.size A cl → Ints W W.heap.size E st → Calls Try.prog 34 #[.agg #[.int .i64 C, .int .i64 R, .int .i64 B, .int .i64 F, .slice A cl.length cap], .slice E st.length eap] W (RetHouse W C R B F cz 0))) (HC3 : Hid (∀ (X : Option Addr) (xap : Nat) (W : World), Ints W W.heap.size X cz → Ints W W.heap.size D l → Calls Try.prog 37 #[.agg #[.int .i64 C, .int .i64 R, .int .i64 B, .int .i64 F, .slice X cz.length xap], .slice D l.length dap] W fun e w' => e = .returned (.tuple #[.int .i64 (O : Nat), .int .i64 0]) ∧ Below W.heap.size W w')) (hNO : N ≤ O) (hMN : M ≤ N) :
    Calls Try.prog 11 #[.agg #[.int .i64 C, .int .i64 R, .int .i64 B, .int .i64 F, .slice A cl.length cap], .slice D l.length dap, .int .u8 k1, .int .u8 k2, .slice E st.length eap] w fun e w' => e = .returned (.bool true) ∧ Below w.heap.size w w' := by
  have hc63 : cl.length ≤ 9223372036854775807 := Nat.le_trans hcl (by decide)
  have hl63 : l.length ≤ 9223372036854775807 := Nat.le_trans hll (by decide)
  have bw0 := below_new w (.cells #[.int .i64 C, .int .i64 R, .int .i64 B, .int .i64 F, .slice A cl.length cap] 24)
  have kH0 := Blk.new w 24 #[.int .i64 C, .int .i64 R, .int .i64 B, .int .i64 F, .slice A cl.length cap]
  have iA0 := hr.behind bw0
  have iD0 := hl.behind bw0
  have iE0 := hst.behind bw0
  clear hr hl hst
  have q1 := hok.c3
  have q2 := hok.c120
  have q3 := hok.b0
  have q4 := hok.f0
  have q5 := hok.bf
  have t1 : 0 ≤ (k1 % (C - B - F)) := Int.emod_nonneg _ (by omega)
  have t2 : (k1 % (C - B - F)) < C - B - F := Int.emod_lt_of_pos _ (by omega)
  have t3 : 0 ≤ (k2 % (C - (B + (k1 % (C - B - F))) - F)) := Int.emod_nonneg _ (by omega)
  have t4 : (k2 % (C - (B + (k1 % (C - B - F))) - F)) < C - (B + (k1 % (C - B - F))) - F := Int.emod_lt_of_pos _ (by omega)
  have wr1 : IntKind.i64.wrap (C - B) = C - B := IntWalk.i64_in _ (by omega)
  have wr2 : IntKind.i64.wrap (C - B - F) = C - B - F := IntWalk.i64_in _ (by omega)
  have wr3 : IntKind.i64.wrap (B + (k1 % (C - B - F))) = (B + (k1 % (C - B - F))) := IntWalk.i64_in _ (by omega)
  have wr4 : IntKind.i64.wrap (C - (B + (k1 % (C - B - F)))) = C - (B + (k1 % (C - B - F))) := IntWalk.i64_in _ (by omega)
  have wr5 : IntKind.i64.wrap (C - (B + (k1 % (C - B - F))) - F) = C - (B + (k1 % (C - B - F))) - F := IntWalk.i64_in _ (by omega)
  have wr6 : IntKind.i64.wrap (F + (k2 % (C - (B + (k1 % (C - B - F))) - F))) = (F + (k2 % (C - (B + (k1 % (C - B - F))) - F))) := IntWalk.i64_in _ (by omega)
  have z1 : (C - B - F == 0) = false := by simp; omega
  have z2 : (C - (B + (k1 % (C - B - F))) - F == 0) = false := by simp; omega
  have e1 : ¬ (20 : Int) < (st.length : Int) := by omega
  have e2 : decide ((20 : Int) < (st.length : Int)) = false := decide_eq_false e1
  have HS := Lib.hid hs
  clear hs hok
  have g3 : ¬ (N : Int) < (M : Int) := by omega
  have g4 : decide ((N : Int) < (M : Int)) = false := decide_eq_false g3
  have g1 : (N : Int) ≤ (O : Int) := by omega
  have g2 : decide ((N : Int) ≤ (O : Int)) = true := decide_eq_true g1
  go_enter Try.func11, Try.ntmps11
  go_wp2_with (first
      | (go_at_call 55; refine (some_any C R B F A cap cl D dap l _ hB hc63 iA0).mono ?_; rw [HS.out]; rintro e w1 ⟨rfl, hb1⟩; have bw1 := below_next bw0 bw0.size hb1; clear bw0; have kH1 := kH0.below hb1 kH0.lt; clear kH0; have iA1 := iA0.behind hb1; clear iA0; have iD1 := iD0.behind hb1; clear iD0; have iE1 := iE0.behind hb1; clear iE0; obtain ⟨d0, d1, d2, d3, d4⟩ := kH1.five)
      | (go_at_call 37; refine (HC1.out _ iA1 iD1).mono ?_; rintro e w2 ⟨rfl, hb2⟩; have bw2 := below_next bw1 bw1.size hb2; clear bw1; have kH2 := kH1.below hb2 kH1.lt; clear kH1; have iA2 := iA1.behind hb2; clear iA1; have iD2 := iD1.behind hb2; clear iD1; have iE2 := iE1.behind hb2; clear iE1; clear d0 d1 d2 d3 d4; obtain ⟨d0, d1, d2, d3, d4⟩ := kH2.five)
      | fail)
  have hn3 := below_new w2 (.cells #[.int .i64 C, .int .i64 R, .int .i64 B, .int .i64 F, .slice A cl.length cap] 24)
  have kW := Blk.new w2 24 #[.int .i64 C, .int .i64 R, .int .i64 B, .int .i64 F, .slice A cl.length cap]
  have kH3 := kH2.below hn3 kH2.lt
  have kW2 := kW.cell 2
  clear d0 d1 d2 d3 d4
  obtain ⟨d0, d1, d2, d3, d4⟩ := kH3.five
  have kW2f := kW.frozen 2
  go_region
  clear d0 d1 d2 d3 d4 kW2 kW2f kW kH3 hn3
  have hlt2 := kH2.lt
  obtain ⟨w3, he3, hn3, kW3⟩ : ∃ w3, w3 = ((w2.alloc (.cells #[.int .i64 C, .int .i64 R, .int .i64 (B + (k1 % (C - B - F))), .int .i64 F, .slice A cl.length cap] 24)).drew) ∧ Below w2.heap.size w2 w3 ∧ Blk w3 w2.heap.size 24 #[.int .i64 C, .int .i64 R, .int .i64 (B + (k1 % (C - B - F))), .int .i64 F, .slice A cl.length cap] := ⟨_, rfl, (below_new w2 (.cells #[.int .i64 C, .int .i64 R, .int .i64 (B + (k1 % (C - B - F))), .int .i64 F, .slice A cl.length cap] 24)).trans (Below.refl _ _).drew, Blk.new w2 24 #[.int .i64 C, .int .i64 R, .int .i64 (B + (k1 % (C - B - F))), .int .i64 F, .slice A cl.length cap]⟩
  rw [← he3]
  clear he3
  have kH3 := kH2.below hn3 hlt2
  obtain ⟨d0, d1, d2, d3, d4⟩ := kH3.five
  obtain ⟨e0, e1, e2, e3, e4⟩ := kW3.five
  have e5 := kW3.frozen 3
  go_wp2_with fail
  go_region
  obtain ⟨w4, he4, hn4, kW4, kH4⟩ : ∃ w4, w4 = ((w3.setCell ⟨w2.heap.size, 3, none⟩ (.int .i64 (F + (k2 % (C - (B + (k1 % (C - B - F))) - F))))).drew) ∧ Below w2.heap.size w2 w4 ∧ Blk w4 w2.heap.size 24 #[.int .i64 C, .int .i64 R, .int .i64 (B + (k1 % (C - B - F))), .int .i64 (F + (k2 % (C - (B + (k1 % (C - B - F))) - F))), .slice A cl.length cap] ∧ Blk w4 w.heap.size 24 #[.int .i64 C, .int .i64 R, .int .i64 B, .int .i64 F, .slice A cl.length cap] := ⟨_, rfl, (hn3.setCell (p := ⟨w2.heap.size, 3, none⟩) (Nat.le_refl _) _).drew, kW3.store 3 (.int .i64 (F + (k2 % (C - (B + (k1 % (C - B - F))) - F)))), kH3.far (p := ⟨w2.heap.size, 3, none⟩) (Nat.ne_of_lt hlt2) _⟩
  rw [← he4]
  clear he4
  have bw4 := below_next bw2 bw2.size hn4
  have iA4 := iA2.behind hn4
  have iD4 := iD2.behind hn4
  have iE4 := iE2.behind hn4
  clear hn3 hn4 bw2 kH2 iA2 iD2 iE2 kH3 kW3 d0 d1 d2 d3 d4 e0 e1 e2 e3 e4 e5 wr1 wr2 wr3 wr4 wr5 wr6 z1 z2 t1 t2 t3 t4 hlt2
  obtain ⟨d0, d1, d2, d3, d4⟩ := kH4.five
  obtain ⟨e0, e1, e2, e3, e4⟩ := kW4.five
  go_wp2_with (first
      | (go_at_call 37; refine (HC2.out _ iA4 iD4).mono ?_; rintro e w5 ⟨rfl, hb5⟩; have bw5 := below_next bw4 bw4.size hb5; clear bw4; have kH5 := kH4.below hb5 kH4.lt; clear kH4; have kW5 := kW4.below hb5 kW4.lt; clear kW4; have iA5 := iA4.behind hb5; clear iA4; have iD5 := iD4.behind hb5; clear iD4; have iE5 := iE4.behind hb5; clear iE4; clear d0 d1 d2 d3 d4; obtain ⟨d0, d1, d2, d3, d4⟩ := kH5.five)
      | (go_at_call 34; refine (HCL.out _ iA5 iE5).mono ?_; rintro e w6 ⟨X, xap, rfl, x1, x2, iX6, hb6⟩; have bw6 := below_next bw5 bw5.size hb6; clear bw5; have kH6 := kH5.below hb6 kH5.lt; clear kH5; have kW6 := kW5.below hb6 kW5.lt; clear kW5; have iA6 := iA5.behind hb6; clear iA5; have iD6 := iD5.behind hb6; clear iD5; have iE6 := iE5.behind hb6; clear iE5; have hn7 := below_new w6 (.cells #[.int .i64 C, .int .i64 R, .int .i64 B, .int .i64 F, .slice X cz.length xap] 24); have bw7 := below_next bw6 bw6.size hn7; clear bw6; have kH7 := kH6.below hn7 kH6.lt; clear kH6; have kW7 := kW6.below hn7 kW6.lt; clear kW6; have iA7 := iA6.behind hn7; clear iA6; have iD7 := iD6.behind hn7; clear iD6; have iE7 := iE6.behind hn7; clear iE6; have iX7 := iX6.behind hn7; clear iX6; have kT7 := Blk.new w6 24 #[.int .i64 C, .int .i64 R, .int .i64 B, .int .i64 F, .slice X cz.length xap]; clear d0 d1 d2 d3 d4; obtain ⟨d0, d1, d2, d3, d4⟩ := kH7.five; obtain ⟨f0, f1, f2, f3, f4⟩ := kT7.five)
      | (go_at_call 37; refine (HC3.out X xap _ iX7 iD7).mono ?_; rintro e w8 ⟨rfl, hb8⟩; have bw8 := below_next bw7 bw7.size hb8; have kH8 := kH7.below hb8 kH7.lt; clear d0 d1 d2 d3 d4; obtain ⟨d0, d1, d2, d3, d4⟩ := kH8.five)
      | (go_at_call 15; refine (sanity_any _).mono ?_; rintro e w9 ⟨rfl, hb9⟩; have bw9 := below_next bw8 bw8.size hb9)
      | fail)
  go_ret
  exact ⟨ret_bool rfl, bw9⟩

end Go.Proofs.Ytnjmkdgglpcfpaa
