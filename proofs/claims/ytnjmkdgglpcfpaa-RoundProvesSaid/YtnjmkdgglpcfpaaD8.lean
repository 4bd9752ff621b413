import Derived.Test.YtnjmkdgglpcfpaaC15
namespace Go.Proofs.Ytnjmkdgglpcfpaa
set_option linter.unusedSimpArgs false
set_option linter.unusedVariables false
open Go.RowKit

set_option maxRecDepth 100000 in
set_option maxHeartbeats 2000000 in
theorem provesLaw_o1 (C R B F : Int) (A : Option Addr) (cap : Nat) (cl : List Int) (D : Option Addr) (dap : Nat) (l : List Int) (E : Option Addr) (eap : Nat) (ss : List Int) (S : Option Addr) (sap : Nat) (st : List Int) (G : Option Addr) (gap : Nat) (cuts : List (Int × List Int)) (w : World) (hB : B ≤ 9223372036854775807) (hcl : cl.length ≤ maxLen) (hll : l.length ≤ maxLen) (hel : ss.length ≤ maxLen) (hsl : st.length ≤ maxLen) (hgl : cuts.length ≤ maxLen) (hcc : ∀ c ∈ cuts, c.2.length ≤ maxLen) (hr : Ints w w.heap.size A cl) (hl : Ints w w.heap.size D l) (he : Ints w w.heap.size E ss) (hs : Ints w w.heap.size S st) (hg : CutsC w w.heap.size G cuts) (hsb : someB C R B F cl l = false) :
    Calls Try.prog 8 #[.agg #[.int .i64 C, .int .i64 R, .int .i64 B, .int .i64 F, .slice A cl.length cap], .slice D l.length dap, .slice E ss.length eap, .agg #[.slice S st.length sap, .slice G cuts.length gap]] w fun e w' => e = .returned (.bool true) ∧ Below w.heap.size w w' := by
  have hc63 : cl.length ≤ 9223372036854775807 := Nat.le_trans hcl (by decide)
  have bw0 : Below w.heap.size w ((w.alloc (.cells #[.int .i64 C, .int .i64 R, .int .i64 B, .int .i64 F, .slice A cl.length cap] 24)).alloc (.cells #[.slice S st.length sap, .slice G cuts.length gap] 56)) := (below_new w (.cells #[.int .i64 C, .int .i64 R, .int .i64 B, .int .i64 F, .slice A cl.length cap] 24)).alloc (by simp) _
  have kH0 : Blk ((w.alloc (.cells #[.int .i64 C, .int .i64 R, .int .i64 B, .int .i64 F, .slice A cl.length cap] 24)).alloc (.cells #[.slice S st.length sap, .slice G cuts.length gap] 56)) w.heap.size 24 #[.int .i64 C, .int .i64 R, .int .i64 B, .int .i64 F, .slice A cl.length cap] := (Blk.new _ _ _).alloc _
  have kR0 : Blk ((w.alloc (.cells #[.int .i64 C, .int .i64 R, .int .i64 B, .int .i64 F, .slice A cl.length cap] 24)).alloc (.cells #[.slice S st.length sap, .slice G cuts.length gap] 56)) (w.heap.size + 1) 56 #[.slice S st.length sap, .slice G cuts.length gap] := Blk.newAt (by simp)
  have iA0 := hr.behind bw0
  have iD0 := hl.behind bw0
  have iE0 := he.behind bw0
  have iS0 := hs.behind bw0
  have iG0 := hg.behind bw0
  obtain ⟨d0, d1, d2, d3, d4⟩ := kH0.five
  have r0 := kR0.cell 0
  have r1 := kR0.cell 1
  clear hr hl he hs hg
  have HS := Lib.hid hsb
  clear hsb
  go_enter Try.func8, Try.ntmps8
  go_wp2_with (first
    | (go_at_call 55; refine (some_any C R B F A cap cl D dap l _ hB hc63 iA0).mono ?_; rw [HS.out]; rintro e w1 ⟨rfl, hb1⟩; have bw1 := below_next bw0 bw0.size hb1; clear bw0; have kH1 := kH0.below hb1 kH0.lt; clear kH0; have kR1 := kR0.below hb1 kR0.lt; clear kR0; have iA1 := iA0.behind hb1; clear iA0; have iD1 := iD0.behind hb1; clear iD0; have iE1 := iE0.behind hb1; clear iE0; have iS1 := iS0.behind hb1; clear iS0; have iG1 := iG0.behind hb1; clear iG0; clear d0 d1 d2 d3 d4; obtain ⟨d0, d1, d2, d3, d4⟩ := kH1.five; clear r0 r1; have r0 := kR1.cell 0; have r1 := kR1.cell 1)
    | (go_at_call 15; refine (sanity_any _).mono ?_; rintro e w2 ⟨rfl, hb2⟩; have bw2 := below_next bw1 bw1.size hb2; clear bw1; have kH2 := kH1.below hb2 kH1.lt; clear kH1; have kR2 := kR1.below hb2 kR1.lt; clear kR1; have iA2 := iA1.behind hb2; clear iA1; have iD2 := iD1.behind hb2; clear iD1; have iE2 := iE1.behind hb2; clear iE1; have iS2 := iS1.behind hb2; clear iS1; have iG2 := iG1.behind hb2; clear iG1; clear d0 d1 d2 d3 d4; obtain ⟨d0, d1, d2, d3, d4⟩ := kH2.five; clear r0 r1; have r0 := kR2.cell 0; have r1 := kR2.cell 1)
    | fail)
  go_ret
  exact ⟨ret_bool rfl, bw2⟩

set_option maxRecDepth 100000 in
set_option maxHeartbeats 2000000 in
theorem provesLaw_o2 (C R B F : Int) (A : Option Addr) (cap : Nat) (cl : List Int) (D : Option Addr) (dap : Nat) (l : List Int) (E : Option Addr) (eap : Nat) (ss : List Int) (S : Option Addr) (sap : Nat) (st : List Int) (G : Option Addr) (gap : Nat) (cuts : List (Int × List Int)) (w : World) (hB : B ≤ 9223372036854775807) (hcl : cl.length ≤ maxLen) (hll : l.length ≤ maxLen) (hel : ss.length ≤ maxLen) (hsl : st.length ≤ maxLen) (hgl : cuts.length ≤ maxLen) (hcc : ∀ c ∈ cuts, c.2.length ≤ maxLen) (hr : Ints w w.heap.size A cl) (hl : Ints w w.heap.size D l) (he : Ints w w.heap.size E ss) (hs : Ints w w.heap.size S st) (hg : CutsC w w.heap.size G cuts) (hsb : someB C R B F cl l = true) (h2 : 210 < ss.length) :
    Calls Try.prog 8 #[.agg #[.int .i64 C, .int .i64 R, .int .i64 B, .int .i64 F, .slice A cl.length cap], .slice D l.length dap, .slice E ss.length eap, .agg #[.slice S st.length sap, .slice G cuts.length gap]] w fun e w' => e = .returned (.bool true) ∧ Below w.heap.size w w' := by
  have hc63 : cl.length ≤ 9223372036854775807 := Nat.le_trans hcl (by decide)
  have bw0 : Below w.heap.size w ((w.alloc (.cells #[.int .i64 C, .int .i64 R, .int .i64 B, .int .i64 F, .slice A cl.length cap] 24)).alloc (.cells #[.slice S st.length sap, .slice G cuts.length gap] 56)) := (below_new w (.cells #[.int .i64 C, .int .i64 R, .int .i64 B, .int .i64 F, .slice A cl.length cap] 24)).alloc (by simp) _
  have kH0 : Blk ((w.alloc (.cells #[.int .i64 C, .int .i64 R, .int .i64 B, .int .i64 F, .slice A cl.length cap] 24)).alloc (.cells #[.slice S st.length sap, .slice G cuts.length gap] 56)) w.heap.size 24 #[.int .i64 C, .int .i64 R, .int .i64 B, .int .i64 F, .slice A cl.length cap] := (Blk.new _ _ _).alloc _
  have kR0 : Blk ((w.alloc (.cells #[.int .i64 C, .int .i64 R, .int .i64 B, .int .i64 F, .slice A cl.length cap] 24)).alloc (.cells #[.slice S st.length sap, .slice G cuts.length gap] 56)) (w.heap.size + 1) 56 #[.slice S st.length sap, .slice G cuts.length gap] := Blk.newAt (by simp)
  have iA0 := hr.behind bw0
  have iD0 := hl.behind bw0
  have iE0 := he.behind bw0
  have iS0 := hs.behind bw0
  have iG0 := hg.behind bw0
  obtain ⟨d0, d1, d2, d3, d4⟩ := kH0.five
  have r0 := kR0.cell 0
  have r1 := kR0.cell 1
  clear hr hl he hs hg
  have HS := Lib.hid hsb
  clear hsb
  have q1 : (210 : Int) < (ss.length : Int) := by omega
  have q2 : decide ((210 : Int) < (ss.length : Int)) = true := decide_eq_true q1
  go_enter Try.func8, Try.ntmps8
  go_wp2_with (first
    | (go_at_call 55; refine (some_any C R B F A cap cl D dap l _ hB hc63 iA0).mono ?_; rw [HS.out]; rintro e w1 ⟨rfl, hb1⟩; have bw1 := below_next bw0 bw0.size hb1; clear bw0; have kH1 := kH0.below hb1 kH0.lt; clear kH0; have kR1 := kR0.below hb1 kR0.lt; clear kR0; have iA1 := iA0.behind hb1; clear iA0; have iD1 := iD0.behind hb1; clear iD0; have iE1 := iE0.behind hb1; clear iE0; have iS1 := iS0.behind hb1; clear iS0; have iG1 := iG0.behind hb1; clear iG0; clear d0 d1 d2 d3 d4; obtain ⟨d0, d1, d2, d3, d4⟩ := kH1.five; clear r0 r1; have r0 := kR1.cell 0; have r1 := kR1.cell 1)
    | (go_at_call 15; refine (sanity_any _).mono ?_; rintro e w2 ⟨rfl, hb2⟩; have bw2 := below_next bw1 bw1.size hb2; clear bw1; have kH2 := kH1.below hb2 kH1.lt; clear kH1; have kR2 := kR1.below hb2 kR1.lt; clear kR1; have iA2 := iA1.behind hb2; clear iA1; have iD2 := iD1.behind hb2; clear iD1; have iE2 := iE1.behind hb2; clear iE1; have iS2 := iS1.behind hb2; clear iS1; have iG2 := iG1.behind hb2; clear iG1; clear d0 d1 d2 d3 d4; obtain ⟨d0, d1, d2, d3, d4⟩ := kH2.five; clear r0 r1; have r0 := kR2.cell 0; have r1 := kR2.cell 1)
    | fail)
  go_ret
  exact ⟨ret_bool rfl, bw2⟩

set_option maxRecDepth 100000 in
set_option maxHeartbeats 2000000 in
theorem provesLaw_o3 (C R B F : Int) (A : Option Addr) (cap : Nat) (cl : List Int) (D : Option Addr) (dap : Nat) (l : List Int) (E : Option Addr) (eap : Nat) (ss : List Int) (S : Option Addr) (sap : Nat) (st : List Int) (G : Option Addr) (gap : Nat) (cuts : List (Int × List Int)) (w : World) (hB : B ≤ 9223372036854775807) (hcl : cl.length ≤ maxLen) (hll : l.length ≤ maxLen) (hel : ss.length ≤ maxLen) (hsl : st.length ≤ maxLen) (hgl : cuts.length ≤ maxLen) (hcc : ∀ c ∈ cuts, c.2.length ≤ maxLen) (hr : Ints w w.heap.size A cl) (hl : Ints w w.heap.size D l) (he : Ints w w.heap.size E ss) (hs : Ints w w.heap.size S st) (hg : CutsC w w.heap.size G cuts) (hsb : someB C R B F cl l = true) (h2 : ss.length ≤ 210) (hrb : roundsB st cuts = false) :
    Calls Try.prog 8 #[.agg #[.int .i64 C, .int .i64 R, .int .i64 B, .int .i64 F, .slice A cl.length cap], .slice D l.length dap, .slice E ss.length eap, .agg #[.slice S st.length sap, .slice G cuts.length gap]] w fun e w' => e = .returned (.bool true) ∧ Below w.heap.size w w' := by
  have hc63 : cl.length ≤ 9223372036854775807 := Nat.le_trans hcl (by decide)
  have bw0 : Below w.heap.size w ((w.alloc (.cells #[.int .i64 C, .int .i64 R, .int .i64 B, .int .i64 F, .slice A cl.length cap] 24)).alloc (.cells #[.slice S st.length sap, .slice G cuts.length gap] 56)) := (below_new w (.cells #[.int .i64 C, .int .i64 R, .int .i64 B, .int .i64 F, .slice A cl.length cap] 24)).alloc (by simp) _
  have kH0 : Blk ((w.alloc (.cells #[.int .i64 C, .int .i64 R, .int .i64 B, .int .i64 F, .slice A cl.length cap] 24)).alloc (.cells #[.slice S st.length sap, .slice G cuts.length gap] 56)) w.heap.size 24 #[.int .i64 C, .int .i64 R, .int .i64 B, .int .i64 F, .slice A cl.length cap] := (Blk.new _ _ _).alloc _
  have kR0 : Blk ((w.alloc (.cells #[.int .i64 C, .int .i64 R, .int .i64 B, .int .i64 F, .slice A cl.length cap] 24)).alloc (.cells #[.slice S st.length sap, .slice G cuts.length gap] 56)) (w.heap.size + 1) 56 #[.slice S st.length sap, .slice G cuts.length gap] := Blk.newAt (by simp)
  have iA0 := hr.behind bw0
  have iD0 := hl.behind bw0
  have iE0 := he.behind bw0
  have iS0 := hs.behind bw0
  have iG0 := hg.behind bw0
  obtain ⟨d0, d1, d2, d3, d4⟩ := kH0.five
  have r0 := kR0.cell 0
  have r1 := kR0.cell 1
  clear hr hl he hs hg
  have HS := Lib.hid hsb
  have HRB := Lib.hid hrb
  clear hsb hrb
  have q1 : ¬ (210 : Int) < (ss.length : Int) := by omega
  have q2 : decide ((210 : Int) < (ss.length : Int)) = false := decide_eq_false q1
  go_enter Try.func8, Try.ntmps8
  go_wp2_with (first
    | (go_at_call 55; refine (some_any C R B F A cap cl D dap l _ hB hc63 iA0).mono ?_; rw [HS.out]; rintro e w1 ⟨rfl, hb1⟩; have bw1 := below_next bw0 bw0.size hb1; clear bw0; have kH1 := kH0.below hb1 kH0.lt; clear kH0; have kR1 := kR0.below hb1 kR0.lt; clear kR0; have iA1 := iA0.behind hb1; clear iA0; have iD1 := iD0.behind hb1; clear iD0; have iE1 := iE0.behind hb1; clear iE0; have iS1 := iS0.behind hb1; clear iS0; have iG1 := iG0.behind hb1; clear iG0; clear d0 d1 d2 d3 d4; obtain ⟨d0, d1, d2, d3, d4⟩ := kH1.five; clear r0 r1; have r0 := kR1.cell 0; have r1 := kR1.cell 1)
    | (go_at_call 36; refine (rounds36_any S sap st G gap cuts _ hsl hgl hcc iG1 false HRB.out.symm).mono ?_; rintro e w2 ⟨rfl, hb2⟩; have bw2 := below_next bw1 bw1.size hb2; clear bw1; have kH2 := kH1.below hb2 kH1.lt; clear kH1; have kR2 := kR1.below hb2 kR1.lt; clear kR1; have iA2 := iA1.behind hb2; clear iA1; have iD2 := iD1.behind hb2; clear iD1; have iE2 := iE1.behind hb2; clear iE1; have iS2 := iS1.behind hb2; clear iS1; have iG2 := iG1.behind hb2; clear iG1; clear d0 d1 d2 d3 d4; obtain ⟨d0, d1, d2, d3, d4⟩ := kH2.five; clear r0 r1; have r0 := kR2.cell 0; have r1 := kR2.cell 1)
    | (go_at_call 15; refine (sanity_any _).mono ?_; rintro e w3 ⟨rfl, hb3⟩; have bw3 := below_next bw2 bw2.size hb3; clear bw2; have kH3 := kH2.below hb3 kH2.lt; clear kH2; have kR3 := kR2.below hb3 kR2.lt; clear kR2; have iA3 := iA2.behind hb3; clear iA2; have iD3 := iD2.behind hb3; clear iD2; have iE3 := iE2.behind hb3; clear iE2; have iS3 := iS2.behind hb3; clear iS2; have iG3 := iG2.behind hb3; clear iG2; clear d0 d1 d2 d3 d4; obtain ⟨d0, d1, d2, d3, d4⟩ := kH3.five; clear r0 r1; have r0 := kR3.cell 0; have r1 := kR3.cell 1)
    | fail)
  go_ret
  exact ⟨ret_bool rfl, bw3⟩

set_option maxRecDepth 100000 in
set_option maxHeartbeats 2000000 in
theorem provesLaw_e1a (C R B F : Int) (A : Option Addr) (cap : Nat) (cl : List Int) (D : Option Addr) (dap : Nat) (l : List Int) (E : Option Addr) (eap : Nat) (ss : List Int) (S : Option Addr) (sap : Nat) (st : List Int) (G : Option Addr) (gap : Nat) (cuts : List (Int × List Int)) (w : World) (hB : B ≤ 9223372036854775807) (hcl : cl.length ≤ maxLen) (hll : l.length ≤ maxLen) (hel : ss.length ≤ maxLen) (hsl : st.length ≤ maxLen) (hgl : cuts.length ≤ maxLen) (hcc : ∀ c ∈ cuts, c.2.length ≤ maxLen) (hr : Ints w w.heap.size A cl) (hl : Ints w w.heap.size D l) (he : Ints w w.heap.size E ss) (hs : Ints w w.heap.size S st) (hg : CutsC w w.heap.size G cuts) (hsb : someB C R B F cl l = true) (h2 : ss.length ≤ 210) (hrb : roundsB st cuts = true) (L LL : List Int) (cs : List (Int × List Int)) (er le cr : Int)
    (C39 : ∀ W : World, Ints W W.heap.size A cl → Ints W W.heap.size D l → Calls Try.prog 39 #[.agg #[.int .i64 C, .int .i64 R, .int .i64 B, .int .i64 F, .slice A cl.length cap], .slice D l.length dap] W (RetFewestC W L cs er))
    (C1 : ∀ W : World, Ints W W.heap.size A cl → Ints W W.heap.size D l → Calls Try.prog 37 #[.agg #[.int .i64 C, .int .i64 R, .int .i64 B, .int .i64 F, .slice A cl.length cap], .slice D l.length dap] W fun e w' => e = .returned (.tuple #[.int .i64 (L.length : Nat), .int .i64 er]) ∧ Below W.heap.size W w')
    (C32 : ∀ W : World, Ints W W.heap.size A cl → Ints W W.heap.size D l → Ints W W.heap.size E ss → Calls Try.prog 32 #[.agg #[.int .i64 C, .int .i64 R, .int .i64 B, .int .i64 F, .slice A cl.length cap], .slice D l.length dap, .slice E ss.length eap] W (RetInts2 W LL le)) (her : er = 1) (hle : le ≠ 0) :
    Calls Try.prog 8 #[.agg #[.int .i64 C, .int .i64 R, .int .i64 B, .int .i64 F, .slice A cl.length cap], .slice D l.length dap, .slice E ss.length eap, .agg #[.slice S st.length sap, .slice G cuts.length gap]] w fun e w' => e = .returned (.bool true) ∧ Below w.heap.size w w' := by
  have hc63 : cl.length ≤ 9223372036854775807 := Nat.le_trans hcl (by decide)
  have bw0 : Below w.heap.size w ((w.alloc (.cells #[.int .i64 C, .int .i64 R, .int .i64 B, .int .i64 F, .slice A cl.length cap] 24)).alloc (.cells #[.slice S st.length sap, .slice G cuts.length gap] 56)) := (below_new w (.cells #[.int .i64 C, .int .i64 R, .int .i64 B, .int .i64 F, .slice A cl.length cap] 24)).alloc (by simp) _
  have kH0 : Blk ((w.alloc (.cells #[.int .i64 C, .int .i64 R, .int .i64 B, .int .i64 F, .slice A cl.length cap] 24)).alloc (.cells #[.slice S st.length sap, .slice G cuts.length gap] 56)) w.heap.size 24 #[.int .i64 C, .int .i64 R, .int .i64 B, .int .i64 F, .slice A cl.length cap] := (Blk.new _ _ _).alloc _
  have kR0 : Blk ((w.alloc (.cells #[.int .i64 C, .int .i64 R, .int .i64 B, .int .i64 F, .slice A cl.length cap] 24)).alloc (.cells #[.slice S st.length sap, .slice G cuts.length gap] 56)) (w.heap.size + 1) 56 #[.slice S st.length sap, .slice G cuts.length gap] := Blk.newAt (by simp)
  have iA0 := hr.behind bw0
  have iD0 := hl.behind bw0
  have iE0 := he.behind bw0
  have iS0 := hs.behind bw0
  have iG0 := hg.behind bw0
  obtain ⟨d0, d1, d2, d3, d4⟩ := kH0.five
  have r0 := kR0.cell 0
  have r1 := kR0.cell 1
  clear hr hl he hs hg
  have HS := Lib.hid hsb
  have HRB := Lib.hid hrb
  have H39 := Lib.hid C39
  have H37 := Lib.hid C1
  have H32 := Lib.hid C32
  clear hsb hrb C39 C1 C32
  have q1 : ¬ (210 : Int) < (ss.length : Int) := by omega
  have q2 : decide ((210 : Int) < (ss.length : Int)) = false := decide_eq_false q1
  subst her
  have l1 : (le == 0) = false := by simpa using hle
  have l2 : (le != 0) = true := by simpa using hle
  clear hle
  go_enter Try.func8, Try.ntmps8
  go_wp2_with (first
    | (go_at_call 55; refine (some_any C R B F A cap cl D dap l _ hB hc63 iA0).mono ?_; rw [HS.out]; rintro e w1 ⟨rfl, hb1⟩; have bw1 := below_next bw0 bw0.size hb1; clear bw0; have kH1 := kH0.below hb1 kH0.lt; clear kH0; have kR1 := kR0.below hb1 kR0.lt; clear kR0; have iA1 := iA0.behind hb1; clear iA0; have iD1 := iD0.behind hb1; clear iD0; have iE1 := iE0.behind hb1; clear iE0; have iS1 := iS0.behind hb1; clear iS0; have iG1 := iG0.behind hb1; clear iG0; clear d0 d1 d2 d3 d4; obtain ⟨d0, d1, d2, d3, d4⟩ := kH1.five; clear r0 r1; have r0 := kR1.cell 0; have r1 := kR1.cell 1)
    | (go_at_call 36; refine (rounds36_any S sap st G gap cuts _ hsl hgl hcc iG1 true HRB.out.symm).mono ?_; rintro e w2 ⟨rfl, hb2⟩; have bw2 := below_next bw1 bw1.size hb2; clear bw1; have kH2 := kH1.below hb2 kH1.lt; clear kH1; have kR2 := kR1.below hb2 kR1.lt; clear kR1; have iA2 := iA1.behind hb2; clear iA1; have iD2 := iD1.behind hb2; clear iD1; have iE2 := iE1.behind hb2; clear iE1; have iS2 := iS1.behind hb2; clear iS1; have iG2 := iG1.behind hb2; clear iG1; clear d0 d1 d2 d3 d4; obtain ⟨d0, d1, d2, d3, d4⟩ := kH2.five; clear r0 r1; have r0 := kR2.cell 0; have r1 := kR2.cell 1)
    | (go_at_call 39; refine (H39.out _ iA2 iD2).mono ?_; rintro e w3 ⟨E2, e2ap, G2, g2ap, rfl, x1', x2', x3', x4', iL3, iC3, hb3⟩; have bw3 := below_next bw2 bw2.size hb3; clear bw2; have kH3 := kH2.below hb3 kH2.lt; clear kH2; have kR3 := kR2.below hb3 kR2.lt; clear kR2; have iA3 := iA2.behind hb3; clear iA2; have iD3 := iD2.behind hb3; clear iD2; have iE3 := iE2.behind hb3; clear iE2; have iS3 := iS2.behind hb3; clear iS2; have iG3 := iG2.behind hb3; clear iG2; have hn4 := below_new w3 (.cells #[.slice E2 L.length e2ap, .slice G2 cs.length g2ap] 56); have bw4 := below_next bw3 bw3.size hn4; clear bw3; have kH4 := kH3.below hn4 kH3.lt; clear kH3; have kR4 := kR3.below hn4 kR3.lt; clear kR3; have iA4 := iA3.behind hn4; clear iA3; have iD4 := iD3.behind hn4; clear iD3; have iE4 := iE3.behind hn4; clear iE3; have iS4 := iS3.behind hn4; clear iS3; have iG4 := iG3.behind hn4; clear iG3; have iL4 := iL3.behind hn4; clear iL3; have iC4 := iC3.behind hn4; clear iC3; have kX4 := Blk.new w3 56 #[.slice E2 L.length e2ap, .slice G2 cs.length g2ap]; clear d0 d1 d2 d3 d4; obtain ⟨d0, d1, d2, d3, d4⟩ := kH4.five; clear r0 r1; have r0 := kR4.cell 0; have r1 := kR4.cell 1; have x0 := kX4.cell 0; have x1 := kX4.cell 1)
    | (go_at_call 37; refine (H37.out _ iA4 iD4).mono ?_; rintro e w5 ⟨rfl, hb5⟩; have bw5 := below_next bw4 bw4.size hb5; clear bw4; have kH5 := kH4.below hb5 kH4.lt; clear kH4; have kR5 := kR4.below hb5 kR4.lt; clear kR4; have iA5 := iA4.behind hb5; clear iA4; have iD5 := iD4.behind hb5; clear iD4; have iE5 := iE4.behind hb5; clear iE4; have iS5 := iS4.behind hb5; clear iS4; have iG5 := iG4.behind hb5; clear iG4; have iL5 := iL4.behind hb5; clear iL4; have iC5 := iC4.behind hb5; clear iC4; have kX5 := kX4.below hb5 kX4.lt; clear kX4; clear d0 d1 d2 d3 d4; obtain ⟨d0, d1, d2, d3, d4⟩ := kH5.five; clear r0 r1; have r0 := kR5.cell 0; have r1 := kR5.cell 1; clear x0 x1; have x0 := kX5.cell 0; have x1 := kX5.cell 1)
    | (go_at_call 32; refine (H32.out _ iA5 iD5 iE5).mono ?_; rintro e w6 ⟨Y, yap, rfl, y1', y2', iY6, hb6⟩; have bw6 := below_next bw5 bw5.size hb6; clear bw5; have kH6 := kH5.below hb6 kH5.lt; clear kH5; have kR6 := kR5.below hb6 kR5.lt; clear kR5; have iA6 := iA5.behind hb6; clear iA5; have iD6 := iD5.behind hb6; clear iD5; have iE6 := iE5.behind hb6; clear iE5; have iS6 := iS5.behind hb6; clear iS5; have iG6 := iG5.behind hb6; clear iG5; have iL6 := iL5.behind hb6; clear iL5; have iC6 := iC5.behind hb6; clear iC5; have kX6 := kX5.below hb6 kX5.lt; clear kX5; clear d0 d1 d2 d3 d4; obtain ⟨d0, d1, d2, d3, d4⟩ := kH6.five; clear r0 r1; have r0 := kR6.cell 0; have r1 := kR6.cell 1; clear x0 x1; have x0 := kX6.cell 0; have x1 := kX6.cell 1)
    | (go_at_call 15; refine (sanity_any _).mono ?_; rintro e w7 ⟨rfl, hb7⟩; have bw7 := below_next bw6 bw6.size hb7; clear bw6; have kH7 := kH6.below hb7 kH6.lt; clear kH6; have kR7 := kR6.below hb7 kR6.lt; clear kR6; have iA7 := iA6.behind hb7; clear iA6; have iD7 := iD6.behind hb7; clear iD6; have iE7 := iE6.behind hb7; clear iE6; have iS7 := iS6.behind hb7; clear iS6; have iG7 := iG6.behind hb7; clear iG6; have iL7 := iL6.behind hb7; clear iL6; have iC7 := iC6.behind hb7; clear iC6; have kX7 := kX6.below hb7 kX6.lt; clear kX6; clear d0 d1 d2 d3 d4; obtain ⟨d0, d1, d2, d3, d4⟩ := kH7.five; clear r0 r1; have r0 := kR7.cell 0; have r1 := kR7.cell 1; clear x0 x1; have x0 := kX7.cell 0; have x1 := kX7.cell 1)
    | fail)
  go_ret
  exact ⟨ret_bool rfl, bw7⟩

set_option maxRecDepth 100000 in
set_option maxHeartbeats 2000000 in
theorem provesLaw_e1b (C R B F : Int) (A : Option Addr) (cap : Nat) (cl : List Int) (D : Option Addr) (dap : Nat) (l : List Int) (E : Option Addr) (eap : Nat) (ss : List Int) (S : Option Addr) (sap : Nat) (st : List Int) (G : Option Addr) (gap : Nat) (cuts : List (Int × List Int)) (w : World) (hB : B ≤ 9223372036854775807) (hcl : cl.length ≤ maxLen) (hll : l.length ≤ maxLen) (hel : ss.length ≤ maxLen) (hsl : st.length ≤ maxLen) (hgl : cuts.length ≤ maxLen) (hcc : ∀ c ∈ cuts, c.2.length ≤ maxLen) (hr : Ints w w.heap.size A cl) (hl : Ints w w.heap.size D l) (he : Ints w w.heap.size E ss) (hs : Ints w w.heap.size S st) (hg : CutsC w w.heap.size G cuts) (hsb : someB C R B F cl l = true) (h2 : ss.length ≤ 210) (hrb : roundsB st cuts = true) (L LL : List Int) (cs : List (Int × List Int)) (er le cr : Int)
    (C39 : ∀ W : World, Ints W W.heap.size A cl → Ints W W.heap.size D l → Calls Try.prog 39 #[.agg #[.int .i64 C, .int .i64 R, .int .i64 B, .int .i64 F, .slice A cl.length cap], .slice D l.length dap] W (RetFewestC W L cs er))
    (C1 : ∀ W : World, Ints W W.heap.size A cl → Ints W W.heap.size D l → Calls Try.prog 37 #[.agg #[.int .i64 C, .int .i64 R, .int .i64 B, .int .i64 F, .slice A cl.length cap], .slice D l.length dap] W fun e w' => e = .returned (.tuple #[.int .i64 (L.length : Nat), .int .i64 er]) ∧ Below W.heap.size W w')
    (C32 : ∀ W : World, Ints W W.heap.size A cl → Ints W W.heap.size D l → Ints W W.heap.size E ss → Calls Try.prog 32 #[.agg #[.int .i64 C, .int .i64 R, .int .i64 B, .int .i64 F, .slice A cl.length cap], .slice D l.length dap, .slice E ss.length eap] W (RetInts2 W LL le)) (her : er = 1) (hle : le = 0) (hL : 0 < LL.length) :
    Calls Try.prog 8 #[.agg #[.int .i64 C, .int .i64 R, .int .i64 B, .int .i64 F, .slice A cl.length cap], .slice D l.length dap, .slice E ss.length eap, .agg #[.slice S st.length sap, .slice G cuts.length gap]] w fun e w' => e = .returned (.bool true) ∧ Below w.heap.size w w' := by
  have hc63 : cl.length ≤ 9223372036854775807 := Nat.le_trans hcl (by decide)
  have bw0 : Below w.heap.size w ((w.alloc (.cells #[.int .i64 C, .int .i64 R, .int .i64 B, .int .i64 F, .slice A cl.length cap] 24)).alloc (.cells #[.slice S st.length sap, .slice G cuts.length gap] 56)) := (below_new w (.cells #[.int .i64 C, .int .i64 R, .int .i64 B, .int .i64 F, .slice A cl.length cap] 24)).alloc (by simp) _
  have kH0 : Blk ((w.alloc (.cells #[.int .i64 C, .int .i64 R, .int .i64 B, .int .i64 F, .slice A cl.length cap] 24)).alloc (.cells #[.slice S st.length sap, .slice G cuts.length gap] 56)) w.heap.size 24 #[.int .i64 C, .int .i64 R, .int .i64 B, .int .i64 F, .slice A cl.length cap] := (Blk.new _ _ _).alloc _
  have kR0 : Blk ((w.alloc (.cells #[.int .i64 C, .int .i64 R, .int .i64 B, .int .i64 F, .slice A cl.length cap] 24)).alloc (.cells #[.slice S st.length sap, .slice G cuts.length gap] 56)) (w.heap.size + 1) 56 #[.slice S st.length sap, .slice G cuts.length gap] := Blk.newAt (by simp)
  have iA0 := hr.behind bw0
  have iD0 := hl.behind bw0
  have iE0 := he.behind bw0
  have iS0 := hs.behind bw0
  have iG0 := hg.behind bw0
  obtain ⟨d0, d1, d2, d3, d4⟩ := kH0.five
  have r0 := kR0.cell 0
  have r1 := kR0.cell 1
  clear hr hl he hs hg
  have HS := Lib.hid hsb
  have HRB := Lib.hid hrb
  have H39 := Lib.hid C39
  have H37 := Lib.hid C1
  have H32 := Lib.hid C32
  clear hsb hrb C39 C1 C32
  have q1 : ¬ (210 : Int) < (ss.length : Int) := by omega
  have q2 : decide ((210 : Int) < (ss.length : Int)) = false := decide_eq_false q1
  subst her
  subst hle
  have l1 : ((LL.length : Int) == 0) = false := beq_eq_false_iff_ne.2 (by omega)
  go_enter Try.func8, Try.ntmps8
  go_wp2_with (first
    | (go_at_call 55; refine (some_any C R B F A cap cl D dap l _ hB hc63 iA0).mono ?_; rw [HS.out]; rintro e w1 ⟨rfl, hb1⟩; have bw1 := below_next bw0 bw0.size hb1; clear bw0; have kH1 := kH0.below hb1 kH0.lt; clear kH0; have kR1 := kR0.below hb1 kR0.lt; clear kR0; have iA1 := iA0.behind hb1; clear iA0; have iD1 := iD0.behind hb1; clear iD0; have iE1 := iE0.behind hb1; clear iE0; have iS1 := iS0.behind hb1; clear iS0; have iG1 := iG0.behind hb1; clear iG0; clear d0 d1 d2 d3 d4; obtain ⟨d0, d1, d2, d3, d4⟩ := kH1.five; clear r0 r1; have r0 := kR1.cell 0; have r1 := kR1.cell 1)
    | (go_at_call 36; refine (rounds36_any S sap st G gap cuts _ hsl hgl hcc iG1 true HRB.out.symm).mono ?_; rintro e w2 ⟨rfl, hb2⟩; have bw2 := below_next bw1 bw1.size hb2; clear bw1; have kH2 := kH1.below hb2 kH1.lt; clear kH1; have kR2 := kR1.below hb2 kR1.lt; clear kR1; have iA2 := iA1.behind hb2; clear iA1; have iD2 := iD1.behind hb2; clear iD1; have iE2 := iE1.behind hb2; clear iE1; have iS2 := iS1.behind hb2; clear iS1; have iG2 := iG1.behind hb2; clear iG1; clear d0 d1 d2 d3 d4; obtain ⟨d0, d1, d2, d3, d4⟩ := kH2.five; clear r0 r1; have r0 := kR2.cell 0; have r1 := kR2.cell 1)
    | (go_at_call 39; refine (H39.out _ iA2 iD2).mono ?_; rintro e w3 ⟨E2, e2ap, G2, g2ap, rfl, x1', x2', x3', x4', iL3, iC3, hb3⟩; have bw3 := below_next bw2 bw2.size hb3; clear bw2; have kH3 := kH2.below hb3 kH2.lt; clear kH2; have kR3 := kR2.below hb3 kR2.lt; clear kR2; have iA3 := iA2.behind hb3; clear iA2; have iD3 := iD2.behind hb3; clear iD2; have iE3 := iE2.behind hb3; clear iE2; have iS3 := iS2.behind hb3; clear iS2; have iG3 := iG2.behind hb3; clear iG2; have hn4 := below_new w3 (.cells #[.slice E2 L.length e2ap, .slice G2 cs.length g2ap] 56); have bw4 := below_next bw3 bw3.size hn4; clear bw3; have kH4 := kH3.below hn4 kH3.lt; clear kH3; have kR4 := kR3.below hn4 kR3.lt; clear kR3; have iA4 := iA3.behind hn4; clear iA3; have iD4 := iD3.behind hn4; clear iD3; have iE4 := iE3.behind hn4; clear iE3; have iS4 := iS3.behind hn4; clear iS3; have iG4 := iG3.behind hn4; clear iG3; have iL4 := iL3.behind hn4; clear iL3; have iC4 := iC3.behind hn4; clear iC3; have kX4 := Blk.new w3 56 #[.slice E2 L.length e2ap, .slice G2 cs.length g2ap]; clear d0 d1 d2 d3 d4; obtain ⟨d0, d1, d2, d3, d4⟩ := kH4.five; clear r0 r1; have r0 := kR4.cell 0; have r1 := kR4.cell 1; have x0 := kX4.cell 0; have x1 := kX4.cell 1)
    | (go_at_call 37; refine (H37.out _ iA4 iD4).mono ?_; rintro e w5 ⟨rfl, hb5⟩; have bw5 := below_next bw4 bw4.size hb5; clear bw4; have kH5 := kH4.below hb5 kH4.lt; clear kH4; have kR5 := kR4.below hb5 kR4.lt; clear kR4; have iA5 := iA4.behind hb5; clear iA4; have iD5 := iD4.behind hb5; clear iD4; have iE5 := iE4.behind hb5; clear iE4; have iS5 := iS4.behind hb5; clear iS4; have iG5 := iG4.behind hb5; clear iG4; have iL5 := iL4.behind hb5; clear iL4; have iC5 := iC4.behind hb5; clear iC4; have kX5 := kX4.below hb5 kX4.lt; clear kX4; clear d0 d1 d2 d3 d4; obtain ⟨d0, d1, d2, d3, d4⟩ := kH5.five; clear r0 r1; have r0 := kR5.cell 0; have r1 := kR5.cell 1; clear x0 x1; have x0 := kX5.cell 0; have x1 := kX5.cell 1)
    | (go_at_call 32; refine (H32.out _ iA5 iD5 iE5).mono ?_; rintro e w6 ⟨Y, yap, rfl, y1', y2', iY6, hb6⟩; have bw6 := below_next bw5 bw5.size hb6; clear bw5; have kH6 := kH5.below hb6 kH5.lt; clear kH5; have kR6 := kR5.below hb6 kR5.lt; clear kR5; have iA6 := iA5.behind hb6; clear iA5; have iD6 := iD5.behind hb6; clear iD5; have iE6 := iE5.behind hb6; clear iE5; have iS6 := iS5.behind hb6; clear iS5; have iG6 := iG5.behind hb6; clear iG5; have iL6 := iL5.behind hb6; clear iL5; have iC6 := iC5.behind hb6; clear iC5; have kX6 := kX5.below hb6 kX5.lt; clear kX5; clear d0 d1 d2 d3 d4; obtain ⟨d0, d1, d2, d3, d4⟩ := kH6.five; clear r0 r1; have r0 := kR6.cell 0; have r1 := kR6.cell 1; clear x0 x1; have x0 := kX6.cell 0; have x1 := kX6.cell 1)
    | (go_at_call 15; refine (sanity_any _).mono ?_; rintro e w7 ⟨rfl, hb7⟩; have bw7 := below_next bw6 bw6.size hb7; clear bw6; have kH7 := kH6.below hb7 kH6.lt; clear kH6; have kR7 := kR6.below hb7 kR6.lt; clear kR6; have iA7 := iA6.behind hb7; clear iA6; have iD7 := iD6.behind hb7; clear iD6; have iE7 := iE6.behind hb7; clear iE6; have iS7 := iS6.behind hb7; clear iS6; have iG7 := iG6.behind hb7; clear iG6; have iL7 := iL6.behind hb7; clear iL6; have iC7 := iC6.behind hb7; clear iC6; have kX7 := kX6.below hb7 kX6.lt; clear kX6; clear d0 d1 d2 d3 d4; obtain ⟨d0, d1, d2, d3, d4⟩ := kH7.five; clear r0 r1; have r0 := kR7.cell 0; have r1 := kR7.cell 1; clear x0 x1; have x0 := kX7.cell 0; have x1 := kX7.cell 1)
    | fail)
  go_ret
  exact ⟨ret_bool rfl, bw7⟩

set_option maxRecDepth 100000 in
set_option maxHeartbeats 2000000 in
theorem provesLaw_e1c (C R B F : Int) (A : Option Addr) (cap : Nat) (cl : List Int) (D : Option Addr) (dap : Nat) (l : List Int) (E : Option Addr) (eap : Nat) (ss : List Int) (S : Option Addr) (sap : Nat) (st : List Int) (G : Option Addr) (gap : Nat) (cuts : List (Int × List Int)) (w : World) (hB : B ≤ 9223372036854775807) (hcl : cl.length ≤ maxLen) (hll : l.length ≤ maxLen) (hel : ss.length ≤ maxLen) (hsl : st.length ≤ maxLen) (hgl : cuts.length ≤ maxLen) (hcc : ∀ c ∈ cuts, c.2.length ≤ maxLen) (hr : Ints w w.heap.size A cl) (hl : Ints w w.heap.size D l) (he : Ints w w.heap.size E ss) (hs : Ints w w.heap.size S st) (hg : CutsC w w.heap.size G cuts) (hsb : someB C R B F cl l = true) (h2 : ss.length ≤ 210) (hrb : roundsB st cuts = true) (L LL : List Int) (cs : List (Int × List Int)) (er le cr : Int)
    (C39 : ∀ W : World, Ints W W.heap.size A cl → Ints W W.heap.size D l → Calls Try.prog 39 #[.agg #[.int .i64 C, .int .i64 R, .int .i64 B, .int .i64 F, .slice A cl.length cap], .slice D l.length dap] W (RetFewestC W L cs er))
    (C1 : ∀ W : World, Ints W W.heap.size A cl → Ints W W.heap.size D l → Calls Try.prog 37 #[.agg #[.int .i64 C, .int .i64 R, .int .i64 B, .int .i64 F, .slice A cl.length cap], .slice D l.length dap] W fun e w' => e = .returned (.tuple #[.int .i64 (L.length : Nat), .int .i64 er]) ∧ Below W.heap.size W w')
    (C32 : ∀ W : World, Ints W W.heap.size A cl → Ints W W.heap.size D l → Ints W W.heap.size E ss → Calls Try.prog 32 #[.agg #[.int .i64 C, .int .i64 R, .int .i64 B, .int .i64 F, .slice A cl.length cap], .slice D l.length dap, .slice E ss.length eap] W (RetInts2 W LL le)) (her : er = 1) (hle : le = 0) (hL : LL = []) :
    Calls Try.prog 8 #[.agg #[.int .i64 C, .int .i64 R, .int .i64 B, .int .i64 F, .slice A cl.length cap], .slice D l.length dap, .slice E ss.length eap, .agg #[.slice S st.length sap, .slice G cuts.length gap]] w fun e w' => e = .returned (.bool true) ∧ Below w.heap.size w w' := by
  have hc63 : cl.length ≤ 9223372036854775807 := Nat.le_trans hcl (by decide)
  have bw0 : Below w.heap.size w ((w.alloc (.cells #[.int .i64 C, .int .i64 R, .int .i64 B, .int .i64 F, .slice A cl.length cap] 24)).alloc (.cells #[.slice S st.length sap, .slice G cuts.length gap] 56)) := (below_new w (.cells #[.int .i64 C, .int .i64 R, .int .i64 B, .int .i64 F, .slice A cl.length cap] 24)).alloc (by simp) _
  have kH0 : Blk ((w.alloc (.cells #[.int .i64 C, .int .i64 R, .int .i64 B, .int .i64 F, .slice A cl.length cap] 24)).alloc (.cells #[.slice S st.length sap, .slice G cuts.length gap] 56)) w.heap.size 24 #[.int .i64 C, .int .i64 R, .int .i64 B, .int .i64 F, .slice A cl.length cap] := (Blk.new _ _ _).alloc _
  have kR0 : Blk ((w.alloc (.cells #[.int .i64 C, .int .i64 R, .int .i64 B, .int .i64 F, .slice A cl.length cap] 24)).alloc (.cells #[.slice S st.length sap, .slice G cuts.length gap] 56)) (w.heap.size + 1) 56 #[.slice S st.length sap, .slice G cuts.length gap] := Blk.newAt (by simp)
  have iA0 := hr.behind bw0
  have iD0 := hl.behind bw0
  have iE0 := he.behind bw0
  have iS0 := hs.behind bw0
  have iG0 := hg.behind bw0
  obtain ⟨d0, d1, d2, d3, d4⟩ := kH0.five
  have r0 := kR0.cell 0
  have r1 := kR0.cell 1
  clear hr hl he hs hg
  have HS := Lib.hid hsb
  have HRB := Lib.hid hrb
  have H39 := Lib.hid C39
  have H37 := Lib.hid C1
  have H32 := Lib.hid C32
  clear hsb hrb C39 C1 C32
  have q1 : ¬ (210 : Int) < (ss.length : Int) := by omega
  have q2 : decide ((210 : Int) < (ss.length : Int)) = false := decide_eq_false q1
  subst her
  subst hle
  subst hL
  go_enter Try.func8, Try.ntmps8
  go_wp2_with (first
    | (go_at_call 55; refine (some_any C R B F A cap cl D dap l _ hB hc63 iA0).mono ?_; rw [HS.out]; rintro e w1 ⟨rfl, hb1⟩; have bw1 := below_next bw0 bw0.size hb1; clear bw0; have kH1 := kH0.below hb1 kH0.lt; clear kH0; have kR1 := kR0.below hb1 kR0.lt; clear kR0; have iA1 := iA0.behind hb1; clear iA0; have iD1 := iD0.behind hb1; clear iD0; have iE1 := iE0.behind hb1; clear iE0; have iS1 := iS0.behind hb1; clear iS0; have iG1 := iG0.behind hb1; clear iG0; clear d0 d1 d2 d3 d4; obtain ⟨d0, d1, d2, d3, d4⟩ := kH1.five; clear r0 r1; have r0 := kR1.cell 0; have r1 := kR1.cell 1)
    | (go_at_call 36; refine (rounds36_any S sap st G gap cuts _ hsl hgl hcc iG1 true HRB.out.symm).mono ?_; rintro e w2 ⟨rfl, hb2⟩; have bw2 := below_next bw1 bw1.size hb2; clear bw1; have kH2 := kH1.below hb2 kH1.lt; clear kH1; have kR2 := kR1.below hb2 kR1.lt; clear kR1; have iA2 := iA1.behind hb2; clear iA1; have iD2 := iD1.behind hb2; clear iD1; have iE2 := iE1.behind hb2; clear iE1; have iS2 := iS1.behind hb2; clear iS1; have iG2 := iG1.behind hb2; clear iG1; clear d0 d1 d2 d3 d4; obtain ⟨d0, d1, d2, d3, d4⟩ := kH2.five; clear r0 r1; have r0 := kR2.cell 0; have r1 := kR2.cell 1)
    | (go_at_call 39; refine (H39.out _ iA2 iD2).mono ?_; rintro e w3 ⟨E2, e2ap, G2, g2ap, rfl, x1', x2', x3', x4', iL3, iC3, hb3⟩; have bw3 := below_next bw2 bw2.size hb3; clear bw2; have kH3 := kH2.below hb3 kH2.lt; clear kH2; have kR3 := kR2.below hb3 kR2.lt; clear kR2; have iA3 := iA2.behind hb3; clear iA2; have iD3 := iD2.behind hb3; clear iD2; have iE3 := iE2.behind hb3; clear iE2; have iS3 := iS2.behind hb3; clear iS2; have iG3 := iG2.behind hb3; clear iG2; have hn4 := below_new w3 (.cells #[.slice E2 L.length e2ap, .slice G2 cs.length g2ap] 56); have bw4 := below_next bw3 bw3.size hn4; clear bw3; have kH4 := kH3.below hn4 kH3.lt; clear kH3; have kR4 := kR3.below hn4 kR3.lt; clear kR3; have iA4 := iA3.behind hn4; clear iA3; have iD4 := iD3.behind hn4; clear iD3; have iE4 := iE3.behind hn4; clear iE3; have iS4 := iS3.behind hn4; clear iS3; have iG4 := iG3.behind hn4; clear iG3; have iL4 := iL3.behind hn4; clear iL3; have iC4 := iC3.behind hn4; clear iC3; have kX4 := Blk.new w3 56 #[.slice E2 L.length e2ap, .slice G2 cs.length g2ap]; clear d0 d1 d2 d3 d4; obtain ⟨d0, d1, d2, d3, d4⟩ := kH4.five; clear r0 r1; have r0 := kR4.cell 0; have r1 := kR4.cell 1; have x0 := kX4.cell 0; have x1 := kX4.cell 1)
    | (go_at_call 37; refine (H37.out _ iA4 iD4).mono ?_; rintro e w5 ⟨rfl, hb5⟩; have bw5 := below_next bw4 bw4.size hb5; clear bw4; have kH5 := kH4.below hb5 kH4.lt; clear kH4; have kR5 := kR4.below hb5 kR4.lt; clear kR4; have iA5 := iA4.behind hb5; clear iA4; have iD5 := iD4.behind hb5; clear iD4; have iE5 := iE4.behind hb5; clear iE4; have iS5 := iS4.behind hb5; clear iS4; have iG5 := iG4.behind hb5; clear iG4; have iL5 := iL4.behind hb5; clear iL4; have iC5 := iC4.behind hb5; clear iC4; have kX5 := kX4.below hb5 kX4.lt; clear kX4; clear d0 d1 d2 d3 d4; obtain ⟨d0, d1, d2, d3, d4⟩ := kH5.five; clear r0 r1; have r0 := kR5.cell 0; have r1 := kR5.cell 1; clear x0 x1; have x0 := kX5.cell 0; have x1 := kX5.cell 1)
    | (go_at_call 32; refine (H32.out _ iA5 iD5 iE5).mono ?_; rintro e w6 ⟨Y, yap, rfl, y1', y2', iY6, hb6⟩; have bw6 := below_next bw5 bw5.size hb6; clear bw5; have kH6 := kH5.below hb6 kH5.lt; clear kH5; have kR6 := kR5.below hb6 kR5.lt; clear kR5; have iA6 := iA5.behind hb6; clear iA5; have iD6 := iD5.behind hb6; clear iD5; have iE6 := iE5.behind hb6; clear iE5; have iS6 := iS5.behind hb6; clear iS5; have iG6 := iG5.behind hb6; clear iG5; have iL6 := iL5.behind hb6; clear iL5; have iC6 := iC5.behind hb6; clear iC5; have kX6 := kX5.below hb6 kX5.lt; clear kX5; clear d0 d1 d2 d3 d4; obtain ⟨d0, d1, d2, d3, d4⟩ := kH6.five; clear r0 r1; have r0 := kR6.cell 0; have r1 := kR6.cell 1; clear x0 x1; have x0 := kX6.cell 0; have x1 := kX6.cell 1)
    | (go_at_call 15; refine (sanity_any _).mono ?_; rintro e w7 ⟨rfl, hb7⟩; have bw7 := below_next bw6 bw6.size hb7; clear bw6; have kH7 := kH6.below hb7 kH6.lt; clear kH6; have kR7 := kR6.below hb7 kR6.lt; clear kR6; have iA7 := iA6.behind hb7; clear iA6; have iD7 := iD6.behind hb7; clear iD6; have iE7 := iE6.behind hb7; clear iE6; have iS7 := iS6.behind hb7; clear iS6; have iG7 := iG6.behind hb7; clear iG6; have iL7 := iL6.behind hb7; clear iL6; have iC7 := iC6.behind hb7; clear iC6; have kX7 := kX6.below hb7 kX6.lt; clear kX6; clear d0 d1 d2 d3 d4; obtain ⟨d0, d1, d2, d3, d4⟩ := kH7.five; clear r0 r1; have r0 := kR7.cell 0; have r1 := kR7.cell 1; clear x0 x1; have x0 := kX7.cell 0; have x1 := kX7.cell 1)
    | fail)
  go_ret
  exact ⟨ret_bool rfl, bw7⟩

set_option maxRecDepth 100000 in
set_option maxHeartbeats 2000000 in
theorem provesLaw_e5a (C R B F : Int) (A : Option Addr) (cap : Nat) (cl : List Int) (D : Option Addr) (dap : Nat) (l : List Int) (E : Option Addr) (eap : Nat) (ss : List Int) (S : Option Addr) (sap : Nat) (st : List Int) (G : Option Addr) (gap : Nat) (cuts : List (Int × List Int)) (w : World) (hB : B ≤ 9223372036854775807) (hcl : cl.length ≤ maxLen) (hll : l.length ≤ maxLen) (hel : ss.length ≤ maxLen) (hsl : st.length ≤ maxLen) (hgl : cuts.length ≤ maxLen) (hcc : ∀ c ∈ cuts, c.2.length ≤ maxLen) (hr : Ints w w.heap.size A cl) (hl : Ints w w.heap.size D l) (he : Ints w w.heap.size E ss) (hs : Ints w w.heap.size S st) (hg : CutsC w w.heap.size G cuts) (hsb : someB C R B F cl l = true) (h2 : ss.length ≤ 210) (hrb : roundsB st cuts = true) (L LL : List Int) (cs : List (Int × List Int)) (er le cr : Int)
    (C39 : ∀ W : World, Ints W W.heap.size A cl → Ints W W.heap.size D l → Calls Try.prog 39 #[.agg #[.int .i64 C, .int .i64 R, .int .i64 B, .int .i64 F, .slice A cl.length cap], .slice D l.length dap] W (RetFewestC W L cs er))
    (C1 : ∀ W : World, Ints W W.heap.size A cl → Ints W W.heap.size D l → Calls Try.prog 37 #[.agg #[.int .i64 C, .int .i64 R, .int .i64 B, .int .i64 F, .slice A cl.length cap], .slice D l.length dap] W fun e w' => e = .returned (.tuple #[.int .i64 (L.length : Nat), .int .i64 er]) ∧ Below W.heap.size W w')
    (C32 : ∀ W : World, Ints W W.heap.size A cl → Ints W W.heap.size D l → Ints W W.heap.size E ss → Calls Try.prog 32 #[.agg #[.int .i64 C, .int .i64 R, .int .i64 B, .int .i64 F, .slice A cl.length cap], .slice D l.length dap, .slice E ss.length eap] W (RetInts2 W LL le)) (her : er = 5) (hle : le ≠ 0) :
    Calls Try.prog 8 #[.agg #[.int .i64 C, .int .i64 R, .int .i64 B, .int .i64 F, .slice A cl.length cap], .slice D l.length dap, .slice E ss.length eap, .agg #[.slice S st.length sap, .slice G cuts.length gap]] w fun e w' => e = .returned (.bool true) ∧ Below w.heap.size w w' := by
  have hc63 : cl.length ≤ 9223372036854775807 := Nat.le_trans hcl (by decide)
  have bw0 : Below w.heap.size w ((w.alloc (.cells #[.int .i64 C, .int .i64 R, .int .i64 B, .int .i64 F, .slice A cl.length cap] 24)).alloc (.cells #[.slice S st.length sap, .slice G cuts.length gap] 56)) := (below_new w (.cells #[.int .i64 C, .int .i64 R, .int .i64 B, .int .i64 F, .slice A cl.length cap] 24)).alloc (by simp) _
  have kH0 : Blk ((w.alloc (.cells #[.int .i64 C, .int .i64 R, .int .i64 B, .int .i64 F, .slice A cl.length cap] 24)).alloc (.cells #[.slice S st.length sap, .slice G cuts.length gap] 56)) w.heap.size 24 #[.int .i64 C, .int .i64 R, .int .i64 B, .int .i64 F, .slice A cl.length cap] := (Blk.new _ _ _).alloc _
  have kR0 : Blk ((w.alloc (.cells #[.int .i64 C, .int .i64 R, .int .i64 B, .int .i64 F, .slice A cl.length cap] 24)).alloc (.cells #[.slice S st.length sap, .slice G cuts.length gap] 56)) (w.heap.size + 1) 56 #[.slice S st.length sap, .slice G cuts.length gap] := Blk.newAt (by simp)
  have iA0 := hr.behind bw0
  have iD0 := hl.behind bw0
  have iE0 := he.behind bw0
  have iS0 := hs.behind bw0
  have iG0 := hg.behind bw0
  obtain ⟨d0, d1, d2, d3, d4⟩ := kH0.five
  have r0 := kR0.cell 0
  have r1 := kR0.cell 1
  clear hr hl he hs hg
  have HS := Lib.hid hsb
  have HRB := Lib.hid hrb
  have H39 := Lib.hid C39
  have H37 := Lib.hid C1
  have H32 := Lib.hid C32
  clear hsb hrb C39 C1 C32
  have q1 : ¬ (210 : Int) < (ss.length : Int) := by omega
  have q2 : decide ((210 : Int) < (ss.length : Int)) = false := decide_eq_false q1
  subst her
  have l1 : (le == 0) = false := by simpa using hle
  have l2 : (le != 0) = true := by simpa using hle
  clear hle
  go_enter Try.func8, Try.ntmps8
  go_wp2_with (first
    | (go_at_call 55; refine (some_any C R B F A cap cl D dap l _ hB hc63 iA0).mono ?_; rw [HS.out]; rintro e w1 ⟨rfl, hb1⟩; have bw1 := below_next bw0 bw0.size hb1; clear bw0; have kH1 := kH0.below hb1 kH0.lt; clear kH0; have kR1 := kR0.below hb1 kR0.lt; clear kR0; have iA1 := iA0.behind hb1; clear iA0; have iD1 := iD0.behind hb1; clear iD0; have iE1 := iE0.behind hb1; clear iE0; have iS1 := iS0.behind hb1; clear iS0; have iG1 := iG0.behind hb1; clear iG0; clear d0 d1 d2 d3 d4; obtain ⟨d0, d1, d2, d3, d4⟩ := kH1.five; clear r0 r1; have r0 := kR1.cell 0; have r1 := kR1.cell 1)
    | (go_at_call 36; refine (rounds36_any S sap st G gap cuts _ hsl hgl hcc iG1 true HRB.out.symm).mono ?_; rintro e w2 ⟨rfl, hb2⟩; have bw2 := below_next bw1 bw1.size hb2; clear bw1; have kH2 := kH1.below hb2 kH1.lt; clear kH1; have kR2 := kR1.below hb2 kR1.lt; clear kR1; have iA2 := iA1.behind hb2; clear iA1; have iD2 := iD1.behind hb2; clear iD1; have iE2 := iE1.behind hb2; clear iE1; have iS2 := iS1.behind hb2; clear iS1; have iG2 := iG1.behind hb2; clear iG1; clear d0 d1 d2 d3 d4; obtain ⟨d0, d1, d2, d3, d4⟩ := kH2.five; clear r0 r1; have r0 := kR2.cell 0; have r1 := kR2.cell 1)
    | (go_at_call 39; refine (H39.out _ iA2 iD2).mono ?_; rintro e w3 ⟨E2, e2ap, G2, g2ap, rfl, x1', x2', x3', x4', iL3, iC3, hb3⟩; have bw3 := below_next bw2 bw2.size hb3; clear bw2; have kH3 := kH2.below hb3 kH2.lt; clear kH2; have kR3 := kR2.below hb3 kR2.lt; clear kR2; have iA3 := iA2.behind hb3; clear iA2; have iD3 := iD2.behind hb3; clear iD2; have iE3 := iE2.behind hb3; clear iE2; have iS3 := iS2.behind hb3; clear iS2; have iG3 := iG2.behind hb3; clear iG2; have hn4 := below_new w3 (.cells #[.slice E2 L.length e2ap, .slice G2 cs.length g2ap] 56); have bw4 := below_next bw3 bw3.size hn4; clear bw3; have kH4 := kH3.below hn4 kH3.lt; clear kH3; have kR4 := kR3.below hn4 kR3.lt; clear kR3; have iA4 := iA3.behind hn4; clear iA3; have iD4 := iD3.behind hn4; clear iD3; have iE4 := iE3.behind hn4; clear iE3; have iS4 := iS3.behind hn4; clear iS3; have iG4 := iG3.behind hn4; clear iG3; have iL4 := iL3.behind hn4; clear iL3; have iC4 := iC3.behind hn4; clear iC3; have kX4 := Blk.new w3 56 #[.slice E2 L.length e2ap, .slice G2 cs.length g2ap]; clear d0 d1 d2 d3 d4; obtain ⟨d0, d1, d2, d3, d4⟩ := kH4.five; clear r0 r1; have r0 := kR4.cell 0; have r1 := kR4.cell 1; have x0 := kX4.cell 0; have x1 := kX4.cell 1)
    | (go_at_call 37; refine (H37.out _ iA4 iD4).mono ?_; rintro e w5 ⟨rfl, hb5⟩; have bw5 := below_next bw4 bw4.size hb5; clear bw4; have kH5 := kH4.below hb5 kH4.lt; clear kH4; have kR5 := kR4.below hb5 kR4.lt; clear kR4; have iA5 := iA4.behind hb5; clear iA4; have iD5 := iD4.behind hb5; clear iD4; have iE5 := iE4.behind hb5; clear iE4; have iS5 := iS4.behind hb5; clear iS4; have iG5 := iG4.behind hb5; clear iG4; have iL5 := iL4.behind hb5; clear iL4; have iC5 := iC4.behind hb5; clear iC4; have kX5 := kX4.below hb5 kX4.lt; clear kX4; clear d0 d1 d2 d3 d4; obtain ⟨d0, d1, d2, d3, d4⟩ := kH5.five; clear r0 r1; have r0 := kR5.cell 0; have r1 := kR5.cell 1; clear x0 x1; have x0 := kX5.cell 0; have x1 := kX5.cell 1)
    | (go_at_call 32; refine (H32.out _ iA5 iD5 iE5).mono ?_; rintro e w6 ⟨Y, yap, rfl, y1', y2', iY6, hb6⟩; have bw6 := below_next bw5 bw5.size hb6; clear bw5; have kH6 := kH5.below hb6 kH5.lt; clear kH5; have kR6 := kR5.below hb6 kR5.lt; clear kR5; have iA6 := iA5.behind hb6; clear iA5; have iD6 := iD5.behind hb6; clear iD5; have iE6 := iE5.behind hb6; clear iE5; have iS6 := iS5.behind hb6; clear iS5; have iG6 := iG5.behind hb6; clear iG5; have iL6 := iL5.behind hb6; clear iL5; have iC6 := iC5.behind hb6; clear iC5; have kX6 := kX5.below hb6 kX5.lt; clear kX5; clear d0 d1 d2 d3 d4; obtain ⟨d0, d1, d2, d3, d4⟩ := kH6.five; clear r0 r1; have r0 := kR6.cell 0; have r1 := kR6.cell 1; clear x0 x1; have x0 := kX6.cell 0; have x1 := kX6.cell 1)
    | (go_at_call 15; refine (sanity_any _).mono ?_; rintro e w7 ⟨rfl, hb7⟩; have bw7 := below_next bw6 bw6.size hb7; clear bw6; have kH7 := kH6.below hb7 kH6.lt; clear kH6; have kR7 := kR6.below hb7 kR6.lt; clear kR6; have iA7 := iA6.behind hb7; clear iA6; have iD7 := iD6.behind hb7; clear iD6; have iE7 := iE6.behind hb7; clear iE6; have iS7 := iS6.behind hb7; clear iS6; have iG7 := iG6.behind hb7; clear iG6; have iL7 := iL6.behind hb7; clear iL6; have iC7 := iC6.behind hb7; clear iC6; have kX7 := kX6.below hb7 kX6.lt; clear kX6; clear d0 d1 d2 d3 d4; obtain ⟨d0, d1, d2, d3, d4⟩ := kH7.five; clear r0 r1; have r0 := kR7.cell 0; have r1 := kR7.cell 1; clear x0 x1; have x0 := kX7.cell 0; have x1 := kX7.cell 1)
    | fail)
  go_ret
  exact ⟨ret_bool rfl, bw7⟩

set_option maxRecDepth 100000 in
set_option maxHeartbeats 2000000 in
theorem provesLaw_e5b (C R B F : Int) (A : Option Addr) (cap : Nat) (cl : List Int) (D : Option Addr) (dap : Nat) (l : List Int) (E : Option Addr) (eap : Nat) (ss : List Int) (S : Option Addr) (sap : Nat) (st : List Int) (G : Option Addr) (gap : Nat) (cuts : List (Int × List Int)) (w : World) (hB : B ≤ 9223372036854775807) (hcl : cl.length ≤ maxLen) (hll : l.length ≤ maxLen) (hel : ss.length ≤ maxLen) (hsl : st.length ≤ maxLen) (hgl : cuts.length ≤ maxLen) (hcc : ∀ c ∈ cuts, c.2.length ≤ maxLen) (hr : Ints w w.heap.size A cl) (hl : Ints w w.heap.size D l) (he : Ints w w.heap.size E ss) (hs : Ints w w.heap.size S st) (hg : CutsC w w.heap.size G cuts) (hsb : someB C R B F cl l = true) (h2 : ss.length ≤ 210) (hrb : roundsB st cuts = true) (L LL : List Int) (cs : List (Int × List Int)) (er le cr : Int)
    (C39 : ∀ W : World, Ints W W.heap.size A cl → Ints W W.heap.size D l → Calls Try.prog 39 #[.agg #[.int .i64 C, .int .i64 R, .int .i64 B, .int .i64 F, .slice A cl.length cap], .slice D l.length dap] W (RetFewestC W L cs er))
    (C1 : ∀ W : World, Ints W W.heap.size A cl → Ints W W.heap.size D l → Calls Try.prog 37 #[.agg #[.int .i64 C, .int .i64 R, .int .i64 B, .int .i64 F, .slice A cl.length cap], .slice D l.length dap] W fun e w' => e = .returned (.tuple #[.int .i64 (L.length : Nat), .int .i64 er]) ∧ Below W.heap.size W w')
    (C32 : ∀ W : World, Ints W W.heap.size A cl → Ints W W.heap.size D l → Ints W W.heap.size E ss → Calls Try.prog 32 #[.agg #[.int .i64 C, .int .i64 R, .int .i64 B, .int .i64 F, .slice A cl.length cap], .slice D l.length dap, .slice E ss.length eap] W (RetInts2 W LL le)) (her : er = 5) (hle : le = 0) (hL : 0 < LL.length) :
    Calls Try.prog 8 #[.agg #[.int .i64 C, .int .i64 R, .int .i64 B, .int .i64 F, .slice A cl.length cap], .slice D l.length dap, .slice E ss.length eap, .agg #[.slice S st.length sap, .slice G cuts.length gap]] w fun e w' => e = .returned (.bool true) ∧ Below w.heap.size w w' := by
  have hc63 : cl.length ≤ 9223372036854775807 := Nat.le_trans hcl (by decide)
  have bw0 : Below w.heap.size w ((w.alloc (.cells #[.int .i64 C, .int .i64 R, .int .i64 B, .int .i64 F, .slice A cl.length cap] 24)).alloc (.cells #[.slice S st.length sap, .slice G cuts.length gap] 56)) := (below_new w (.cells #[.int .i64 C, .int .i64 R, .int .i64 B, .int .i64 F, .slice A cl.length cap] 24)).alloc (by simp) _
  have kH0 : Blk ((w.alloc (.cells #[.int .i64 C, .int .i64 R, .int .i64 B, .int .i64 F, .slice A cl.length cap] 24)).alloc (.cells #[.slice S st.length sap, .slice G cuts.length gap] 56)) w.heap.size 24 #[.int .i64 C, .int .i64 R, .int .i64 B, .int .i64 F, .slice A cl.length cap] := (Blk.new _ _ _).alloc _
  have kR0 : Blk ((w.alloc (.cells #[.int .i64 C, .int .i64 R, .int .i64 B, .int .i64 F, .slice A cl.length cap] 24)).alloc (.cells #[.slice S st.length sap, .slice G cuts.length gap] 56)) (w.heap.size + 1) 56 #[.slice S st.length sap, .slice G cuts.length gap] := Blk.newAt (by simp)
  have iA0 := hr.behind bw0
  have iD0 := hl.behind bw0
  have iE0 := he.behind bw0
  have iS0 := hs.behind bw0
  have iG0 := hg.behind bw0
  obtain ⟨d0, d1, d2, d3, d4⟩ := kH0.five
  have r0 := kR0.cell 0
  have r1 := kR0.cell 1
  clear hr hl he hs hg
  have HS := Lib.hid hsb
  have HRB := Lib.hid hrb
  have H39 := Lib.hid C39
  have H37 := Lib.hid C1
  have H32 := Lib.hid C32
  clear hsb hrb C39 C1 C32
  have q1 : ¬ (210 : Int) < (ss.length : Int) := by omega
  have q2 : decide ((210 : Int) < (ss.length : Int)) = false := decide_eq_false q1
  subst her
  subst hle
  have l1 : ((LL.length : Int) == 0) = false := beq_eq_false_iff_ne.2 (by omega)
  go_enter Try.func8, Try.ntmps8
  go_wp2_with (first
    | (go_at_call 55; refine (some_any C R B F A cap cl D dap l _ hB hc63 iA0).mono ?_; rw [HS.out]; rintro e w1 ⟨rfl, hb1⟩; have bw1 := below_next bw0 bw0.size hb1; clear bw0; have kH1 := kH0.below hb1 kH0.lt; clear kH0; have kR1 := kR0.below hb1 kR0.lt; clear kR0; have iA1 := iA0.behind hb1; clear iA0; have iD1 := iD0.behind hb1; clear iD0; have iE1 := iE0.behind hb1; clear iE0; have iS1 := iS0.behind hb1; clear iS0; have iG1 := iG0.behind hb1; clear iG0; clear d0 d1 d2 d3 d4; obtain ⟨d0, d1, d2, d3, d4⟩ := kH1.five; clear r0 r1; have r0 := kR1.cell 0; have r1 := kR1.cell 1)
    | (go_at_call 36; refine (rounds36_any S sap st G gap cuts _ hsl hgl hcc iG1 true HRB.out.symm).mono ?_; rintro e w2 ⟨rfl, hb2⟩; have bw2 := below_next bw1 bw1.size hb2; clear bw1; have kH2 := kH1.below hb2 kH1.lt; clear kH1; have kR2 := kR1.below hb2 kR1.lt; clear kR1; have iA2 := iA1.behind hb2; clear iA1; have iD2 := iD1.behind hb2; clear iD1; have iE2 := iE1.behind hb2; clear iE1; have iS2 := iS1.behind hb2; clear iS1; have iG2 := iG1.behind hb2; clear iG1; clear d0 d1 d2 d3 d4; obtain ⟨d0, d1, d2, d3, d4⟩ := kH2.five; clear r0 r1; have r0 := kR2.cell 0; have r1 := kR2.cell 1)
    | (go_at_call 39; refine (H39.out _ iA2 iD2).mono ?_; rintro e w3 ⟨E2, e2ap, G2, g2ap, rfl, x1', x2', x3', x4', iL3, iC3, hb3⟩; have bw3 := below_next bw2 bw2.size hb3; clear bw2; have kH3 := kH2.below hb3 kH2.lt; clear kH2; have kR3 := kR2.below hb3 kR2.lt; clear kR2; have iA3 := iA2.behind hb3; clear iA2; have iD3 := iD2.behind hb3; clear iD2; have iE3 := iE2.behind hb3; clear iE2; have iS3 := iS2.behind hb3; clear iS2; have iG3 := iG2.behind hb3; clear iG2; have hn4 := below_new w3 (.cells #[.slice E2 L.length e2ap, .slice G2 cs.length g2ap] 56); have bw4 := below_next bw3 bw3.size hn4; clear bw3; have kH4 := kH3.below hn4 kH3.lt; clear kH3; have kR4 := kR3.below hn4 kR3.lt; clear kR3; have iA4 := iA3.behind hn4; clear iA3; have iD4 := iD3.behind hn4; clear iD3; have iE4 := iE3.behind hn4; clear iE3; have iS4 := iS3.behind hn4; clear iS3; have iG4 := iG3.behind hn4; clear iG3; have iL4 := iL3.behind hn4; clear iL3; have iC4 := iC3.behind hn4; clear iC3; have kX4 := Blk.new w3 56 #[.slice E2 L.length e2ap, .slice G2 cs.length g2ap]; clear d0 d1 d2 d3 d4; obtain ⟨d0, d1, d2, d3, d4⟩ := kH4.five; clear r0 r1; have r0 := kR4.cell 0; have r1 := kR4.cell 1; have x0 := kX4.cell 0; have x1 := kX4.cell 1)
    | (go_at_call 37; refine (H37.out _ iA4 iD4).mono ?_; rintro e w5 ⟨rfl, hb5⟩; have bw5 := below_next bw4 bw4.size hb5; clear bw4; have kH5 := kH4.below hb5 kH4.lt; clear kH4; have kR5 := kR4.below hb5 kR4.lt; clear kR4; have iA5 := iA4.behind hb5; clear iA4; have iD5 := iD4.behind hb5; clear iD4; have iE5 := iE4.behind hb5; clear iE4; have iS5 := iS4.behind hb5; clear iS4; have iG5 := iG4.behind hb5; clear iG4; have iL5 := iL4.behind hb5; clear iL4; have iC5 := iC4.behind hb5; clear iC4; have kX5 := kX4.below hb5 kX4.lt; clear kX4; clear d0 d1 d2 d3 d4; obtain ⟨d0, d1, d2, d3, d4⟩ := kH5.five; clear r0 r1; have r0 := kR5.cell 0; have r1 := kR5.cell 1; clear x0 x1; have x0 := kX5.cell 0; have x1 := kX5.cell 1)
    | (go_at_call 32; refine (H32.out _ iA5 iD5 iE5).mono ?_; rintro e w6 ⟨Y, yap, rfl, y1', y2', iY6, hb6⟩; have bw6 := below_next bw5 bw5.size hb6; clear bw5; have kH6 := kH5.below hb6 kH5.lt; clear kH5; have kR6 := kR5.below hb6 kR5.lt; clear kR5; have iA6 := iA5.behind hb6; clear iA5; have iD6 := iD5.behind hb6; clear iD5; have iE6 := iE5.behind hb6; clear iE5; have iS6 := iS5.behind hb6; clear iS5; have iG6 := iG5.behind hb6; clear iG5; have iL6 := iL5.behind hb6; clear iL5; have iC6 := iC5.behind hb6; clear iC5; have kX6 := kX5.below hb6 kX5.lt; clear kX5; clear d0 d1 d2 d3 d4; obtain ⟨d0, d1, d2, d3, d4⟩ := kH6.five; clear r0 r1; have r0 := kR6.cell 0; have r1 := kR6.cell 1; clear x0 x1; have x0 := kX6.cell 0; have x1 := kX6.cell 1)
    | (go_at_call 15; refine (sanity_any _).mono ?_; rintro e w7 ⟨rfl, hb7⟩; have bw7 := below_next bw6 bw6.size hb7; clear bw6; have kH7 := kH6.below hb7 kH6.lt; clear kH6; have kR7 := kR6.below hb7 kR6.lt; clear kR6; have iA7 := iA6.behind hb7; clear iA6; have iD7 := iD6.behind hb7; clear iD6; have iE7 := iE6.behind hb7; clear iE6; have iS7 := iS6.behind hb7; clear iS6; have iG7 := iG6.behind hb7; clear iG6; have iL7 := iL6.behind hb7; clear iL6; have iC7 := iC6.behind hb7; clear iC6; have kX7 := kX6.below hb7 kX6.lt; clear kX6; clear d0 d1 d2 d3 d4; obtain ⟨d0, d1, d2, d3, d4⟩ := kH7.five; clear r0 r1; have r0 := kR7.cell 0; have r1 := kR7.cell 1; clear x0 x1; have x0 := kX7.cell 0; have x1 := kX7.cell 1)
    | fail)
  go_ret
  exact ⟨ret_bool rfl, bw7⟩

end Go.Proofs.Ytnjmkdgglpcfpaa
