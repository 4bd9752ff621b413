import Derived.Test.YtnjmkdgglpcfpaaC13
import Derived.Test.YtnjmkdgglpcfpaaC8
namespace Go.Proofs.Ytnjmkdgglpcfpaa
set_option linter.unusedSimpArgs false
set_option linter.unusedVariables false
open Go.RowKit

def ShownAll (C B F : Int) (p q : Nat → Bool) (cuts : List (Int × List Int)) (n : Int) : Prop :=
  match cols q with
  | [] => n = 0 ∧ cuts.length = 0
  | c0 :: _ => ShownP C B F p q (opens C B F p c0) cuts n
/-- what CheckFewest looks at last -/
def OkP (C R B F : Int) (cl l st : List Int) (cuts : List (Int × List Int)) : Prop :=
  leftErr C R B F cl l st = 0 ∧ leftL C R B F cl l st = [] ∧ ShownAll C B F (isIn cl) (isIn (colm C l)) cuts st.length
def LongP (st : List Int) (cuts : List (Int × List Int)) : Prop := 200 < st.length ∨ 200 < cuts.length ∨ ∃ c ∈ cuts, 200 < c.2.length
theorem shown93_any (C R B F : Int) (sl : Value) (cl l : List Int) (G : Option Addr) (gap : Nat) (cuts : List (Int × List Int)) (n : Nat) (w : World) (hk : HolesOk C R B F cl l) (hn1 : n ≤ 1000) (hcl : cuts.length ≤ 1000) (hcc : ∀ c ∈ cuts, c.2.length ≤ 1000) (hg : CutsC w w.heap.size G cuts) (res : Bool)
    (HY : ShownAll C B F (isIn cl) (isIn (colm C l)) cuts n → res = true) (HN : ¬ ShownAll C B F (isIn cl) (isIn (colm C l)) cuts n → res = false) :
    Calls Try.prog 93 #[.agg (sv C R B F sl (isIn cl) (isIn (colm C l))), .slice G cuts.length gap, .int .i64 n] w fun e w' => e = .returned (.bool res) ∧ Below w.heap.size w w' := by
  have k1 := hk.ok.c3
  have k2 := hk.ok.c120
  cases hc : cols (isIn (colm C l)) with
  | nil =>
    have hsa : ShownAll C B F (isIn cl) (isIn (colm C l)) cuts n ↔ ((n : Int) = 0 ∧ cuts.length = 0) := by unfold ShownAll; rw [hc]
    refine shown93_none C R B F sl _ _ G gap cuts n w hcl hc res ?_
    by_cases h : (n : Int) = 0 ∧ cuts.length = 0
    · rw [HY (hsa.2 h), decide_eq_true h]
    · rw [HN (fun hh => h (hsa.1 hh)), decide_eq_false h]
  | cons c0 cs0 =>
    have hsa : ShownAll C B F (isIn cl) (isIn (colm C l)) cuts n ↔ ShownP C B F (isIn cl) (isIn (colm C l)) (opens C B F (isIn cl) c0) cuts n := by unfold ShownAll; rw [hc]
    have hc0 : 0 ≤ c0 ∧ c0 < C := by
      have : c0 ∈ cols (isIn (colm C l)) := by rw [hc]; simp
      unfold cols at this
      rw [colsTo_mem] at this
      obtain ⟨i, _, hi, rfl⟩ := this
      exact hk.cols _ (of_decide_eq_true hi)
    refine shown93_some C R B F sl _ _ G gap cuts n w (by omega) k2 hk.ok.b0 hk.ok.f0 hk.ok.bf (by omega) (by omega) hcl hcc hg c0 cs0 _ hc hc0 rfl (fun x hx => ?_) ?_ res (fun h => HY (hsa.2 h)) (fun h => HN (fun hh => h (hsa.1 hh)))
    · unfold opens at hx
      rw [colsTo_mem] at hx
      obtain ⟨i, hi, _, rfl⟩ := hx
      omega
    · have : (opens C B F (isIn cl) c0).length ≤ C.toNat := colsTo_len _ _
      omega

set_option maxRecDepth 100000 in
set_option maxHeartbeats 4000000 in
theorem check42_err (C R B F : Int) (A : Option Addr) (cap : Nat) (cl : List Int) (D : Option Addr) (dap : Nat) (l : List Int) (E : Option Addr) (eap : Nat) (st : List Int) (G : Option Addr) (gap : Nat) (cuts : List (Int × List Int)) (w : World) (hB : B ≤ 9223372036854775807) (hcl : cl.length ≤ 9223372036854775807) (hll : l.length ≤ 9223372036854775807) (hsl : st.length ≤ 9223372036854775807) (hgl : cuts.length ≤ 9223372036854775807) (hcc : ∀ c ∈ cuts, c.2.length ≤ 9223372036854775807) (hr : Ints w w.heap.size A cl) (hl : Ints w w.heap.size D l) (hs : Ints w w.heap.size E st) (hg : CutsC w w.heap.size G cuts) (res : Int) (he : holesErr C R B F cl l ≠ 0) (hres : res = holesErr C R B F cl l) :
    Calls Try.prog 42 #[.agg #[.int .i64 C, .int .i64 R, .int .i64 B, .int .i64 F, .slice A cl.length cap], .slice D l.length dap, .agg #[.slice E st.length eap, .slice G cuts.length gap]] w fun e w' => e = .returned (.int .i64 res) ∧ Below w.heap.size w w' := by
  have hb0 : Below w.heap.size w ((w.alloc (.cells #[.int .i64 C, .int .i64 R, .int .i64 B, .int .i64 F, .slice A cl.length cap] 24)).alloc (.cells #[.slice E st.length eap, .slice G cuts.length gap] 56)) := (below_new w (.cells #[.int .i64 C, .int .i64 R, .int .i64 B, .int .i64 F, .slice A cl.length cap] 24)).alloc (by simp) _
  have kH0 : Blk ((w.alloc (.cells #[.int .i64 C, .int .i64 R, .int .i64 B, .int .i64 F, .slice A cl.length cap] 24)).alloc (.cells #[.slice E st.length eap, .slice G cuts.length gap] 56)) w.heap.size 24 #[.int .i64 C, .int .i64 R, .int .i64 B, .int .i64 F, .slice A cl.length cap] := (Blk.new _ _ _).alloc _
  have kR0 : Blk ((w.alloc (.cells #[.int .i64 C, .int .i64 R, .int .i64 B, .int .i64 F, .slice A cl.length cap] 24)).alloc (.cells #[.slice E st.length eap, .slice G cuts.length gap] 56)) (w.heap.size + 1) 56 #[.slice E st.length eap, .slice G cuts.length gap] := Blk.newAt (by simp)
  have iA0 := hr.behind hb0
  have iD0 := hl.behind hb0
  have iE0 := hs.behind hb0
  have iG0 := hg.behind hb0
  subst hres
  have n1 : (holesErr C R B F cl l == 0) = false := by simpa using he
  have n2 : (holesErr C R B F cl l != 0) = true := by simpa using he
  clear he
  go_enter Try.func42, Try.ntmps42
  go_wp2_with (first
    | (go_at_call 76; refine (checkHoles_any _ hB hcl iA0 iD0 hll).mono ?_; rintro e w1 ⟨rfl, hb1⟩; have bw1 := below_next hb0 hb0.size hb1))
  go_ret
  exact ⟨rfl, bw1⟩

set_option maxRecDepth 100000 in
set_option maxHeartbeats 4000000 in
theorem check42_long (C R B F : Int) (A : Option Addr) (cap : Nat) (cl : List Int) (D : Option Addr) (dap : Nat) (l : List Int) (E : Option Addr) (eap : Nat) (st : List Int) (G : Option Addr) (gap : Nat) (cuts : List (Int × List Int)) (w : World) (hB : B ≤ 9223372036854775807) (hcl : cl.length ≤ 9223372036854775807) (hll : l.length ≤ 9223372036854775807) (hsl : st.length ≤ 9223372036854775807) (hgl : cuts.length ≤ 9223372036854775807) (hcc : ∀ c ∈ cuts, c.2.length ≤ 9223372036854775807) (hr : Ints w w.heap.size A cl) (hl : Ints w w.heap.size D l) (hs : Ints w w.heap.size E st) (hg : CutsC w w.heap.size G cuts) (res : Int) (hk : HolesOk C R B F cl l) (hL : LongP st cuts) (hres : res = 2) :
    Calls Try.prog 42 #[.agg #[.int .i64 C, .int .i64 R, .int .i64 B, .int .i64 F, .slice A cl.length cap], .slice D l.length dap, .agg #[.slice E st.length eap, .slice G cuts.length gap]] w fun e w' => e = .returned (.int .i64 res) ∧ Below w.heap.size w w' := by
  have hb0 : Below w.heap.size w ((w.alloc (.cells #[.int .i64 C, .int .i64 R, .int .i64 B, .int .i64 F, .slice A cl.length cap] 24)).alloc (.cells #[.slice E st.length eap, .slice G cuts.length gap] 56)) := (below_new w (.cells #[.int .i64 C, .int .i64 R, .int .i64 B, .int .i64 F, .slice A cl.length cap] 24)).alloc (by simp) _
  have kH0 : Blk ((w.alloc (.cells #[.int .i64 C, .int .i64 R, .int .i64 B, .int .i64 F, .slice A cl.length cap] 24)).alloc (.cells #[.slice E st.length eap, .slice G cuts.length gap] 56)) w.heap.size 24 #[.int .i64 C, .int .i64 R, .int .i64 B, .int .i64 F, .slice A cl.length cap] := (Blk.new _ _ _).alloc _
  have kR0 : Blk ((w.alloc (.cells #[.int .i64 C, .int .i64 R, .int .i64 B, .int .i64 F, .slice A cl.length cap] 24)).alloc (.cells #[.slice E st.length eap, .slice G cuts.length gap] 56)) (w.heap.size + 1) 56 #[.slice E st.length eap, .slice G cuts.length gap] := Blk.newAt (by simp)
  have iA0 := hr.behind hb0
  have iD0 := hl.behind hb0
  have iE0 := hs.behind hb0
  have iG0 := hg.behind hb0
  subst hres
  have HE := Lib.hid (holesErr_zero.2 hk)
  by_cases h1 : 200 < st.length
  · skip
    have q1 : (200 : Int) < (st.length : Int) := by omega
    have q2 : decide ((200 : Int) < (st.length : Int)) = true := decide_eq_true q1
    clear hL hk
    go_enter Try.func42, Try.ntmps42
    go_wp2_with (first
      | (go_at_call 76; refine (checkHoles_any _ hB hcl iA0 iD0 hll).mono ?_; rw [HE.out]; rintro e w1 ⟨rfl, hb1⟩; have bw1 := below_next hb0 hb0.size hb1; have kH1 := kH0.below hb1 kH0.lt; have kR1 := kR0.below hb1 kR0.lt; have iA1 := iA0.behind hb1; have iD1 := iD0.behind hb1; have iE1 := iE0.behind hb1; have iG1 := iG0.behind hb1; clear hb0 kH0 kR0 iA0 iD0 iE0 iG0; obtain ⟨d0, d1, d2, d3, d4⟩ := kH1.five; have r0 := kR1.cell 0; have r1 := kR1.cell 1))
    go_ret
    exact ⟨rfl, bw1⟩
  · skip
    have q1 : ¬ (200 : Int) < (st.length : Int) := by omega
    have q2 : decide ((200 : Int) < (st.length : Int)) = false := decide_eq_false q1
    by_cases h2 : 200 < cuts.length
    · skip
      have g1 : (200 : Int) < (cuts.length : Int) := by omega
      have g2 : decide ((200 : Int) < (cuts.length : Int)) = true := decide_eq_true g1
      clear hL hk
      go_enter Try.func42, Try.ntmps42
      go_wp2_with (first
        | (go_at_call 76; refine (checkHoles_any _ hB hcl iA0 iD0 hll).mono ?_; rw [HE.out]; rintro e w1 ⟨rfl, hb1⟩; have bw1 := below_next hb0 hb0.size hb1; have kH1 := kH0.below hb1 kH0.lt; have kR1 := kR0.below hb1 kR0.lt; have iA1 := iA0.behind hb1; have iD1 := iD0.behind hb1; have iE1 := iE0.behind hb1; have iG1 := iG0.behind hb1; clear hb0 kH0 kR0 iA0 iD0 iE0 iG0; obtain ⟨d0, d1, d2, d3, d4⟩ := kH1.five; have r0 := kR1.cell 0; have r1 := kR1.cell 1))
      go_ret
      exact ⟨rfl, bw1⟩
    · skip
      have g1 : ¬ (200 : Int) < (cuts.length : Int) := by omega
      have g2 : decide ((200 : Int) < (cuts.length : Int)) = false := decide_eq_false g1
      have HL : Hid (∃ c ∈ cuts, 200 < c.2.length) := by
        rcases hL with h | h | h
        · omega
        · omega
        · exact h
      clear hL hk
      go_enter Try.func42, Try.ntmps42
      go_wp2_with (first
        | (go_at_call 76; refine (checkHoles_any _ hB hcl iA0 iD0 hll).mono ?_; rw [HE.out]; rintro e w1 ⟨rfl, hb1⟩; have bw1 := below_next hb0 hb0.size hb1; have kH1 := kH0.below hb1 kH0.lt; have kR1 := kR0.below hb1 kR0.lt; have iA1 := iA0.behind hb1; have iD1 := iD0.behind hb1; have iE1 := iE0.behind hb1; have iG1 := iG0.behind hb1; clear hb0 kH0 kR0 iA0 iD0 iE0 iG0; obtain ⟨d0, d1, d2, d3, d4⟩ := kH1.five; have r0 := kR1.cell 0; have r1 := kR1.cell 1))
      go_loopw [31] (fun i wr => ∃ k : Nat, k ≤ cuts.length ∧ i = .int .i64 k ∧ Hid (∀ (j : Nat) (hj : j < k) (hj1 : j < cuts.length), cuts[j].2.length ≤ 200) ∧ Below w1.heap.size w1 wr)
        (fun i _ => cuts.length - (intOf i).toNat)
      case atStart => exact ⟨0, Nat.zero_le _, rfl, (by intro j hj; omega), Below.refl _ _⟩
      case round =>
        obtain ⟨k, hk, rfl, hall, hb⟩ := hrel
        have bw := below_next bw1 bw1.size hb
        have iG := iG1.behind hb
        by_cases hlt : k < cuts.length
        · obtain ⟨ad, X, xap, hG, hBd, hx0, hx1, iX, _, _⟩ := iG.get hlt
          subst hG
          have hki : (k : Int) < (cuts.length : Int) := by omega
          have HNX : Hid (cuts[k].2.length ≤ 200 → ∀ (j : Nat) (hj : j < k + 1) (hj1 : j < cuts.length), cuts[j].2.length ≤ 200) := fun h j hj hj1 => by
            rcases Nat.lt_or_ge j k with hjk | hjk
            · exact hall.out j hjk hj1
            · obtain rfl : j = k := by omega
              exact h
          clear hall
          generalize cuts[k] = ck at *
          obtain ⟨s, lk⟩ := ck
          dsimp only at *
          have bwn := below_next bw bw.size (below_new wr (.cells #[.int .i64 s, .slice X lk.length xap] 104))
          by_cases h3 : 200 < lk.length
          · skip
            have f1 : (200 : Int) < (lk.length : Int) := by omega
            have f2 : decide ((200 : Int) < (lk.length : Int)) = true := decide_eq_true f1
            clear HNX
            go_wp2_with fail
            go_ret
            exact ⟨rfl, bwn⟩
          · skip
            have f1 : ¬ (200 : Int) < (lk.length : Int) := by omega
            have f2 : decide ((200 : Int) < (lk.length : Int)) = false := decide_eq_false f1
            have HN2 := Lib.hid (HNX.out (by omega))
            clear HNX
            go_wp2_with fail
            go_roundw
            case rel => exact ⟨k + 1, by omega, by go_num, HN2, hb.trans ((below_new wr (.cells #[.int .i64 s, .slice X lk.length xap] 104)).mono hb.size)⟩
            case measure => simp [intOf]; try omega
        · exfalso
          obtain ⟨c, hc, hcl2⟩ := HL.out
          obtain ⟨j, hj, rfl⟩ := List.mem_iff_getElem.1 hc
          have := hall.out j (by omega) hj
          omega

set_option maxRecDepth 100000 in
set_option maxHeartbeats 4000000 in
theorem check42_e (C R B F : Int) (A : Option Addr) (cap : Nat) (cl : List Int) (D : Option Addr) (dap : Nat) (l : List Int) (E : Option Addr) (eap : Nat) (st : List Int) (G : Option Addr) (gap : Nat) (cuts : List (Int × List Int)) (w : World) (hB : B ≤ 9223372036854775807) (hcl : cl.length ≤ 9223372036854775807) (hll : l.length ≤ 9223372036854775807) (hsl : st.length ≤ 9223372036854775807) (hgl : cuts.length ≤ 9223372036854775807) (hcc : ∀ c ∈ cuts, c.2.length ≤ 9223372036854775807) (hr : Ints w w.heap.size A cl) (hl : Ints w w.heap.size D l) (hs : Ints w w.heap.size E st) (hg : CutsC w w.heap.size G cuts) (res : Int) (hk : HolesOk C R B F cl l) (h1 : st.length ≤ 200) (h2 : cuts.length ≤ 200) (hcc2 : ∀ (j : Nat) (hj1 : j < cuts.length), cuts[j].2.length ≤ 200) (LL : List Int) (le : Int) (HL0 : ∀ W : World, Ints W W.heap.size A cl → Ints W W.heap.size D l → Ints W W.heap.size E st → Calls Try.prog 32 #[.agg #[.int .i64 C, .int .i64 R, .int .i64 B, .int .i64 F, .slice A cl.length cap], .slice D l.length dap, .slice E st.length eap] W (RetInts2 W LL le)) (hle : le ≠ 0) (hres : res = 8) :
    Calls Try.prog 42 #[.agg #[.int .i64 C, .int .i64 R, .int .i64 B, .int .i64 F, .slice A cl.length cap], .slice D l.length dap, .agg #[.slice E st.length eap, .slice G cuts.length gap]] w fun e w' => e = .returned (.int .i64 res) ∧ Below w.heap.size w w' := by
  have hb0 : Below w.heap.size w ((w.alloc (.cells #[.int .i64 C, .int .i64 R, .int .i64 B, .int .i64 F, .slice A cl.length cap] 24)).alloc (.cells #[.slice E st.length eap, .slice G cuts.length gap] 56)) := (below_new w (.cells #[.int .i64 C, .int .i64 R, .int .i64 B, .int .i64 F, .slice A cl.length cap] 24)).alloc (by simp) _
  have kH0 : Blk ((w.alloc (.cells #[.int .i64 C, .int .i64 R, .int .i64 B, .int .i64 F, .slice A cl.length cap] 24)).alloc (.cells #[.slice E st.length eap, .slice G cuts.length gap] 56)) w.heap.size 24 #[.int .i64 C, .int .i64 R, .int .i64 B, .int .i64 F, .slice A cl.length cap] := (Blk.new _ _ _).alloc _
  have kR0 : Blk ((w.alloc (.cells #[.int .i64 C, .int .i64 R, .int .i64 B, .int .i64 F, .slice A cl.length cap] 24)).alloc (.cells #[.slice E st.length eap, .slice G cuts.length gap] 56)) (w.heap.size + 1) 56 #[.slice E st.length eap, .slice G cuts.length gap] := Blk.newAt (by simp)
  have iA0 := hr.behind hb0
  have iD0 := hl.behind hb0
  have iE0 := hs.behind hb0
  have iG0 := hg.behind hb0
  subst hres
  have HE := Lib.hid (holesErr_zero.2 hk)
  have HLF := Lib.hid HL0
  have HC2 := Lib.hid hcc2
  have q1 : ¬ (200 : Int) < (st.length : Int) := by omega
  have q2 : decide ((200 : Int) < (st.length : Int)) = false := decide_eq_false q1
  have g1 : ¬ (200 : Int) < (cuts.length : Int) := by omega
  have g2 : decide ((200 : Int) < (cuts.length : Int)) = false := decide_eq_false g1
  have n1 : (le == 0) = false := by simpa using hle
  have n2 : (le != 0) = true := by simpa using hle
  clear hle
  clear hk HL0 hcc2
  go_enter Try.func42, Try.ntmps42
  go_wp2_with (first
    | (go_at_call 76; refine (checkHoles_any _ hB hcl iA0 iD0 hll).mono ?_; rw [HE.out]; rintro e w1 ⟨rfl, hb1⟩; have bw1 := below_next hb0 hb0.size hb1; have kH1 := kH0.below hb1 kH0.lt; have kR1 := kR0.below hb1 kR0.lt; have iA1 := iA0.behind hb1; have iD1 := iD0.behind hb1; have iE1 := iE0.behind hb1; have iG1 := iG0.behind hb1; clear hb0 kH0 kR0 iA0 iD0 iE0 iG0; obtain ⟨d0, d1, d2, d3, d4⟩ := kH1.five; have r0 := kR1.cell 0; have r1 := kR1.cell 1))
  go_loopw [31] (fun i wr => ∃ k : Nat, k ≤ cuts.length ∧ i = .int .i64 k ∧ Below w1.heap.size w1 wr)
    (fun i _ => cuts.length - (intOf i).toNat)
  case atStart => exact ⟨0, Nat.zero_le _, rfl, Below.refl _ _⟩
  case round =>
    obtain ⟨k, hk, rfl, hb⟩ := hrel
    have bw := below_next bw1 bw1.size hb
    have iG := iG1.behind hb
    by_cases hlt : k < cuts.length
    · obtain ⟨ad, X, xap, hG, hBd, hx0, hx1, iX, _, _⟩ := iG.get hlt
      subst hG
      have hki : (k : Int) < (cuts.length : Int) := by omega
      have h3 := HC2.out k hlt
      generalize cuts[k] = ck at *
      obtain ⟨s, lk⟩ := ck
      dsimp only at *
      have f1 : ¬ (200 : Int) < (lk.length : Int) := by omega
      have f2 : decide ((200 : Int) < (lk.length : Int)) = false := decide_eq_false f1
      go_wp2_with fail
      go_roundw
      case rel => exact ⟨k + 1, by omega, by go_num, hb.trans ((below_new wr (.cells #[.int .i64 s, .slice X lk.length xap] 104)).mono hb.size)⟩
      case measure => simp [intOf]; try omega
    · have kH := kH1.below hb kH1.lt
      have kR := kR1.below hb kR1.lt
      have iAr := iA1.behind hb
      have iDr := iD1.behind hb
      have iEr := iE1.behind hb
      clear d0 d1 d2 d3 d4 r0 r1
      obtain ⟨d0, d1, d2, d3, d4⟩ := kH.five
      have r0 := kR.cell 0
      have r1 := kR.cell 1
      go_wp2_with (first
        | (go_at_call 32; refine (HLF.out _ iAr iDr iEr).mono ?_; rintro e w3 ⟨LA, lap, rfl, l1, l2, iL, hb3⟩; have bw3 := below_next bw bw.size hb3; have kH3 := kH.below hb3 kH.lt; have kR3 := kR.below hb3 kR.lt; have iA3 := iAr.behind hb3; have iD3 := iDr.behind hb3; have iG3 := iG.behind hb3; clear d0 d1 d2 d3 d4 r0 r1; obtain ⟨d0, d1, d2, d3, d4⟩ := kH3.five; have r0 := kR3.cell 0; have r1 := kR3.cell 1)
        | fail)
      go_quiet (fail)
      go_wp2_with fail
      go_ret
      exact ⟨rfl, below_drewN bw3 _⟩

set_option maxRecDepth 100000 in
set_option maxHeartbeats 4000000 in
theorem check42_n (C R B F : Int) (A : Option Addr) (cap : Nat) (cl : List Int) (D : Option Addr) (dap : Nat) (l : List Int) (E : Option Addr) (eap : Nat) (st : List Int) (G : Option Addr) (gap : Nat) (cuts : List (Int × List Int)) (w : World) (hB : B ≤ 9223372036854775807) (hcl : cl.length ≤ 9223372036854775807) (hll : l.length ≤ 9223372036854775807) (hsl : st.length ≤ 9223372036854775807) (hgl : cuts.length ≤ 9223372036854775807) (hcc : ∀ c ∈ cuts, c.2.length ≤ 9223372036854775807) (hr : Ints w w.heap.size A cl) (hl : Ints w w.heap.size D l) (hs : Ints w w.heap.size E st) (hg : CutsC w w.heap.size G cuts) (res : Int) (hk : HolesOk C R B F cl l) (h1 : st.length ≤ 200) (h2 : cuts.length ≤ 200) (hcc2 : ∀ (j : Nat) (hj1 : j < cuts.length), cuts[j].2.length ≤ 200) (LL : List Int) (le : Int) (HL0 : ∀ W : World, Ints W W.heap.size A cl → Ints W W.heap.size D l → Ints W W.heap.size E st → Calls Try.prog 32 #[.agg #[.int .i64 C, .int .i64 R, .int .i64 B, .int .i64 F, .slice A cl.length cap], .slice D l.length dap, .slice E st.length eap] W (RetInts2 W LL le)) (hle : le = 0) (hL : 0 < LL.length) (hres : res = 8) :
    Calls Try.prog 42 #[.agg #[.int .i64 C, .int .i64 R, .int .i64 B, .int .i64 F, .slice A cl.length cap], .slice D l.length dap, .agg #[.slice E st.length eap, .slice G cuts.length gap]] w fun e w' => e = .returned (.int .i64 res) ∧ Below w.heap.size w w' := by
  have hb0 : Below w.heap.size w ((w.alloc (.cells #[.int .i64 C, .int .i64 R, .int .i64 B, .int .i64 F, .slice A cl.length cap] 24)).alloc (.cells #[.slice E st.length eap, .slice G cuts.length gap] 56)) := (below_new w (.cells #[.int .i64 C, .int .i64 R, .int .i64 B, .int .i64 F, .slice A cl.length cap] 24)).alloc (by simp) _
  have kH0 : Blk ((w.alloc (.cells #[.int .i64 C, .int .i64 R, .int .i64 B, .int .i64 F, .slice A cl.length cap] 24)).alloc (.cells #[.slice E st.length eap, .slice G cuts.length gap] 56)) w.heap.size 24 #[.int .i64 C, .int .i64 R, .int .i64 B, .int .i64 F, .slice A cl.length cap] := (Blk.new _ _ _).alloc _
  have kR0 : Blk ((w.alloc (.cells #[.int .i64 C, .int .i64 R, .int .i64 B, .int .i64 F, .slice A cl.length cap] 24)).alloc (.cells #[.slice E st.length eap, .slice G cuts.length gap] 56)) (w.heap.size + 1) 56 #[.slice E st.length eap, .slice G cuts.length gap] := Blk.newAt (by simp)
  have iA0 := hr.behind hb0
  have iD0 := hl.behind hb0
  have iE0 := hs.behind hb0
  have iG0 := hg.behind hb0
  subst hres
  have HE := Lib.hid (holesErr_zero.2 hk)
  have HLF := Lib.hid HL0
  have HC2 := Lib.hid hcc2
  have q1 : ¬ (200 : Int) < (st.length : Int) := by omega
  have q2 : decide ((200 : Int) < (st.length : Int)) = false := decide_eq_false q1
  have g1 : ¬ (200 : Int) < (cuts.length : Int) := by omega
  have g2 : decide ((200 : Int) < (cuts.length : Int)) = false := decide_eq_false g1
  subst hle
  have n1 : (0 : Int) < (LL.length : Int) := by omega
  have n2 : decide ((0 : Int) < (LL.length : Int)) = true := decide_eq_true n1
  clear hk HL0 hcc2
  go_enter Try.func42, Try.ntmps42
  go_wp2_with (first
    | (go_at_call 76; refine (checkHoles_any _ hB hcl iA0 iD0 hll).mono ?_; rw [HE.out]; rintro e w1 ⟨rfl, hb1⟩; have bw1 := below_next hb0 hb0.size hb1; have kH1 := kH0.below hb1 kH0.lt; have kR1 := kR0.below hb1 kR0.lt; have iA1 := iA0.behind hb1; have iD1 := iD0.behind hb1; have iE1 := iE0.behind hb1; have iG1 := iG0.behind hb1; clear hb0 kH0 kR0 iA0 iD0 iE0 iG0; obtain ⟨d0, d1, d2, d3, d4⟩ := kH1.five; have r0 := kR1.cell 0; have r1 := kR1.cell 1))
  go_loopw [31] (fun i wr => ∃ k : Nat, k ≤ cuts.length ∧ i = .int .i64 k ∧ Below w1.heap.size w1 wr)
    (fun i _ => cuts.length - (intOf i).toNat)
  case atStart => exact ⟨0, Nat.zero_le _, rfl, Below.refl _ _⟩
  case round =>
    obtain ⟨k, hk, rfl, hb⟩ := hrel
    have bw := below_next bw1 bw1.size hb
    have iG := iG1.behind hb
    by_cases hlt : k < cuts.length
    · obtain ⟨ad, X, xap, hG, hBd, hx0, hx1, iX, _, _⟩ := iG.get hlt
      subst hG
      have hki : (k : Int) < (cuts.length : Int) := by omega
      have h3 := HC2.out k hlt
      generalize cuts[k] = ck at *
      obtain ⟨s, lk⟩ := ck
      dsimp only at *
      have f1 : ¬ (200 : Int) < (lk.length : Int) := by omega
      have f2 : decide ((200 : Int) < (lk.length : Int)) = false := decide_eq_false f1
      go_wp2_with fail
      go_roundw
      case rel => exact ⟨k + 1, by omega, by go_num, hb.trans ((below_new wr (.cells #[.int .i64 s, .slice X lk.length xap] 104)).mono hb.size)⟩
      case measure => simp [intOf]; try omega
    · have kH := kH1.below hb kH1.lt
      have kR := kR1.below hb kR1.lt
      have iAr := iA1.behind hb
      have iDr := iD1.behind hb
      have iEr := iE1.behind hb
      clear d0 d1 d2 d3 d4 r0 r1
      obtain ⟨d0, d1, d2, d3, d4⟩ := kH.five
      have r0 := kR.cell 0
      have r1 := kR.cell 1
      go_wp2_with (first
        | (go_at_call 32; refine (HLF.out _ iAr iDr iEr).mono ?_; rintro e w3 ⟨LA, lap, rfl, l1, l2, iL, hb3⟩; have bw3 := below_next bw bw.size hb3; have kH3 := kH.below hb3 kH.lt; have kR3 := kR.below hb3 kR.lt; have iA3 := iAr.behind hb3; have iD3 := iDr.behind hb3; have iG3 := iG.behind hb3; clear d0 d1 d2 d3 d4 r0 r1; obtain ⟨d0, d1, d2, d3, d4⟩ := kH3.five; have r0 := kR3.cell 0; have r1 := kR3.cell 1)
        | fail)
      go_quiet (fail)
      go_wp2_with fail
      go_ret
      exact ⟨rfl, below_drewN bw3 _⟩

set_option maxRecDepth 100000 in
set_option maxHeartbeats 4000000 in
theorem check42_t (C R B F : Int) (A : Option Addr) (cap : Nat) (cl : List Int) (D : Option Addr) (dap : Nat) (l : List Int) (E : Option Addr) (eap : Nat) (st : List Int) (G : Option Addr) (gap : Nat) (cuts : List (Int × List Int)) (w : World) (hB : B ≤ 9223372036854775807) (hcl : cl.length ≤ 9223372036854775807) (hll : l.length ≤ 9223372036854775807) (hsl : st.length ≤ 9223372036854775807) (hgl : cuts.length ≤ 9223372036854775807) (hcc : ∀ c ∈ cuts, c.2.length ≤ 9223372036854775807) (hr : Ints w w.heap.size A cl) (hl : Ints w w.heap.size D l) (hs : Ints w w.heap.size E st) (hg : CutsC w w.heap.size G cuts) (res : Int) (hk : HolesOk C R B F cl l) (h1 : st.length ≤ 200) (h2 : cuts.length ≤ 200) (hcc2 : ∀ (j : Nat) (hj1 : j < cuts.length), cuts[j].2.length ≤ 200) (LL : List Int) (le : Int) (HL0 : ∀ W : World, Ints W W.heap.size A cl → Ints W W.heap.size D l → Ints W W.heap.size E st → Calls Try.prog 32 #[.agg #[.int .i64 C, .int .i64 R, .int .i64 B, .int .i64 F, .slice A cl.length cap], .slice D l.length dap, .slice E st.length eap] W (RetInts2 W LL le)) (hle : le = 0) (hL : LL.length = 0) (vs : Array Value) (HNS0 : ∀ W : World, Ints W W.heap.size A cl → Ints W W.heap.size D l → Calls Try.prog 92 #[.agg #[.int .i64 C, .int .i64 R, .int .i64 B, .int .i64 F, .slice A cl.length cap], .slice D l.length dap] W fun e w' => e = .returned (.agg vs) ∧ Below W.heap.size W w') (HSH0 : ∀ W : World, CutsC W W.heap.size G cuts → Calls Try.prog 93 #[.agg vs, .slice G cuts.length gap, .int .i64 (st.length : Nat)] W fun e w' => e = .returned (.bool true) ∧ Below W.heap.size W w') (hres : res = 0) :
    Calls Try.prog 42 #[.agg #[.int .i64 C, .int .i64 R, .int .i64 B, .int .i64 F, .slice A cl.length cap], .slice D l.length dap, .agg #[.slice E st.length eap, .slice G cuts.length gap]] w fun e w' => e = .returned (.int .i64 res) ∧ Below w.heap.size w w' := by
  have hb0 : Below w.heap.size w ((w.alloc (.cells #[.int .i64 C, .int .i64 R, .int .i64 B, .int .i64 F, .slice A cl.length cap] 24)).alloc (.cells #[.slice E st.length eap, .slice G cuts.length gap] 56)) := (below_new w (.cells #[.int .i64 C, .int .i64 R, .int .i64 B, .int .i64 F, .slice A cl.length cap] 24)).alloc (by simp) _
  have kH0 : Blk ((w.alloc (.cells #[.int .i64 C, .int .i64 R, .int .i64 B, .int .i64 F, .slice A cl.length cap] 24)).alloc (.cells #[.slice E st.length eap, .slice G cuts.length gap] 56)) w.heap.size 24 #[.int .i64 C, .int .i64 R, .int .i64 B, .int .i64 F, .slice A cl.length cap] := (Blk.new _ _ _).alloc _
  have kR0 : Blk ((w.alloc (.cells #[.int .i64 C, .int .i64 R, .int .i64 B, .int .i64 F, .slice A cl.length cap] 24)).alloc (.cells #[.slice E st.length eap, .slice G cuts.length gap] 56)) (w.heap.size + 1) 56 #[.slice E st.length eap, .slice G cuts.length gap] := Blk.newAt (by simp)
  have iA0 := hr.behind hb0
  have iD0 := hl.behind hb0
  have iE0 := hs.behind hb0
  have iG0 := hg.behind hb0
  subst hres
  have HE := Lib.hid (holesErr_zero.2 hk)
  have HLF := Lib.hid HL0
  have HC2 := Lib.hid hcc2
  have q1 : ¬ (200 : Int) < (st.length : Int) := by omega
  have q2 : decide ((200 : Int) < (st.length : Int)) = false := decide_eq_false q1
  have g1 : ¬ (200 : Int) < (cuts.length : Int) := by omega
  have g2 : decide ((200 : Int) < (cuts.length : Int)) = false := decide_eq_false g1
  subst hle
  have HNS := Lib.hid HNS0
  have HSH := Lib.hid HSH0
  have n1 : ¬ (0 : Int) < (LL.length : Int) := by omega
  have n2 : decide ((0 : Int) < (LL.length : Int)) = false := decide_eq_false n1
  clear HNS0 HSH0
  clear hk HL0 hcc2
  go_enter Try.func42, Try.ntmps42
  go_wp2_with (first
    | (go_at_call 76; refine (checkHoles_any _ hB hcl iA0 iD0 hll).mono ?_; rw [HE.out]; rintro e w1 ⟨rfl, hb1⟩; have bw1 := below_next hb0 hb0.size hb1; have kH1 := kH0.below hb1 kH0.lt; have kR1 := kR0.below hb1 kR0.lt; have iA1 := iA0.behind hb1; have iD1 := iD0.behind hb1; have iE1 := iE0.behind hb1; have iG1 := iG0.behind hb1; clear hb0 kH0 kR0 iA0 iD0 iE0 iG0; obtain ⟨d0, d1, d2, d3, d4⟩ := kH1.five; have r0 := kR1.cell 0; have r1 := kR1.cell 1))
  go_loopw [31] (fun i wr => ∃ k : Nat, k ≤ cuts.length ∧ i = .int .i64 k ∧ Below w1.heap.size w1 wr)
    (fun i _ => cuts.length - (intOf i).toNat)
  case atStart => exact ⟨0, Nat.zero_le _, rfl, Below.refl _ _⟩
  case round =>
    obtain ⟨k, hk, rfl, hb⟩ := hrel
    have bw := below_next bw1 bw1.size hb
    have iG := iG1.behind hb
    by_cases hlt : k < cuts.length
    · obtain ⟨ad, X, xap, hG, hBd, hx0, hx1, iX, _, _⟩ := iG.get hlt
      subst hG
      have hki : (k : Int) < (cuts.length : Int) := by omega
      have h3 := HC2.out k hlt
      generalize cuts[k] = ck at *
      obtain ⟨s, lk⟩ := ck
      dsimp only at *
      have f1 : ¬ (200 : Int) < (lk.length : Int) := by omega
      have f2 : decide ((200 : Int) < (lk.length : Int)) = false := decide_eq_false f1
      go_wp2_with fail
      go_roundw
      case rel => exact ⟨k + 1, by omega, by go_num, hb.trans ((below_new wr (.cells #[.int .i64 s, .slice X lk.length xap] 104)).mono hb.size)⟩
      case measure => simp [intOf]; try omega
    · have kH := kH1.below hb kH1.lt
      have kR := kR1.below hb kR1.lt
      have iAr := iA1.behind hb
      have iDr := iD1.behind hb
      have iEr := iE1.behind hb
      clear d0 d1 d2 d3 d4 r0 r1
      obtain ⟨d0, d1, d2, d3, d4⟩ := kH.five
      have r0 := kR.cell 0
      have r1 := kR.cell 1
      go_wp2_with (first
        | (go_at_call 32; refine (HLF.out _ iAr iDr iEr).mono ?_; rintro e w3 ⟨LA, lap, rfl, l1, l2, iL, hb3⟩; have bw3 := below_next bw bw.size hb3; have kH3 := kH.below hb3 kH.lt; have kR3 := kR.below hb3 kR.lt; have iA3 := iAr.behind hb3; have iD3 := iDr.behind hb3; have iG3 := iG.behind hb3; clear d0 d1 d2 d3 d4 r0 r1; obtain ⟨d0, d1, d2, d3, d4⟩ := kH3.five; have r0 := kR3.cell 0; have r1 := kR3.cell 1)
        | fail)
      have hl3 := kH3.lt
      have hl4 := kR3.lt
      go_region_held3 (fun w' => w'.cell? ⟨w.heap.size, 0, none⟩ = some (.int .i64 C) ∧ w'.cell? ⟨w.heap.size, 1, none⟩ = some (.int .i64 R) ∧ w'.cell? ⟨w.heap.size, 2, none⟩ = some (.int .i64 B) ∧ w'.cell? ⟨w.heap.size, 3, none⟩ = some (.int .i64 F) ∧ w'.cell? ⟨w.heap.size, 4, none⟩ = some (.slice A cl.length cap) ∧ w'.cell? ⟨w.heap.size + 1, 0, none⟩ = some (.slice E st.length eap) ∧ w'.cell? ⟨w.heap.size + 1, 1, none⟩ = some (.slice G cuts.length gap)) (first | exact K4 | exact K5 | exact ⟨d0, d1, d2, d3, d4, r0, r1⟩ | go_keep)
        (first
          | (go_at_call 92; refine (HNS.out _ (by first | exact iA3 | exact iA3.behind (Below.refl _ _).drew) (by first | exact iD3 | exact iD3.behind (Below.refl _ _).drew)).mono ?_; rintro e w4 ⟨rfl, hb4⟩; have hb4x : Below w3.heap.size w3 w4 := (by first | exact hb4 | exact (Below.refl _ _).drew.trans hb4); have kH4 := kH3.below hb4x hl3; have kR4 := kR3.below hb4x hl4; have K4 : w4.cell? ⟨w.heap.size, 0, none⟩ = some (.int .i64 C) ∧ w4.cell? ⟨w.heap.size, 1, none⟩ = some (.int .i64 R) ∧ w4.cell? ⟨w.heap.size, 2, none⟩ = some (.int .i64 B) ∧ w4.cell? ⟨w.heap.size, 3, none⟩ = some (.int .i64 F) ∧ w4.cell? ⟨w.heap.size, 4, none⟩ = some (.slice A cl.length cap) ∧ w4.cell? ⟨w.heap.size + 1, 0, none⟩ = some (.slice E st.length eap) ∧ w4.cell? ⟨w.heap.size + 1, 1, none⟩ = some (.slice G cuts.length gap) := (by obtain ⟨c0, c1, c2, c3, c4⟩ := kH4.five; exact ⟨c0, c1, c2, c3, c4, kR4.cell 0, kR4.cell 1⟩))
          | (go_at_call 93; refine (HSH.out _ (iG3.behind hb4x)).mono ?_; rintro e w5 ⟨rfl, hb5⟩; have kH5 := kH4.below hb5 kH4.lt; have kR5 := kR4.below hb5 kR4.lt; have K5 : w5.cell? ⟨w.heap.size, 0, none⟩ = some (.int .i64 C) ∧ w5.cell? ⟨w.heap.size, 1, none⟩ = some (.int .i64 R) ∧ w5.cell? ⟨w.heap.size, 2, none⟩ = some (.int .i64 B) ∧ w5.cell? ⟨w.heap.size, 3, none⟩ = some (.int .i64 F) ∧ w5.cell? ⟨w.heap.size, 4, none⟩ = some (.slice A cl.length cap) ∧ w5.cell? ⟨w.heap.size + 1, 0, none⟩ = some (.slice E st.length eap) ∧ w5.cell? ⟨w.heap.size + 1, 1, none⟩ = some (.slice G cuts.length gap) := (by obtain ⟨c0, c1, c2, c3, c4⟩ := kH5.five; exact ⟨c0, c1, c2, c3, c4, kR5.cell 0, kR5.cell 1⟩)))
      go_wp2_with fail
      go_ret
      exact ⟨rfl, below_next (below_next bw3 bw3.size hb4x) (by have := bw3.size; have := hb4x.size; omega) hb5⟩

set_option maxRecDepth 100000 in
set_option maxHeartbeats 4000000 in
theorem check42_f (C R B F : Int) (A : Option Addr) (cap : Nat) (cl : List Int) (D : Option Addr) (dap : Nat) (l : List Int) (E : Option Addr) (eap : Nat) (st : List Int) (G : Option Addr) (gap : Nat) (cuts : List (Int × List Int)) (w : World) (hB : B ≤ 9223372036854775807) (hcl : cl.length ≤ 9223372036854775807) (hll : l.length ≤ 9223372036854775807) (hsl : st.length ≤ 9223372036854775807) (hgl : cuts.length ≤ 9223372036854775807) (hcc : ∀ c ∈ cuts, c.2.length ≤ 9223372036854775807) (hr : Ints w w.heap.size A cl) (hl : Ints w w.heap.size D l) (hs : Ints w w.heap.size E st) (hg : CutsC w w.heap.size G cuts) (res : Int) (hk : HolesOk C R B F cl l) (h1 : st.length ≤ 200) (h2 : cuts.length ≤ 200) (hcc2 : ∀ (j : Nat) (hj1 : j < cuts.length), cuts[j].2.length ≤ 200) (LL : List Int) (le : Int) (HL0 : ∀ W : World, Ints W W.heap.size A cl → Ints W W.heap.size D l → Ints W W.heap.size E st → Calls Try.prog 32 #[.agg #[.int .i64 C, .int .i64 R, .int .i64 B, .int .i64 F, .slice A cl.length cap], .slice D l.length dap, .slice E st.length eap] W (RetInts2 W LL le)) (hle : le = 0) (hL : LL.length = 0) (vs : Array Value) (HNS0 : ∀ W : World, Ints W W.heap.size A cl → Ints W W.heap.size D l → Calls Try.prog 92 #[.agg #[.int .i64 C, .int .i64 R, .int .i64 B, .int .i64 F, .slice A cl.length cap], .slice D l.length dap] W fun e w' => e = .returned (.agg vs) ∧ Below W.heap.size W w') (HSH0 : ∀ W : World, CutsC W W.heap.size G cuts → Calls Try.prog 93 #[.agg vs, .slice G cuts.length gap, .int .i64 (st.length : Nat)] W fun e w' => e = .returned (.bool false) ∧ Below W.heap.size W w') (hres : res = 8) :
    Calls Try.prog 42 #[.agg #[.int .i64 C, .int .i64 R, .int .i64 B, .int .i64 F, .slice A cl.length cap], .slice D l.length dap, .agg #[.slice E st.length eap, .slice G cuts.length gap]] w fun e w' => e = .returned (.int .i64 res) ∧ Below w.heap.size w w' := by
  have hb0 : Below w.heap.size w ((w.alloc (.cells #[.int .i64 C, .int .i64 R, .int .i64 B, .int .i64 F, .slice A cl.length cap] 24)).alloc (.cells #[.slice E st.length eap, .slice G cuts.length gap] 56)) := (below_new w (.cells #[.int .i64 C, .int .i64 R, .int .i64 B, .int .i64 F, .slice A cl.length cap] 24)).alloc (by simp) _
  have kH0 : Blk ((w.alloc (.cells #[.int .i64 C, .int .i64 R, .int .i64 B, .int .i64 F, .slice A cl.length cap] 24)).alloc (.cells #[.slice E st.length eap, .slice G cuts.length gap] 56)) w.heap.size 24 #[.int .i64 C, .int .i64 R, .int .i64 B, .int .i64 F, .slice A cl.length cap] := (Blk.new _ _ _).alloc _
  have kR0 : Blk ((w.alloc (.cells #[.int .i64 C, .int .i64 R, .int .i64 B, .int .i64 F, .slice A cl.length cap] 24)).alloc (.cells #[.slice E st.length eap, .slice G cuts.length gap] 56)) (w.heap.size + 1) 56 #[.slice E st.length eap, .slice G cuts.length gap] := Blk.newAt (by simp)
  have iA0 := hr.behind hb0
  have iD0 := hl.behind hb0
  have iE0 := hs.behind hb0
  have iG0 := hg.behind hb0
  subst hres
  have HE := Lib.hid (holesErr_zero.2 hk)
  have HLF := Lib.hid HL0
  have HC2 := Lib.hid hcc2
  have q1 : ¬ (200 : Int) < (st.length : Int) := by omega
  have q2 : decide ((200 : Int) < (st.length : Int)) = false := decide_eq_false q1
  have g1 : ¬ (200 : Int) < (cuts.length : Int) := by omega
  have g2 : decide ((200 : Int) < (cuts.length : Int)) = false := decide_eq_false g1
  subst hle
  have HNS := Lib.hid HNS0
  have HSH := Lib.hid HSH0
  have n1 : ¬ (0 : Int) < (LL.length : Int) := by omega
  have n2 : decide ((0 : Int) < (LL.length : Int)) = false := decide_eq_false n1
  clear HNS0 HSH0
  clear hk HL0 hcc2
  go_enter Try.func42, Try.ntmps42
  go_wp2_with (first
    | (go_at_call 76; refine (checkHoles_any _ hB hcl iA0 iD0 hll).mono ?_; rw [HE.out]; rintro e w1 ⟨rfl, hb1⟩; have bw1 := below_next hb0 hb0.size hb1; have kH1 := kH0.below hb1 kH0.lt; have kR1 := kR0.below hb1 kR0.lt; have iA1 := iA0.behind hb1; have iD1 := iD0.behind hb1; have iE1 := iE0.behind hb1; have iG1 := iG0.behind hb1; clear hb0 kH0 kR0 iA0 iD0 iE0 iG0; obtain ⟨d0, d1, d2, d3, d4⟩ := kH1.five; have r0 := kR1.cell 0; have r1 := kR1.cell 1))
  go_loopw [31] (fun i wr => ∃ k : Nat, k ≤ cuts.length ∧ i = .int .i64 k ∧ Below w1.heap.size w1 wr)
    (fun i _ => cuts.length - (intOf i).toNat)
  case atStart => exact ⟨0, Nat.zero_le _, rfl, Below.refl _ _⟩
  case round =>
    obtain ⟨k, hk, rfl, hb⟩ := hrel
    have bw := below_next bw1 bw1.size hb
    have iG := iG1.behind hb
    by_cases hlt : k < cuts.length
    · obtain ⟨ad, X, xap, hG, hBd, hx0, hx1, iX, _, _⟩ := iG.get hlt
      subst hG
      have hki : (k : Int) < (cuts.length : Int) := by omega
      have h3 := HC2.out k hlt
      generalize cuts[k] = ck at *
      obtain ⟨s, lk⟩ := ck
      dsimp only at *
      have f1 : ¬ (200 : Int) < (lk.length : Int) := by omega
      have f2 : decide ((200 : Int) < (lk.length : Int)) = false := decide_eq_false f1
      go_wp2_with fail
      go_roundw
      case rel => exact ⟨k + 1, by omega, by go_num, hb.trans ((below_new wr (.cells #[.int .i64 s, .slice X lk.length xap] 104)).mono hb.size)⟩
      case measure => simp [intOf]; try omega
    · have kH := kH1.below hb kH1.lt
      have kR := kR1.below hb kR1.lt
      have iAr := iA1.behind hb
      have iDr := iD1.behind hb
      have iEr := iE1.behind hb
      clear d0 d1 d2 d3 d4 r0 r1
      obtain ⟨d0, d1, d2, d3, d4⟩ := kH.five
      have r0 := kR.cell 0
      have r1 := kR.cell 1
      go_wp2_with (first
        | (go_at_call 32; refine (HLF.out _ iAr iDr iEr).mono ?_; rintro e w3 ⟨LA, lap, rfl, l1, l2, iL, hb3⟩; have bw3 := below_next bw bw.size hb3; have kH3 := kH.below hb3 kH.lt; have kR3 := kR.below hb3 kR.lt; have iA3 := iAr.behind hb3; have iD3 := iDr.behind hb3; have iG3 := iG.behind hb3; clear d0 d1 d2 d3 d4 r0 r1; obtain ⟨d0, d1, d2, d3, d4⟩ := kH3.five; have r0 := kR3.cell 0; have r1 := kR3.cell 1)
        | fail)
      have hl3 := kH3.lt
      have hl4 := kR3.lt
      go_region_held3 (fun w' => w'.cell? ⟨w.heap.size, 0, none⟩ = some (.int .i64 C) ∧ w'.cell? ⟨w.heap.size, 1, none⟩ = some (.int .i64 R) ∧ w'.cell? ⟨w.heap.size, 2, none⟩ = some (.int .i64 B) ∧ w'.cell? ⟨w.heap.size, 3, none⟩ = some (.int .i64 F) ∧ w'.cell? ⟨w.heap.size, 4, none⟩ = some (.slice A cl.length cap) ∧ w'.cell? ⟨w.heap.size + 1, 0, none⟩ = some (.slice E st.length eap) ∧ w'.cell? ⟨w.heap.size + 1, 1, none⟩ = some (.slice G cuts.length gap)) (first | exact K4 | exact K5 | exact ⟨d0, d1, d2, d3, d4, r0, r1⟩ | go_keep)
        (first
          | (go_at_call 92; refine (HNS.out _ (by first | exact iA3 | exact iA3.behind (Below.refl _ _).drew) (by first | exact iD3 | exact iD3.behind (Below.refl _ _).drew)).mono ?_; rintro e w4 ⟨rfl, hb4⟩; have hb4x : Below w3.heap.size w3 w4 := (by first | exact hb4 | exact (Below.refl _ _).drew.trans hb4); have kH4 := kH3.below hb4x hl3; have kR4 := kR3.below hb4x hl4; have K4 : w4.cell? ⟨w.heap.size, 0, none⟩ = some (.int .i64 C) ∧ w4.cell? ⟨w.heap.size, 1, none⟩ = some (.int .i64 R) ∧ w4.cell? ⟨w.heap.size, 2, none⟩ = some (.int .i64 B) ∧ w4.cell? ⟨w.heap.size, 3, none⟩ = some (.int .i64 F) ∧ w4.cell? ⟨w.heap.size, 4, none⟩ = some (.slice A cl.length cap) ∧ w4.cell? ⟨w.heap.size + 1, 0, none⟩ = some (.slice E st.length eap) ∧ w4.cell? ⟨w.heap.size + 1, 1, none⟩ = some (.slice G cuts.length gap) := (by obtain ⟨c0, c1, c2, c3, c4⟩ := kH4.five; exact ⟨c0, c1, c2, c3, c4, kR4.cell 0, kR4.cell 1⟩))
          | (go_at_call 93; refine (HSH.out _ (iG3.behind hb4x)).mono ?_; rintro e w5 ⟨rfl, hb5⟩; have kH5 := kH4.below hb5 kH4.lt; have kR5 := kR4.below hb5 kR4.lt; have K5 : w5.cell? ⟨w.heap.size, 0, none⟩ = some (.int .i64 C) ∧ w5.cell? ⟨w.heap.size, 1, none⟩ = some (.int .i64 R) ∧ w5.cell? ⟨w.heap.size, 2, none⟩ = some (.int .i64 B) ∧ w5.cell? ⟨w.heap.size, 3, none⟩ = some (.int .i64 F) ∧ w5.cell? ⟨w.heap.size, 4, none⟩ = some (.slice A cl.length cap) ∧ w5.cell? ⟨w.heap.size + 1, 0, none⟩ = some (.slice E st.length eap) ∧ w5.cell? ⟨w.heap.size + 1, 1, none⟩ = some (.slice G cuts.length gap) := (by obtain ⟨c0, c1, c2, c3, c4⟩ := kH5.five; exact ⟨c0, c1, c2, c3, c4, kR5.cell 0, kR5.cell 1⟩)))
      go_wp2_with fail
      go_ret
      exact ⟨rfl, below_next (below_next bw3 bw3.size hb4x) (by have := bw3.size; have := hb4x.size; omega) hb5⟩

/-- the program's CheckFewest -/
theorem check42_any (C R B F : Int) (A : Option Addr) (cap : Nat) (cl : List Int) (D : Option Addr) (dap : Nat) (l : List Int) (E : Option Addr) (eap : Nat) (st : List Int) (G : Option Addr) (gap : Nat) (cuts : List (Int × List Int)) (w : World) (hB : B ≤ 9223372036854775807) (hcl : cl.length ≤ 9223372036854775807) (hll : l.length ≤ 9223372036854775807) (hsl : st.length ≤ 9223372036854775807) (hgl : cuts.length ≤ 9223372036854775807) (hcc : ∀ c ∈ cuts, c.2.length ≤ 9223372036854775807) (hr : Ints w w.heap.size A cl) (hl : Ints w w.heap.size D l) (hs : Ints w w.heap.size E st) (hg : CutsC w w.heap.size G cuts) (res : Int) (he : holesErr C R B F cl l ≠ 0 → res = holesErr C R B F cl l) (h2 : HolesOk C R B F cl l → LongP st cuts → res = 2) (h0 : HolesOk C R B F cl l → ¬ LongP st cuts → OkP C R B F cl l st cuts → res = 0) (h8 : HolesOk C R B F cl l → ¬ LongP st cuts → ¬ OkP C R B F cl l st cuts → res = 8) :
    Calls Try.prog 42 #[.agg #[.int .i64 C, .int .i64 R, .int .i64 B, .int .i64 F, .slice A cl.length cap], .slice D l.length dap, .agg #[.slice E st.length eap, .slice G cuts.length gap]] w fun e w' => e = .returned (.int .i64 res) ∧ Below w.heap.size w w' := by
  by_cases hz : holesErr C R B F cl l = 0
  · have hk := holesErr_zero.1 hz
    by_cases hL : LongP st cuts
    · exact check42_long C R B F A cap cl D dap l E eap st G gap cuts w hB hcl hll hsl hgl hcc hr hl hs hg res hk hL (h2 hk hL)
    · have hLL : st.length ≤ 200 ∧ cuts.length ≤ 200 ∧ ∀ c ∈ cuts, c.2.length ≤ 200 := by
        unfold LongP at hL
        refine ⟨?_, ?_, fun c hc => ?_⟩
        · exact Nat.le_of_not_lt fun h => hL (.inl h)
        · exact Nat.le_of_not_lt fun h => hL (.inr (.inl h))
        · exact Nat.le_of_not_lt fun h => hL (.inr (.inr ⟨c, hc, h⟩))
      obtain ⟨q1, q2, q3⟩ := hLL
      have HL0 := fun (W : World) (ha : Ints W W.heap.size A cl) (hd : Ints W W.heap.size D l) (hst : Ints W W.heap.size E st) => left_any C R B F A cap cl D dap l E eap st W hB hcl hll hsl ha hd hst
      have q4 : ∀ (j : Nat) (hj1 : j < cuts.length), cuts[j].2.length ≤ 200 := fun j hj => q3 _ (List.getElem_mem hj)
      by_cases hle : leftErr C R B F cl l st = 0
      · rw [hle] at HL0
        by_cases hll0 : (leftL C R B F cl l st).length = 0
        · have hnil := List.eq_nil_of_length_eq_zero hll0
          have k1 := hk.ok.c3
          have HNS := fun (W : World) (ha : Ints W W.heap.size A cl) (hd : Ints W W.heap.size D l) => newSearch_ok (A := A) (cap := cap) (D := D) (dap := dap) W hk.ok ha hd (by have := hk.len; omega) (fun x hx => (hk.all x hx).1)
          by_cases hsa : ShownAll C B F (isIn cl) (isIn (colm C l)) cuts st.length
          · exact check42_t C R B F A cap cl D dap l E eap st G gap cuts w hB hcl hll hsl hgl hcc hr hl hs hg res hk q1 q2 q4 _ _ HL0 rfl hll0 _ HNS (fun W hgg => shown93_any C R B F _ cl l G gap cuts st.length W hk (by omega) (by omega) (fun c hc => by have := q3 c hc; omega) hgg true (fun _ => rfl) (fun h => absurd hsa h)) (h0 hk hL ⟨hle, hnil, hsa⟩)
          · exact check42_f C R B F A cap cl D dap l E eap st G gap cuts w hB hcl hll hsl hgl hcc hr hl hs hg res hk q1 q2 q4 _ _ HL0 rfl hll0 _ HNS (fun W hgg => shown93_any C R B F _ cl l G gap cuts st.length W hk (by omega) (by omega) (fun c hc => by have := q3 c hc; omega) hgg false (fun h => absurd h hsa) (fun _ => rfl)) (h8 hk hL (fun h => hsa h.2.2))
        · exact check42_n C R B F A cap cl D dap l E eap st G gap cuts w hB hcl hll hsl hgl hcc hr hl hs hg res hk q1 q2 q4 _ _ HL0 rfl (by omega) (h8 hk hL (fun h => hll0 (by rw [h.2.1]; rfl)))
      · exact check42_e C R B F A cap cl D dap l E eap st G gap cuts w hB hcl hll hsl hgl hcc hr hl hs hg res hk q1 q2 q4 _ _ HL0 hle (h8 hk hL (fun h => hle h.1))
  · exact check42_err C R B F A cap cl D dap l E eap st G gap cuts w hB hcl hll hsl hgl hcc hr hl hs hg res hz (he hz)

end Go.Proofs.Ytnjmkdgglpcfpaa
