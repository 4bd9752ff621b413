import Derived.Test.YtnjmkdgglpcfpaaA10
import Derived.RangeFuncNested
import Derived.RangeFuncBound
import Derived.RangeFuncCalls
import Derived.RangeFuncLeaves
import Derived.RangeFuncBox
import Derived.Shelf.Abstract
import Derived.Shelf.RegionOpen
import Derived.OwnWalkIn
import Derived.TacticsInMore
import Derived.LoopNIn
import Derived.LoopIn
namespace Go.Proofs.Ytnjmkdgglpcfpaa
open Go.RowKit Go.Shelf

/-- a column of a house with C columns -/
abbrev Col (C : Int) := { x : Int // 0 ≤ x ∧ x < C }
/-- the wanted columns among the first k that lie behind what a stand reaches -/
def bhTo (C F : Int) (q : Nat → Bool) (s : Int) (k : Nat) : List Int := ((List.range k).map fun j : Nat => (s + (F + 1 + j)) % C).filter fun c => q c.toNat
theorem bhTo_len (C F : Int) (q : Nat → Bool) (s : Int) (k : Nat) : (bhTo C F q s k).length ≤ k := by
  unfold bhTo
  exact Nat.le_trans (List.length_filter_le _ _) (by simp)
theorem bhTo_yes {C F : Int} {q : Nat → Bool} {s : Int} {k m : Nat} (hm : (s + (F + 1 + k)) % C = (m : Int)) (h : q m = true) : bhTo C F q s (k + 1) = bhTo C F q s k ++ [(m : Int)] := by
  simp [bhTo, List.range_succ, hm, h]
theorem bhTo_no {C F : Int} {q : Nat → Bool} {s : Int} {k m : Nat} (hm : (s + (F + 1 + k)) % C = (m : Int)) (h : q m = false) : bhTo C F q s (k + 1) = bhTo C F q s k := by
  simp [bhTo, List.range_succ, hm, h]
theorem bhTo_pre {C F : Int} {q : Nat → Bool} {s : Int} {k K : Nat} (h : k ≤ K) : bhTo C F q s k <+: bhTo C F q s K := by
  obtain ⟨d, rfl⟩ := Nat.exists_eq_add_of_le h
  refine ⟨((List.range' k d).map fun j : Nat => (s + (F + 1 + j)) % C).filter fun c => q c.toNat, ?_⟩
  unfold bhTo
  rw [← List.filter_append, ← List.map_append, List.range_eq_range', List.range_eq_range', show k + d = k + d from rfl]
  congr 2
  have := List.range'_append (s := 0) (m := k) (n := d) (step := 1)
  simpa using this
/-- how many columns lie behind -/
def bhK (C B F : Int) : Nat := (C - B - F - 1).toNat

/-- blocks a and b lie as they lay -/
def Kp2 (a b : Nat) (W W' : World) : Prop := W'.heap[a]? = W.heap[a]? ∧ W'.heap[b]? = W.heap[b]? ∧ W.heap.size ≤ W'.heap.size
theorem Kp2.refl (a b : Nat) (W : World) : Kp2 a b W W := ⟨rfl, rfl, Nat.le_refl _⟩
theorem Kp2.trans {a b : Nat} {A B C : World} (h : Kp2 a b A B) (k : Kp2 a b B C) : Kp2 a b A C := ⟨k.1.trans h.1, k.2.1.trans h.2.1, Nat.le_trans h.2.2 k.2.2⟩
theorem Kp2.below {a b B : Nat} {W W' : World} (h : Below B W W') (ha : a < B) (hb : b < B) : Kp2 a b W W' := ⟨h.block a ha, h.block b hb, h.size⟩
theorem Kp2.put {a b B : Nat} {W : World} {l : Nat} (o' : Obj) (ha : a < B) (hb : b < B) (hl : B ≤ l) : Kp2 a b W (W.putObj l o') :=
  ⟨World.putObj_heap_other (by omega), World.putObj_heap_other (by omega), by simp⟩

theorem grown_of_below {w w' : World} (hb : Below w.heap.size w w') : w.grownBy w' none := ⟨hb.os, hb.tape, hb.output, hb.size, fun k hk _ => hb.block k hk⟩

set_option maxRecDepth 100000 in
set_option maxHeartbeats 1000000 in
theorem behind1_in (n : Nat) (hn : 1 ≤ n) (l Bs Bi : Nat) (C R B F : Int) (sl : Value) (p q : Nat → Bool) (s : Int) (J Jx : List (Col C) → World → Prop)
    (h1 : 1 ≤ C) (h2 : C ≤ 120) (h3 : 0 ≤ s) (h4 : s < C) (h7 : 0 ≤ B) (h8 : 0 ≤ F) (h9 : F < C - B) (W : World) (hs : Bs < W.heap.size) (hi : Bi < W.heap.size) (hJ : AbidesFrom W.heap.size J)
    (hY : ∀ pre x W, J pre W → pre.length < 120 → YieldAt Fence.wide (n - 1) Try.prog l #[.int .i64 x.1] W fun e W' =>
      (e = .returned (.bool true) ∧ J (pre ++ [x]) W' ∧ Kp2 Bs Bi W W') ∨ (e = .returned (.bool false) ∧ Jx (pre ++ [x]) W'))
    (hBs : Blk W Bs 106 (sv C R B F sl p q)) (hBi : W.cell? ⟨Bi, 0, none⟩ = some (.int .i64 s)) (h0 : J [] W) :
    CallsIn Fence.wide n Try.prog 130 #[.func (.yield l) #[] #[], .pointer (some ⟨Bs, 0, none⟩), .pointer (some ⟨Bi, 0, none⟩)] W fun e W' => (∃ v, e = .returned v) ∧
      ((∃ ys : List (Col C), ys.map Subtype.val = bhTo C F q s (bhK C B F) ∧ J ys W') ∨ (∃ pre : List (Col C), pre.map Subtype.val <+: bhTo C F q s (bhK C B F) ∧ Jx pre W')) := by
  obtain ⟨d0, d1, d2, d3, d4⟩ := hBs.svFive
  have hK : Hid ((bhK C B F : Int) = C - B - F - 1) := by unfold Hid bhK; omega
  generalize bhK C B F = K at hK ⊢
  refine callsIn_of_wp Try.func130 rfl trivial ?_ rfl
  simp only [Try.ntmps130, List.size_toArray, List.length_cons, List.length_nil, Nat.reduceAdd, Nat.reduceSub, Array.replicate_succ, Array.replicate_zero, List.push_toArray, List.append_toArray, List.nil_append, List.cons_append]
  gi_wp2
  clear d0 d1 d2 d3 d4
  gi_loopw [4, 5] (fun v _ wr => ∃ (k : Nat) (pre : List (Col C)), k ≤ K ∧ v = .int .i64 (F + 1 + k) ∧ Hid (pre.map Subtype.val = bhTo C F q s k) ∧ J pre wr ∧ Kp2 Bs Bi W wr)
    (fun v _ _ => K + 1 - (intOf v - F).toNat)
  case atStart => exact ⟨0, [], Nat.zero_le _, by simp, rfl, h0, Kp2.refl _ _ _⟩
  case round =>
    obtain ⟨k, pre, hk, rfl, hpre, hJs, hb⟩ := hrel
    have hb0 : Blk wr Bs 106 (sv C R B F sl p q) := hb.1.trans hBs
    obtain ⟨d0, d1, d2, d3, d4⟩ := hb0.svFive
    have di : wr.cell? ⟨Bi, 0, none⟩ = some (.int .i64 s) := (World.cell?_of_block (w := W) (a := ⟨Bi, 0, none⟩) hb.2.1).trans hBi
    have hz := hb.2.2
    have hKo := hK.out
    by_cases hlt : k < K
    · have hlt' : F + 1 + (k : Int) < C - B := by omega
      have hm0 := Int.emod_nonneg (s + (F + 1 + k)) (b := C) (by omega)
      have hm1 := Int.emod_lt_of_pos (s + (F + 1 + k)) (b := C) (by omega)
      obtain ⟨m, hm⟩ := Int.eq_ofNat_of_zero_le hm0
      have hm2 : (m : Int) < 120 := by omega
      have hm3 : (m : Int) < C := by omega
      have hw := hb0.svWanted m (by omega)
      have hpl : pre.length < 120 := by
        have h1 := congrArg List.length hpre.out
        rw [List.length_map] at h1
        have h2 := bhTo_len C F q s k
        omega
      have hBlt : Bs < wr.heap.size := Nat.lt_of_lt_of_le hs hz
      cases hq : q m with
      | true =>
        rw [hq] at hw
        have hn1 := Lib.hid (bhTo_yes hm hq)
        have HM := Lib.hid hm
        clear hm hq hm0 hK hKo
        gi_wp2_with (refine ⟨trivial, ?_⟩; gi_at_call 70; refine (callsIn_wide.2 (further_any _ _ _ _ _ _ _ _ h1 h2 (by omega) (by omega) (by omega) (by omega))).mono ?_; rw [HM.out]; rintro e w2 ⟨rfl, hb2⟩; have hw' := (hb2.cell (p := ⟨Bs, 125 + m, none⟩) hBlt).trans hw; have hb3 : Kp2 Bs Bi W w2 := hb.trans (Kp2.below hb2 hBlt (Nat.lt_of_lt_of_le hi hz)); obtain ⟨fn, tmps, assign, body, hy, hR⟩ := hY pre ⟨(m : Int), Int.natCast_nonneg m, hm3⟩ w2 (hJ pre wr w2 none hJs (grown_of_below hb2) (fun r e => by cases e)) hpl; dsimp only at hy)
        refine hR.mono ?_
        rintro e W3 (⟨rfl, hJ3, hk3⟩ | ⟨rfl, hJx3⟩)
        · gi_wp2
          go_roundw
          case rel =>
            refine ⟨k + 1, pre ++ [⟨(m : Int), Int.natCast_nonneg m, hm3⟩], by omega, by simp; omega, ?_, hJ3, hb3.trans hk3⟩
            unfold Hid
            rw [hn1.out, List.map_append, hpre.out]
            rfl
          case measure => simp [intOf]; omega
        · gi_wp2
          refine bodyPost_ret (results_none rfl _ _ _) rfl ?_
          refine ⟨⟨_, rfl⟩, .inr ⟨_, ?_, hJx3⟩⟩
          rw [List.map_append, hpre.out]
          have := bhTo_pre (C := C) (F := F) (q := q) (s := s) (k := k + 1) (K := K) (by omega)
          rw [hn1.out] at this
          exact this
      | false =>
        rw [hq] at hw
        have hn1 := Lib.hid (bhTo_no hm hq)
        have HM := Lib.hid hm
        clear hm hq hm0 hm1 hK hKo
        gi_wp2_with (refine ⟨trivial, ?_⟩; gi_at_call 70; refine (callsIn_wide.2 (further_any _ _ _ _ _ _ _ _ h1 h2 (by omega) (by omega) (by omega) (by omega))).mono ?_; rw [HM.out]; rintro e w2 ⟨rfl, hb2⟩; have hw' := (hb2.cell (p := ⟨Bs, 125 + m, none⟩) hBlt).trans hw)
        refine ⟨fun _ h => (by cases h), ?_⟩
        gi_wp2
        go_roundw
        case rel =>
          refine ⟨k + 1, pre, by omega, by simp; omega, ?_, hJ pre wr w2 none hJs (grown_of_below hb2) (fun r e => by cases e), hb.trans (Kp2.below hb2 hBlt (Nat.lt_of_lt_of_le hi hz))⟩
          unfold Hid
          rw [hn1.out]
          exact hpre.out
        case measure => simp [intOf]; omega
    · obtain rfl : k = K := by omega
      have hlt' : C - B ≤ F + 1 + (k : Int) := by omega
      clear hKo hK
      gi_wp2
      go_end0
      exact ⟨⟨_, rfl⟩, .inl ⟨pre, hpre.out, hJs⟩⟩

/-- what 'behind' hands back gives the columns behind, in order, or a part of them -/
theorem behind_stops (n : Nat) (hn : 1 ≤ n) (Bs Bi : Nat) (C R B F : Int) (sl : Value) (p q : Nat → Bool) (s : Int)
    (h1 : 1 ≤ C) (h2 : C ≤ 120) (h3 : 0 ≤ s) (h4 : s < C) (h7 : 0 ≤ B) (h8 : 0 ≤ F) (h9 : F < C - B) (w : World) (hs : Blk w Bs 106 (sv C R B F sl p q)) (hi : w.cell? ⟨Bi, 0, none⟩ = some (.int .i64 s)) :
    SeqStopsK Fence.wide n Try.prog 130 #[.pointer (some ⟨Bs, 0, none⟩), .pointer (some ⟨Bi, 0, none⟩)] (fun x : Col C => #[Value.int .i64 x.1]) (Kp2 Bs Bi)
      (fun ys => ys.map Subtype.val = bhTo C F q s (bhK C B F)) (fun pre => pre.map Subtype.val <+: bhTo C F q s (bhK C B F)) 120 w := fun l J Jx W hW hJ _ hY h0 =>
  have hil : Bi < w.heap.size := World.block_lt_of_cell? w ⟨Bi, 0, none⟩ hi
  behind1_in n hn l Bs Bi C R B F sl p q s J Jx h1 h2 h3 h4 h7 h8 h9 W (Nat.lt_of_lt_of_le hs.lt hW.size) (Nat.lt_of_lt_of_le hil hW.size) hJ hY (hs.below hW hs.lt) ((hW.cell (p := ⟨Bi, 0, none⟩) hil).trans hi) h0

set_option maxRecDepth 100000 in
set_option maxHeartbeats 400000 in
theorem behind_any (vs : Array Value) (s : Int) (w : World) :
    Calls Try.prog 113 #[.agg vs, .int .i64 s] w fun e w' => e = .returned (.func (.func 130) #[] #[.pointer (some ⟨w.heap.size, 0, none⟩), .pointer (some ⟨w.heap.size + 1, 0, none⟩)]) ∧ (w.alloc (.cells vs 106)).alloc (.cells #[.int .i64 s] 3) = w' := by
  go_enter Try.func113, Try.ntmps113
  go_wp2_with fail
  go_ret
  exact ⟨rfl, rfl⟩

end Go.Proofs.Ytnjmkdgglpcfpaa
