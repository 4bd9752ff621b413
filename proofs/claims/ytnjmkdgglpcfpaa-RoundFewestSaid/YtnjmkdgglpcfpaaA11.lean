import Derived.Test.YtnjmkdgglpcfpaaA9
import Derived.RangeFuncNested
import Derived.RangeFuncBound
import Derived.RangeFuncCalls
import Derived.RangeFuncLeaves
import Derived.RangeFuncBox
import Derived.Shelf.Abstract
import Derived.Shelf.RegionOpen
import Derived.OwnWalkIn
import Derived.TacticsInMore
import Derived.LoopNIn
import Derived.LoopIn
namespace Go.Proofs.Ytnjmkdgglpcfpaa
open Go.RowKit

theorem opens_mem {C B F : Int} {p : Nat → Bool} {c x : Int} (h : x ∈ opens C B F p c) : 0 ≤ x ∧ x < C := by
  obtain ⟨i, hi, _, rfl⟩ := colsTo_mem.1 h
  omega
theorem opens_len {C B F : Int} {p : Nat → Bool} {c : Int} (h : C ≤ 120) : (opens C B F p c).length ≤ 120 := by
  have := colsTo_len (fun s => !p s && rch C B F s c) C.toNat
  unfold opens
  omega
/-- does some open stand reach both? -/
def tog (C B F : Int) (p : Nat → Bool) (a b : Int) : Bool := (opens C B F p a).any fun s => rch C B F s b

/-- how far the farthest open stand is: from n down, k steps left -/
def farN (C : Int) (p : Nat → Bool) (c : Int) : Int → Nat → Int
  | n, 0 => n
  | n, k + 1 => if p ((c + n) % C).toNat then farN C p c (n - 1) k else n
def far (C B F : Int) (p : Nat → Bool) (c : Int) : Int := (c + farN C p c B (B + F).toNat) % C

set_option maxRecDepth 100000 in
set_option maxHeartbeats 400000 in
theorem together_any (C R B F : Int) (sl : Value) (p q : Nat → Bool) (a b : Int) (w : World) (h1 : 1 ≤ C) (h2 : C ≤ 120) (h3 : 0 ≤ a) (h4 : a < C) (h5 : 0 ≤ b) (h6 : b < C) (h7 : 0 ≤ B) (h8 : 0 ≤ F) (h9 : F < C - B) :
    Calls Try.prog 114 #[.agg (sv C R B F sl p q), .int .i64 a, .int .i64 b] w fun e w' => e = .returned (.bool (tog C B F p a b)) ∧ Below w.heap.size w w' := by
  have hblk := Blk.new w 106 (sv C R B F sl p q)
  have hl := opens_len (C := C) (B := B) (F := F) (p := p) (c := a) h2
  have hm : Hid (∀ x ∈ opens C B F p a, 0 ≤ x ∧ x < C) := fun x hx => opens_mem hx
  have ht : Hid (tog C B F p a b = (opens C B F p a).any fun s => rch C B F s b) := rfl
  generalize tog C B F p a b = res at ht
  generalize hO : opens C B F p a = O at hl hm ht
  have HO := Lib.hid hO
  clear hO
  go_enter Try.func114, Try.ntmps114
  go_wp2_with (first
    | (refine wpList_load_row (by rfl) 106 _ (by rfl) _ (by rfl) 106 _ (0, 0) _ hblk Try.underlying106 rfl (info106 _ _ _ _ _ _ _) ?_)
    | (go_at_call 88; refine (sStands_any C R B F sl p q a _ h1 h2 h3 h4 h7 h8 h9).mono ?_; rw [HO.out]; rintro e w1 ⟨A, c', rfl, e1, e2, e3, hb1⟩))
  have hb : Below w.heap.size w w1 := below_next (below_new _ _) (by simp) hb1
  have hblk1 := hblk.below hb1 (by simp)
  have hsz : w.heap.size < w1.heap.size := hblk1.lt
  clear hblk hb1
  go_loopw [8, 13] (fun _ i wr => ∃ k : Nat, k ≤ O.length ∧ i = .int .i64 k ∧ Hid ((O.take k).any (fun s => rch C B F s b) = false) ∧ Below w.heap.size w wr ∧ Below w1.heap.size w1 wr ∧ Blk wr w.heap.size 106 (sv C R B F sl p q))
    (fun _ i _ => O.length - (intOf i).toNat)
  case atStart => exact ⟨0, Nat.zero_le _, rfl, rfl, hb, Below.refl _ _, hblk1⟩
  case round =>
    obtain ⟨k, hk, rfl, hno, hb, hbw, hb0⟩ := hrel
    obtain ⟨d0, d1, d2, d3, d4⟩ := hb0.svFive
    have hlt0 := hb0.lt
    have hz := hbw.size
    by_cases hlt : k < O.length
    · obtain ⟨ad, rfl, hB, hc⟩ := (e3.below hbw).get hlt
      have hx := hm.out _ (List.getElem_mem hlt)
      cases hr : rch C B F O[k] b with
      | true =>
        have hres : Hid (res = true) := by rw [ht.out]; exact List.any_eq_true.2 ⟨_, List.getElem_mem hlt, hr⟩
        have HR := Lib.hid hr
        clear hr hno ht
        go_wp2_with (first
          | (go_at_call 109; refine (reaches_any _ _ _ _ _ _ _ _ h1 h2 h5 h6 hx.1 hx.2 h7 h8 h9).mono ?_; rw [HR.out]; rintro e w2 ⟨rfl, hb2⟩))
        go_ret
        exact ⟨ret_bool hres.out.symm, below_next hb (by omega) hb2⟩
      | false =>
        have hn : Hid ((O.take (k + 1)).any (fun s => rch C B F s b) = false) := by
          unfold Hid
          rw [List.take_succ_eq_append_getElem hlt, List.any_append, hno.out]
          simp [hr]
        have HR := Lib.hid hr
        clear hr hno ht
        go_wp2_with (first
          | (go_at_call 109; refine (reaches_any _ _ _ _ _ _ _ _ h1 h2 h5 h6 hx.1 hx.2 h7 h8 h9).mono ?_; rw [HR.out]; rintro e w2 ⟨rfl, hb2⟩))
        go_roundw
        case rel => exact ⟨k + 1, by omega, by go_num, hn, below_next hb (by omega) hb2, below_next hbw (by omega) hb2, hb0.below hb2 (by omega)⟩
        case measure => simp [intOf]; try omega
    · have hres : Hid (res = false) := by rw [ht.out]; have := hno.out; rwa [List.take_of_length_le (by omega)] at this
      clear ht hno
      go_wp2_with fail
      go_ret
      exact ⟨ret_bool hres.out.symm, hb⟩

set_option maxRecDepth 100000 in
set_option maxHeartbeats 400000 in
theorem farthest_any (C R B F : Int) (sl : Value) (p q : Nat → Bool) (c : Int) (w : World) (h1 : 1 ≤ C) (h2 : C ≤ 120) (h3 : 0 ≤ c) (h4 : c < C) (h7 : 0 ≤ B) (h8 : 0 ≤ F) (h9 : F < C - B) :
    Calls Try.prog 118 #[.agg (sv C R B F sl p q), .int .i64 c] w fun e w' => e = .returned (.int .i64 (far C B F p c)) ∧ Below w.heap.size w w' := by
  have hblk := Blk.new w 106 (sv C R B F sl p q)
  obtain ⟨d0, d1, d2, d3, d4⟩ := hblk.svFive
  unfold far
  generalize hT : farN C p c B (B + F).toNat = T
  have HT := Lib.hid hT
  clear hT
  go_enter Try.func118, Try.ntmps118
  go_wp2_with fail
  clear d0 d1 d2 d3 d4
  go_loopw [5] (fun v wr => ∃ n : Int, ∃ k : Nat, v = .int .i64 n ∧ Hid (n = (k : Int) - F) ∧ n ≤ B ∧ Hid (farN C p c n k = T) ∧ Below w.heap.size w wr ∧ Blk wr w.heap.size 106 (sv C R B F sl p q))
    (fun v _ => (intOf v + F).toNat)
  case atStart => exact ⟨B, (B + F).toNat, rfl, (by unfold Hid; omega), by omega, HT, below_new _ _, hblk⟩
  case round =>
    obtain ⟨n, k, rfl, hn, hnB, hT, hb, hb0⟩ := hrel
    obtain ⟨d0, d1, d2, d3, d4⟩ := hb0.svFive
    have hlt0 := hb0.lt
    have hn' := hn.out
    have hm0 := Int.emod_nonneg (c + n) (b := C) (by omega)
    have hm1 := Int.emod_lt_of_pos (c + n) (b := C) (by omega)
    obtain ⟨m, hm⟩ := Int.eq_ofNat_of_zero_le hm0
    have hm2 : (m : Int) < 120 := by omega
    have hsh := hb0.svShut m (by omega)
    cases k with
    | zero =>
      have hTn : Hid (T = n) := by rw [← hT.out]; rfl
      have hng : n ≤ -F := by omega
      have hng2 : decide (-F < n) = false := by simp; omega
      have hlo : -F ≤ n := by omega
      have HM := Lib.hid hm
      clear hm hm0 hm1 hn hn' hT
      go_wp2_with (first
        | (go_at_call 70; refine (further_any _ _ _ _ _ _ _ _ h1 h2 (by omega) (by omega) (by omega) (by omega)).mono ?_; rintro e w2 ⟨rfl, hb2⟩))
      go_ret
      exact ⟨ret_int (by rw [hTn.out]), below_next hb (by omega) hb2⟩
    | succ k =>
      have hng : -F < n := by omega
      cases hp : p m with
      | true =>
        have hTn : Hid (farN C p c (n - 1) k = T) := by
          have := hT.out
          rw [farN, hm, Int.toNat_natCast, hp] at this
          exact this
        have hnn : Hid (n - 1 = (k : Int) - F) := by unfold Hid; omega
        rw [hp] at hsh
        have HM := Lib.hid hm
        clear hm hm0 hm1 hn hn' hT hp
        go_wp2_with (first
          | (go_at_call 70; refine (further_any _ _ _ _ _ _ _ _ h1 h2 (by omega) (by omega) (by omega) (by omega)).mono ?_; rw [HM.out]; rintro e w2 ⟨rfl, hb2⟩; obtain ⟨q1, q2⟩ := bcell hb2))
        go_roundw
        case rel => exact ⟨n - 1, k, rfl, hnn, by omega, hTn, below_next hb (by omega) hb2, hb0.below hb2 (by omega)⟩
        case measure => simp [intOf]; try omega
      | false =>
        have hTn : Hid (T = n) := by
          rw [← hT.out, farN, hm, Int.toNat_natCast, hp]
          rfl
        rw [hp] at hsh
        have HM := Lib.hid hm
        clear hm hm0 hm1 hn hn' hT hp
        go_wp2_with (first
          | (go_at_call 70; refine (further_any _ _ _ _ _ _ _ _ h1 h2 (by omega) (by omega) (by omega) (by omega)).mono ?_; rw [HM.out]; rintro e w2 ⟨rfl, hb2⟩; obtain ⟨q1, q2⟩ := bcell hb2; have hb := below_next hb (Nat.le_of_lt hlt0) hb2; have hlt0 := Nat.lt_of_lt_of_le hlt0 hb2.size))
        go_ret
        exact ⟨ret_int (by rw [hTn.out, HM.out]), hb⟩

end Go.Proofs.Ytnjmkdgglpcfpaa

namespace Go.Proofs.Ytnjmkdgglpcfpaa
open Go.RowKit Go.Shelf

/-- a column of a house with C columns -/
abbrev Col (C : Int) := { x : Int // 0 ≤ x ∧ x < C }
/-- the wanted columns among the first k that lie behind what a stand reaches -/
def bhTo (C F : Int) (q : Nat → Bool) (s : Int) (k : Nat) : List Int := ((List.range k).map fun j : Nat => (s + (F + 1 + j)) % C).filter fun c => q c.toNat
theorem bhTo_len (C F : Int) (q : Nat → Bool) (s : Int) (k : Nat) : (bhTo C F q s k).length ≤ k := by
  unfold bhTo
  exact Nat.le_trans (List.length_filter_le _ _) (by simp)
theorem bhTo_yes {C F : Int} {q : Nat → Bool} {s : Int} {k m : Nat} (hm : (s + (F + 1 + k)) % C = (m : Int)) (h : q m = true) : bhTo C F q s (k + 1) = bhTo C F q s k ++ [(m : Int)] := by
  simp [bhTo, List.range_succ, hm, h]
theorem bhTo_no {C F : Int} {q : Nat → Bool} {s : Int} {k m : Nat} (hm : (s + (F + 1 + k)) % C = (m : Int)) (h : q m = false) : bhTo C F q s (k + 1) = bhTo C F q s k := by
  simp [bhTo, List.range_succ, hm, h]
theorem bhTo_pre {C F : Int} {q : Nat → Bool} {s : Int} {k K : Nat} (h : k ≤ K) : bhTo C F q s k <+: bhTo C F q s K := by
  obtain ⟨d, rfl⟩ := Nat.exists_eq_add_of_le h
  refine ⟨((List.range' k d).map fun j : Nat => (s + (F + 1 + j)) % C).filter fun c => q c.toNat, ?_⟩
  unfold bhTo
  rw [← List.filter_append, ← List.map_append, List.range_eq_range', List.range_eq_range', show k + d = k + d from rfl]
  congr 2
  have := List.range'_append (s := 0) (m := k) (n := d) (step := 1)
  simpa using this
/-- how many columns lie behind -/
def bhK (C B F : Int) : Nat := (C - B - F - 1).toNat

/-- blocks a and b lie as they lay -/
def Kp2 (a b : Nat) (W W' : World) : Prop := W'.heap[a]? = W.heap[a]? ∧ W'.heap[b]? = W.heap[b]? ∧ W.heap.size ≤ W'.heap.size
theorem Kp2.refl (a b : Nat) (W : World) : Kp2 a b W W := ⟨rfl, rfl, Nat.le_refl _⟩
theorem Kp2.trans {a b : Nat} {A B C : World} (h : Kp2 a b A B) (k : Kp2 a b B C) : Kp2 a b A C := ⟨k.1.trans h.1, k.2.1.trans h.2.1, Nat.le_trans h.2.2 k.2.2⟩
theorem Kp2.below {a b B : Nat} {W W' : World} (h : Below B W W') (ha : a < B) (hb : b < B) : Kp2 a b W W' := ⟨h.block a ha, h.block b hb, h.size⟩
theorem Kp2.put {a b B : Nat} {W : World} {l : Nat} (o' : Obj) (ha : a < B) (hb : b < B) (hl : B ≤ l) : Kp2 a b W (W.putObj l o') :=
  ⟨World.putObj_heap_other (by omega), World.putObj_heap_other (by omega), by simp⟩

theorem grown_of_below {w w' : World} (hb : Below w.heap.size w w') : w.grownBy w' none := ⟨hb.os, hb.tape, hb.output, hb.size, fun k hk _ => hb.block k hk⟩

set_option maxRecDepth 100000 in
set_option maxHeartbeats 1000000 in
theorem behind1_in (n : Nat) (hn : 1 ≤ n) (l Bs Bi : Nat) (C R B F : Int) (sl : Value) (p q : Nat → Bool) (s : Int) (J Jx : List (Col C) → World → Prop)
    (h1 : 1 ≤ C) (h2 : C ≤ 120) (h3 : 0 ≤ s) (h4 : s < C) (h7 : 0 ≤ B) (h8 : 0 ≤ F) (h9 : F < C - B) (W : World) (hs : Bs < W.heap.size) (hi : Bi < W.heap.size) (hJ : AbidesFrom W.heap.size J)
    (hY : ∀ pre x W, J pre W → pre.length < 120 → YieldAt Fence.wide (n - 1) Try.prog l #[.int .i64 x.1] W fun e W' =>
      (e = .returned (.bool true) ∧ J (pre ++ [x]) W' ∧ Kp2 Bs Bi W W') ∨ (e = .returned (.bool false) ∧ Jx (pre ++ [x]) W'))
    (hBs : Blk W Bs 106 (sv C R B F sl p q)) (hBi : W.cell? ⟨Bi, 0, none⟩ = some (.int .i64 s)) (h0 : J [] W) :
    CallsIn Fence.wide n Try.prog 130 #[.func (.yield l) #[] #[], .pointer (some ⟨Bs, 0, none⟩), .pointer (some ⟨Bi, 0, none⟩)] W fun e W' => (∃ v, e = .returned v) ∧
      ((∃ ys : List (Col C), ys.map Subtype.val = bhTo C F q s (bhK C B F) ∧ J ys W') ∨ (∃ pre : List (Col C), pre.map Subtype.val <+: bhTo C F q s (bhK C B F) ∧ Jx pre W')) := by
  obtain ⟨d0, d1, d2, d3, d4⟩ := hBs.svFive
  have hK : Hid ((bhK C B F : Int) = C - B - F - 1) := by unfold Hid bhK; omega
  generalize bhK C B F = K at hK ⊢
  refine callsIn_of_wp Try.func130 rfl trivial ?_ rfl
  simp only [Try.ntmps130, List.size_toArray, List.length_cons, List.length_nil, Nat.reduceAdd, Nat.reduceSub, Array.replicate_succ, Array.replicate_zero, List.push_toArray, List.append_toArray, List.nil_append, List.cons_append]
  gi_wp2
  clear d0 d1 d2 d3 d4
  gi_loopw [4, 5] (fun v _ wr => ∃ (k : Nat) (pre : List (Col C)), k ≤ K ∧ v = .int .i64 (F + 1 + k) ∧ Hid (pre.map Subtype.val = bhTo C F q s k) ∧ J pre wr ∧ Kp2 Bs Bi W wr)
    (fun v _ _ => K + 1 - (intOf v - F).toNat)
  case atStart => exact ⟨0, [], Nat.zero_le _, by simp, rfl, h0, Kp2.refl _ _ _⟩
  case round =>
    obtain ⟨k, pre, hk, rfl, hpre, hJs, hb⟩ := hrel
    have hb0 : Blk wr Bs 106 (sv C R B F sl p q) := hb.1.trans hBs
    obtain ⟨d0, d1, d2, d3, d4⟩ := hb0.svFive
    have di : wr.cell? ⟨Bi, 0, none⟩ = some (.int .i64 s) := (World.cell?_of_block (w := W) (a := ⟨Bi, 0, none⟩) hb.2.1).trans hBi
    have hz := hb.2.2
    have hKo := hK.out
    by_cases hlt : k < K
    · have hlt' : F + 1 + (k : Int) < C - B := by omega
      have hm0 := Int.emod_nonneg (s + (F + 1 + k)) (b := C) (by omega)
      have hm1 := Int.emod_lt_of_pos (s + (F + 1 + k)) (b := C) (by omega)
      obtain ⟨m, hm⟩ := Int.eq_ofNat_of_zero_le hm0
      have hm2 : (m : Int) < 120 := by omega
      have hm3 : (m : Int) < C := by omega
      have hw := hb0.svWanted m (by omega)
      have hpl : pre.length < 120 := by
        have h1 := congrArg List.length hpre.out
        rw [List.length_map] at h1
        have h2 := bhTo_len C F q s k
        omega
      have hBlt : Bs < wr.heap.size := Nat.lt_of_lt_of_le hs hz
      cases hq : q m with
      | true =>
        rw [hq] at hw
        have hn1 := Lib.hid (bhTo_yes hm hq)
        have HM := Lib.hid hm
        clear hm hq hm0 hK hKo
        gi_wp2_with (refine ⟨trivial, ?_⟩; gi_at_call 70; refine (callsIn_wide.2 (further_any _ _ _ _ _ _ _ _ h1 h2 (by omega) (by omega) (by omega) (by omega))).mono ?_; rw [HM.out]; rintro e w2 ⟨rfl, hb2⟩; have hw' := (hb2.cell (p := ⟨Bs, 125 + m, none⟩) hBlt).trans hw; have hb3 : Kp2 Bs Bi W w2 := hb.trans (Kp2.below hb2 hBlt (Nat.lt_of_lt_of_le hi hz)); obtain ⟨fn, tmps, assign, body, hy, hR⟩ := hY pre ⟨(m : Int), Int.natCast_nonneg m, hm3⟩ w2 (hJ pre wr w2 none hJs (grown_of_below hb2) (fun r e => by cases e)) hpl; dsimp only at hy)
        refine hR.mono ?_
        rintro e W3 (⟨rfl, hJ3, hk3⟩ | ⟨rfl, hJx3⟩)
        · gi_wp2
          go_roundw
          case rel =>
            refine ⟨k + 1, pre ++ [⟨(m : Int), Int.natCast_nonneg m, hm3⟩], by omega, by simp; omega, ?_, hJ3, hb3.trans hk3⟩
            unfold Hid
            rw [hn1.out, List.map_append, hpre.out]
            rfl
          case measure => simp [intOf]; omega
        · gi_wp2
          refine bodyPost_ret (results_none rfl _ _ _) rfl ?_
          refine ⟨⟨_, rfl⟩, .inr ⟨_, ?_, hJx3⟩⟩
          rw [List.map_append, hpre.out]
          have := bhTo_pre (C := C) (F := F) (q := q) (s := s) (k := k + 1) (K := K) (by omega)
          rw [hn1.out] at this
          exact this
      | false =>
        rw [hq] at hw
        have hn1 := Lib.hid (bhTo_no hm hq)
        have HM := Lib.hid hm
        clear hm hq hm0 hm1 hK hKo
        gi_wp2_with (refine ⟨trivial, ?_⟩; gi_at_call 70; refine (callsIn_wide.2 (further_any _ _ _ _ _ _ _ _ h1 h2 (by omega) (by omega) (by omega) (by omega))).mono ?_; rw [HM.out]; rintro e w2 ⟨rfl, hb2⟩; have hw' := (hb2.cell (p := ⟨Bs, 125 + m, none⟩) hBlt).trans hw)
        refine ⟨fun _ h => (by cases h), ?_⟩
        gi_wp2
        go_roundw
        case rel =>
          refine ⟨k + 1, pre, by omega, by simp; omega, ?_, hJ pre wr w2 none hJs (grown_of_below hb2) (fun r e => by cases e), hb.trans (Kp2.below hb2 hBlt (Nat.lt_of_lt_of_le hi hz))⟩
          unfold Hid
          rw [hn1.out]
          exact hpre.out
        case measure => simp [intOf]; omega
    · obtain rfl : k = K := by omega
      have hlt' : C - B ≤ F + 1 + (k : Int) := by omega
      clear hKo hK
      gi_wp2
      go_end0
      exact ⟨⟨_, rfl⟩, .inl ⟨pre, hpre.out, hJs⟩⟩

/-- what 'behind' hands back gives the columns behind, in order, or a part of them -/
theorem behind_stops (n : Nat) (hn : 1 ≤ n) (Bs Bi : Nat) (C R B F : Int) (sl : Value) (p q : Nat → Bool) (s : Int)
    (h1 : 1 ≤ C) (h2 : C ≤ 120) (h3 : 0 ≤ s) (h4 : s < C) (h7 : 0 ≤ B) (h8 : 0 ≤ F) (h9 : F < C - B) (w : World) (hs : Blk w Bs 106 (sv C R B F sl p q)) (hi : w.cell? ⟨Bi, 0, none⟩ = some (.int .i64 s)) :
    SeqStopsK Fence.wide n Try.prog 130 #[.pointer (some ⟨Bs, 0, none⟩), .pointer (some ⟨Bi, 0, none⟩)] (fun x : Col C => #[Value.int .i64 x.1]) (Kp2 Bs Bi)
      (fun ys => ys.map Subtype.val = bhTo C F q s (bhK C B F)) (fun pre => pre.map Subtype.val <+: bhTo C F q s (bhK C B F)) 120 w := fun l J Jx W hW hJ _ hY h0 =>
  have hil : Bi < w.heap.size := World.block_lt_of_cell? w ⟨Bi, 0, none⟩ hi
  behind1_in n hn l Bs Bi C R B F sl p q s J Jx h1 h2 h3 h4 h7 h8 h9 W (Nat.lt_of_lt_of_le hs.lt hW.size) (Nat.lt_of_lt_of_le hil hW.size) hJ hY (hs.below hW hs.lt) ((hW.cell (p := ⟨Bi, 0, none⟩) hil).trans hi) h0

set_option maxRecDepth 100000 in
set_option maxHeartbeats 400000 in
theorem behind_any (vs : Array Value) (s : Int) (w : World) :
    Calls Try.prog 113 #[.agg vs, .int .i64 s] w fun e w' => e = .returned (.func (.func 130) #[] #[.pointer (some ⟨w.heap.size, 0, none⟩), .pointer (some ⟨w.heap.size + 1, 0, none⟩)]) ∧ (w.alloc (.cells vs 106)).alloc (.cells #[.int .i64 s] 3) = w' := by
  go_enter Try.func113, Try.ntmps113
  go_wp2_with fail
  go_ret
  exact ⟨rfl, rfl⟩

end Go.Proofs.Ytnjmkdgglpcfpaa

