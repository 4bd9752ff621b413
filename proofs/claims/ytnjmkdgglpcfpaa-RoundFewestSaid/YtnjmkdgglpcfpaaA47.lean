import Derived.Test.YtnjmkdgglpcfpaaA15
import Derived.Test.YtnjmkdgglpcfpaaA26
namespace Go.Proofs.Ytnjmkdgglpcfpaa
open Go.RowKit Go.Shelf

attribute [local go_sem] Oper.semAt_some

set_option maxRecDepth 100000 in
set_option maxHeartbeats 1000000 in
theorem reached1_in (n : Nat) (hn : 1 ≤ n) (l Bs Bi : Nat) (C R B F : Int) (sl : Value) (s : Int) (J Jx : List (Col C) → World → Prop)
    (h1 : 1 ≤ C) (h2 : C ≤ 120) (h3 : 0 ≤ s) (h4 : s < C) (h7 : 0 ≤ B) (h8 : 0 ≤ F) (h9 : F < C - B) (W : World) (hs : Bs < W.heap.size) (hi : Bi < W.heap.size) (hJ : AbidesFrom W.heap.size J)
    (hY : ∀ pre x W, J pre W → pre.length < 120 → YieldAt Fence.wide (n - 1) Try.prog l #[.int .i64 x.1] W fun e W' =>
      (e = .returned (.bool true) ∧ J (pre ++ [x]) W' ∧ Kp2 Bs Bi W W') ∨ (e = .returned (.bool false) ∧ Jx (pre ++ [x]) W'))
    (hBs : Blk W Bs 24 #[.int .i64 C, .int .i64 R, .int .i64 B, .int .i64 F, sl]) (hBi : W.cell? ⟨Bi, 0, none⟩ = some (.int .i64 s)) (h0 : J [] W) :
    CallsIn Fence.wide n Try.prog 108 #[.func (.yield l) #[] #[], .pointer (some ⟨Bs, 0, none⟩), .pointer (some ⟨Bi, 0, none⟩)] W fun e W' => (∃ v, e = .returned v) ∧
      ((∃ ys : List (Col C), ys.map Subtype.val = rchL C B s (B + F + 1).toNat ∧ J ys W') ∨ (∃ pre : List (Col C), True ∧ Jx pre W')) := by
  obtain ⟨d0, d1, d2, d3, d4⟩ := hBs.five
  have hK : Hid (((B + F + 1).toNat : Int) = B + F + 1) := by unfold Hid; omega
  have hw0 : IntKind.i64.wrap (-B) = -B := IntWalk.i64_in _ (by omega)
  generalize (B + F + 1).toNat = K at hK ⊢
  refine callsIn_of_wp Try.func108 rfl trivial ?_ rfl
  simp only [Try.ntmps108, List.size_toArray, List.length_cons, List.length_nil, Nat.reduceAdd, Nat.reduceSub, Array.replicate_succ, Array.replicate_zero, List.push_toArray, List.append_toArray, List.nil_append, List.cons_append]
  gi_wp2
  clear d0 d1 d2 d3 d4 hw0
  gi_loopw [4] (fun v wr => ∃ (k : Nat) (pre : List (Col C)), k ≤ K ∧ v = .int .i64 ((k : Int) - B) ∧ Hid (pre.map Subtype.val = rchL C B s k) ∧ J pre wr ∧ Kp2 Bs Bi W wr)
    (fun v _ => K + 1 - (intOf v + B).toNat)
  case atStart => exact ⟨0, [], Nat.zero_le _, by simp, rfl, h0, Kp2.refl _ _ _⟩
  case round =>
    obtain ⟨k, pre, hk, rfl, hpre, hJs, hb⟩ := hrel
    have hb0 : Blk wr Bs 24 #[.int .i64 C, .int .i64 R, .int .i64 B, .int .i64 F, sl] := hb.1.trans hBs
    obtain ⟨d0, d1, d2, d3, d4⟩ := hb0.five
    have di : wr.cell? ⟨Bi, 0, none⟩ = some (.int .i64 s) := (World.cell?_of_block (w := W) (a := ⟨Bi, 0, none⟩) hb.2.1).trans hBi
    have hz := hb.2.2
    have hKo := hK.out
    by_cases hlt : k < K
    · have hlt' : (k : Int) - B ≤ F := by omega
      have hm0 := Int.emod_nonneg (s + ((k : Int) - B)) (b := C) (by omega)
      have hm1 := Int.emod_lt_of_pos (s + ((k : Int) - B)) (b := C) (by omega)
      have hpl : pre.length < 120 := by
        have h1 := congrArg List.length hpre.out
        rw [List.length_map, rchL_len] at h1
        omega
      have hBlt : Bs < wr.heap.size := Nat.lt_of_lt_of_le hs hz
      have hn1 := Lib.hid (rchL_succ C B s k)
      clear hK hKo
      gi_wp2_with (refine ⟨trivial, ?_⟩; gi_at_call 70; refine (callsIn_wide.2 (further_any _ _ _ _ _ _ _ _ h1 h2 (by omega) (by omega) (by omega) (by omega))).mono ?_; rintro e w2 ⟨rfl, hb2⟩; have hb3 : Kp2 Bs Bi W w2 := hb.trans (Kp2.below hb2 hBlt (Nat.lt_of_lt_of_le hi hz)); obtain ⟨fn, tmps, assign, body, hy, hR⟩ := hY pre ⟨(s + ((k : Int) - B)) % C, hm0, hm1⟩ w2 (hJ pre wr w2 none hJs (grown_of_below hb2) (fun r e => by cases e)) hpl; dsimp only at hy)
      refine hR.mono ?_
      rintro e W3 (⟨rfl, hJ3, hk3⟩ | ⟨rfl, hJx3⟩)
      · gi_wp2
        go_roundw
        case rel =>
          refine ⟨k + 1, pre ++ [⟨(s + ((k : Int) - B)) % C, hm0, hm1⟩], by omega, by simp; omega, ?_, hJ3, hb3.trans hk3⟩
          unfold Hid
          rw [hn1.out, List.map_append, hpre.out]
          rfl
        case measure => simp [intOf]; omega
      · gi_wp2
        refine bodyPost_ret (results_none rfl _ _ _) rfl ?_
        exact ⟨⟨_, rfl⟩, .inr ⟨_, trivial, hJx3⟩⟩
    · obtain rfl : k = K := by omega
      have hlt' : ¬ ((k : Int) - B ≤ F) := by omega
      clear hKo hK
      gi_wp2
      go_end0
      exact ⟨⟨_, rfl⟩, .inl ⟨pre, hpre.out, hJs⟩⟩

theorem reached_stops (n : Nat) (hn : 1 ≤ n) (Bs Bi : Nat) (C R B F : Int) (sl : Value) (s : Int)
    (h1 : 1 ≤ C) (h2 : C ≤ 120) (h3 : 0 ≤ s) (h4 : s < C) (h7 : 0 ≤ B) (h8 : 0 ≤ F) (h9 : F < C - B) (w : World) (hs : Blk w Bs 24 #[.int .i64 C, .int .i64 R, .int .i64 B, .int .i64 F, sl]) (hi : w.cell? ⟨Bi, 0, none⟩ = some (.int .i64 s)) :
    SeqStopsK Fence.wide n Try.prog 108 #[.pointer (some ⟨Bs, 0, none⟩), .pointer (some ⟨Bi, 0, none⟩)] (fun x : Col C => #[Value.int .i64 x.1]) (Kp2 Bs Bi)
      (fun ys => ys.map Subtype.val = rchL C B s (B + F + 1).toNat) (fun _ => True) 120 w := fun l J Jx W hW hJ _ hY h0 =>
  have hil : Bi < w.heap.size := World.block_lt_of_cell? w ⟨Bi, 0, none⟩ hi
  reached1_in n hn l Bs Bi C R B F sl s J Jx h1 h2 h3 h4 h7 h8 h9 W (Nat.lt_of_lt_of_le hs.lt hW.size) (Nat.lt_of_lt_of_le hil hW.size) hJ hY (hs.below hW hs.lt) ((hW.cell (p := ⟨Bi, 0, none⟩) hil).trans hi) h0

set_option maxRecDepth 100000 in
set_option maxHeartbeats 400000 in
theorem reached64_any (C R B F : Int) (sl : Value) (s : Int) (w : World) :
    Calls Try.prog 64 #[.agg #[.int .i64 C, .int .i64 R, .int .i64 B, .int .i64 F, sl], .int .i64 s] w fun e w' => e = .returned (.func (.func 108) #[] #[.pointer (some ⟨w.heap.size, 0, none⟩), .pointer (some ⟨w.heap.size + 1, 0, none⟩)]) ∧ (w.alloc (.cells #[.int .i64 C, .int .i64 R, .int .i64 B, .int .i64 F, sl] 24)).alloc (.cells #[.int .i64 s] 3) = w' := by
  go_enter Try.func64, Try.ntmps64
  go_wp2_with fail
  go_ret
  exact ⟨rfl, rfl⟩

set_option maxRecDepth 100000 in
set_option maxHeartbeats 2000000 in
theorem appendSeq_any (Bs Bi : Nat) (C R B F : Int) (sl : Value) (s : Int) (w : World) (h1 : 1 ≤ C) (h2 : C ≤ 120) (h3 : 0 ≤ s) (h4 : s < C) (h7 : 0 ≤ B) (h8 : 0 ≤ F) (h9 : F < C - B) (hs : Blk w Bs 24 #[.int .i64 C, .int .i64 R, .int .i64 B, .int .i64 F, sl]) (hi : w.cell? ⟨Bi, 0, none⟩ = some (.int .i64 s)) :
    Calls Try.prog 107 #[.slice none 0 0, .func (.func 108) #[] #[.pointer (some ⟨Bs, 0, none⟩), .pointer (some ⟨Bi, 0, none⟩)]] w (RetOwn w (rchL C B s (B + F + 1).toNat)) := by
  refine (callsIn_wide (n := 9)).1 ?_
  refine callsIn_of_wp_marks Try.func107 rfl trivial ?_ rfl
  simp only [Try.ntmps107, List.size_toArray, List.length_cons, List.length_nil, Nat.reduceAdd, Nat.reduceSub, Array.replicate_succ, Array.replicate_zero, List.push_toArray, List.append_toArray, List.nil_append, List.cons_append]
  gi_wp2
  have hil : Bi < w.heap.size := World.block_lt_of_cell? w ⟨Bi, 0, none⟩ hi
  have hsl := hs.lt
  generalize hW0 : w.alloc (Obj.cells #[Value.slice none 0 0] 22) = W0
  have hsz : W0.heap.size = w.heap.size + 1 := by rw [← hW0]; simp only [World.size_alloc]
  have hB0 : Below w.heap.size w W0 := by rw [← hW0]; exact below_new _ _
  have b1 : Boxed W0 w.heap.size 22 (.slice none 0 0) := by rw [← hW0]; exact Blk.new _ _ _
  have b2 : Blk W0 Bs 24 #[.int .i64 C, .int .i64 R, .int .i64 B, .int .i64 F, sl] := hs.below hB0 hsl
  have b3 : W0.cell? ⟨Bi, 0, none⟩ = some (.int .i64 s) := (hB0.cell (p := ⟨Bi, 0, none⟩) hil).trans hi
  clear hW0
  refine wpIn_rangeFunc_ownG rfl (by omega) (gf := 108) (lb := #[.pointer (some ⟨Bs, 0, none⟩), .pointer (some ⟨Bi, 0, none⟩)]) rfl trivial (enters_of Try.func108 (by kernel_rfl) rfl)
    (reached_stops (9 - 1) (by omega) Bs Bi C R B F sl s h1 h2 h3 h4 h7 h8 h9 W0 b2 b3) (fun h k => Kp2.trans h k)
    (fun W l o o' hl _ _ _ => Kp2.put (B := W0.heap.size) o' (by omega) (by omega) hl) (Below.refl _ _) (fun _ => rfl)
    (fun pre W => (∃ v, Boxed W w.heap.size 22 v ∧ W.ownsRow W0.heap.size 3 1 v (pre.map Subtype.val).length ((pre.map Subtype.val).map (Value.int .i64)) ∧ True) ∧ (Below w.heap.size w W ∧ W0.heap.size ≤ W.heap.size))
    (fun _ _ _ => False)
    (OwnFrom.and (Own.from (holdsRow_own W0.heap.size w.heap.size 22 3 1 (fun pre : List (Col C) => (pre.map Subtype.val).length) (fun pre : List (Col C) => (pre.map Subtype.val).map (Value.int .i64)) (fun _ _ => True)) _) (OwnFrom.and (ownFrom_below (Nat.le_refl _) (by omega)) (fun _ _ _ _ hs hg _ => Nat.le_trans hs hg.size)))
    (fun _ _ _ _ _ hs _ _ => hs)
    ⟨⟨_, b1, World.ownsRow_nil _ _ _ _, trivial⟩, hB0, Nat.le_refl _⟩
    (fun x => { tmps := #[.slice none 0 0, .func (.func 108) #[] #[.pointer (some ⟨Bs, 0, none⟩), .pointer (some ⟨Bi, 0, none⟩)], .pointer (some ⟨w.heap.size, 0, none⟩), undef, .slice none 0 0, .int .i64 x.1,
      .func (.func 108) #[] #[.pointer (some ⟨Bs, 0, none⟩), .pointer (some ⟨Bi, 0, none⟩)], .int .i64 x.1, undef, undef, undef, undef, undef], defers := [] }) ?assign ?body ?done ?stop
  case assign =>
    intro l x W K hK
    gi_wp2
    exact hK
  case body =>
    rintro l pre x W ⟨⟨v, hv, hown, _⟩, hB, hWz⟩ hlen
    have hsn : Hid ((pre ++ [x]).map Subtype.val = pre.map Subtype.val ++ [x.1]) := by unfold Hid; simp
    have hpl : (pre.map Subtype.val).length ≤ 1000000 := by rw [List.length_map]; omega
    generalize pre.map Subtype.val = st at hown hsn hpl
    obtain ⟨A, c', rfl, hc1, hc2⟩ := own_form hown
    have hbx : Boxed W w.heap.size 22 (.slice A st.length c') := hv
    have hcx := hbx.cell
    gi_wp2_with (first
      | (refine wpInR_app1 _ _ (by rfl) W0.heap.size st x.1 _ (by rfl) hown (by rfl) hpl (by omega) ?_; intro v7 w7 hown7 hb7 hk7 hx7; obtain ⟨A7, c7, hv7, _, _⟩ := own_form hown7; obtain ⟨m7, hm7⟩ : ∃ m : Nat, (st ++ [x.1]).length = m := ⟨_, rfl⟩; rw [hm7] at hv7; clear hm7; subst hv7; have hbx7 := hx7 _ _ _ hbx (by decide); have hcx7 := hbx7.cell; have hfx7 := hbx7.frozen))
    have hfin := hbx7.set (.slice A7 m7 c7)
    have hown8 := hown7.kept (grownBy_setCell' w7 w.heap.size (.slice A7 m7 c7)) (.inr (hbx7.not_row (by decide) hown7).symm)
    refine ⟨(hk7.trans (KeepsOthers.setCell _ _ _)).from _, ?_, ⟨⟨_, hfin, by rw [hsn.out]; exact hown8, trivial⟩, ?_, ?_⟩⟩
    · exact (Kp2.below hb7 (by omega) (by omega)).trans ⟨Below.heap_setCell _ _ _ _ (by simp <;> omega), Below.heap_setCell _ _ _ _ (by simp <;> omega), by simp [World.setCell]⟩
    · exact (hB.trans (hb7.mono (by omega))).setCell (by simp <;> omega) _
    · have := hb7.size; simp [World.setCell]; omega
  case done =>
    rintro D ys W hD hys ⟨⟨v, hv, hown, _⟩, hB, hWz⟩ hK
    have hc := hv.cell
    rw [hys] at hown
    gi_wp2
    refine ⟨by simp, .inl ⟨_, _, rfl, run_takeDeferred hK, ?_⟩⟩
    refine ⟨_, results_tmp rfl _ _ _, ?_⟩
    obtain ⟨A7, c7, hv7, _, _⟩ := own_form hown
    subst hv7
    exact ⟨_, _, rfl, own_less (ownsRow_putObj hown _ hK rfl) (by omega), hB.trans (belowK_b (w := w) (Nat.le_refl _) W D _ _ (by omega) hK rfl rfl)⟩
  case stop =>
    rintro D c pre W _ _ h _
    exact h.elim

set_option maxRecDepth 100000 in
set_option maxHeartbeats 400000 in
theorem collect_any (Bs Bi : Nat) (C R B F : Int) (sl : Value) (s : Int) (w : World) (h1 : 1 ≤ C) (h2 : C ≤ 120) (h3 : 0 ≤ s) (h4 : s < C) (h7 : 0 ≤ B) (h8 : 0 ≤ F) (h9 : F < C - B) (hs : Blk w Bs 24 #[.int .i64 C, .int .i64 R, .int .i64 B, .int .i64 F, sl]) (hi : w.cell? ⟨Bi, 0, none⟩ = some (.int .i64 s)) :
    Calls Try.prog 63 #[.func (.func 108) #[] #[.pointer (some ⟨Bs, 0, none⟩), .pointer (some ⟨Bi, 0, none⟩)]] w (RetOwn w (rchL C B s (B + F + 1).toNat)) := by
  go_enter Try.func63, Try.ntmps63
  go_wp2_with (first
    | (go_at_call 107; refine (appendSeq_any Bs Bi C R B F sl s _ h1 h2 h3 h4 h7 h8 h9 hs hi).mono ?_; rintro e w1 ⟨A, c, rfl, hown, hb1⟩))
  go_ret
  exact ⟨A, c, rfl, hown, hb1⟩

set_option maxRecDepth 100000 in
set_option maxHeartbeats 1000000 in
/-- Reaches: whatever the house and the stand -/
theorem reaches20_any (C R B F : Int) (A : Option Addr) (cap : Nat) (cl : List Int) (s : Int) (w : World) (hB : B ≤ 9223372036854775807) (hcl : cl.length ≤ 9223372036854775807) (hr : Ints w w.heap.size A cl) :
    Calls Try.prog 20 #[.agg #[.int .i64 C, .int .i64 R, .int .i64 B, .int .i64 F, .slice A cl.length cap], .int .i64 s] w (RetInts2 w (if colErr C R B F cl s = 0 then rchL C B s (B + F + 1).toNat else []) (colErr C R B F cl s)) := by
  have hb0 := below_new w (.cells #[.int .i64 C, .int .i64 R, .int .i64 B, .int .i64 F, .slice A cl.length cap] 24)
  have hr1 := hr.behind hb0
  have hbk := Blk.new w 24 #[.int .i64 C, .int .i64 R, .int .i64 B, .int .i64 F, .slice A cl.length cap]
  by_cases he : colErr C R B F cl s = 0
  · obtain ⟨hok, hc⟩ : Ok C R B F cl ∧ 0 ≤ s ∧ s < C := by
      by_cases hok : Ok C R B F cl
      · refine ⟨hok, ?_⟩
        rw [colErr_ok s hok] at he
        split at he
        · assumption
        · cases he
      · rw [colErr_bad s hok] at he
        exact absurd (chk_ok.1 he) hok
    have k1 := hok.c3
    have k2 := hok.c120
    have k3 := hok.b0
    have k4 := hok.f0
    have k5 := hok.bf
    rw [if_pos he, he]
    have HE := Lib.hid he
    clear he hok
    go_enter Try.func20, Try.ntmps20
    go_wp2_with (first
      | (go_at_call 62; refine (checkColumn_any C R B F A cap cl s _ hB hcl hr1).mono ?_; rw [HE.out]; rintro e w1 ⟨rfl, hb1⟩; obtain ⟨d0, d1, d2, d3, d4⟩ := (hbk.below hb1 (by simp)).five)
      | (go_at_call 64; refine (reached64_any C R B F _ s _).mono ?_; rintro e w2 ⟨rfl, hw2⟩; have hbs : Blk w2 w1.heap.size 24 #[.int .i64 C, .int .i64 R, .int .i64 B, .int .i64 F, .slice A cl.length cap] := (by rw [← hw2]; exact (Blk.new _ _ _).alloc _); have hbi : w2.cell? ⟨w1.heap.size + 1, 0, none⟩ = some (.int .i64 s) := (by rw [← hw2]; exact (Blk.newAt (by simp) : Blk ((w1.alloc (.cells #[.int .i64 C, .int .i64 R, .int .i64 B, .int .i64 F, .slice A cl.length cap] 24)).alloc (.cells #[.int .i64 s] 3)) (w1.heap.size + 1) 3 #[.int .i64 s]).cell 0); have hb2 : Below w1.heap.size w1 w2 := (by rw [← hw2]; exact (below_new _ _).alloc (by simp) _); clear hw2)
      | (go_at_call 63; refine (collect_any _ _ C R B F _ s _ (by omega) k2 hc.1 hc.2 k3 k4 k5 hbs hbi).mono ?_; rintro e w3 ⟨S, sap, rfl, hown, hb3⟩))
    go_ret2
    obtain ⟨s1, s2, s3⟩ := own_facts hown
    have hz1 := hb1.size
    have hz2 := hb2.size
    simp at hz1
    exact ⟨S, sap, rfl, s1, s2, s3, below_next (below_next (below_next hb0 (by simp) hb1) (by omega) hb2) (by omega) hb3⟩
  · have n1 : (colErr C R B F cl s == 0) = false := by simpa using he
    have n2 : (colErr C R B F cl s != 0) = true := by simpa using he
    rw [if_neg he]
    clear he
    go_enter Try.func20, Try.ntmps20
    go_wp2_with (first
      | (go_at_call 62; refine (checkColumn_any C R B F A cap cl s _ hB hcl hr1).mono ?_; rintro e w1 ⟨rfl, hb1⟩))
    go_ret2
    exact RetInts2.err (below_next hb0 (by simp) hb1)

end Go.Proofs.Ytnjmkdgglpcfpaa
