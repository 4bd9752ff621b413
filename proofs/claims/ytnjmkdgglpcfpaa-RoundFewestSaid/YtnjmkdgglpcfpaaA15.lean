import Derived.Test.YtnjmkdgglpcfpaaA12
import Derived.WalkMore
namespace Go.Proofs.Ytnjmkdgglpcfpaa
open Go.RowKit Go.Shelf

attribute [local go_sem] Oper.semAt_some

/-- 'l = append(l, y)' in a round -/
theorem wpInR_app1 {l' n : Nat} {o : Oper} {a : Act} {K : Act → World → Prop} {Q : Exit → Act → World → Prop} {w : World} (s x : Operand)
    (ho : o.op = .call { callee := .builtin .append, args := #[s, x], argTypes := #[22, 22] }) (base : Nat) (l : List Int) (y : Int) (v : Value)
    (hs : a.eval s = v) (hown : w.ownsRow base 3 1 v l.length (l.map (Value.int .i64))) (hx : a.eval x = .slice (some ⟨w.heap.size, 0, none⟩) 1 1) (hl : l.length ≤ 1000000) (hbase : base ≤ w.heap.size)
    (h : ∀ v' w', w'.ownsRow base 3 1 v' (l ++ [y]).length ((l ++ [y]).map (Value.int .i64)) → Below base w w' → KeepsOthers w w' → (∀ g t u, Boxed w g t u → t ≠ 3 → Boxed w' g t u) → K (a.put o.dst v') w') :
    o.wpIn (Fence.wide.inRound l') n Try.prog a (w.alloc (.cells #[.int .i64 y] 3)) K Q :=
  opIn_of_wp (by rw [ho]; intro c hc; cases hc) (wp_app1 s x ho base l y v hs hown hx hl hbase h)

/-- a column more of a cut, unless there are enough, or an open stand reaches it and one that is taken -/
def cutF (C B F : Int) (p : Nat → Bool) (size : Int) (st : List Int) (c : Int) : List Int :=
  if (st.length : Int) = size then st else if st.any (fun t => tog C B F p c t) then st else st ++ [c]
def cutL (C B F : Int) (p q : Nat → Bool) (s size : Int) : List Int := (bhTo C F q s (bhK C B F)).foldl (cutF C B F p size) []

theorem cutF_full {C B F : Int} {p : Nat → Bool} {size : Int} {st : List Int} {c : Int} (h : (st.length : Int) = size) : cutF C B F p size st c = st := if_pos h
theorem cutF_yes {C B F : Int} {p : Nat → Bool} {size : Int} {st : List Int} {c : Int} (h : (st.length : Int) ≠ size) (h' : (st.any fun t => tog C B F p c t) = true) : cutF C B F p size st c = st := by
  unfold cutF
  rw [if_neg h, if_pos h']
theorem cutF_no {C B F : Int} {p : Nat → Bool} {size : Int} {st : List Int} {c : Int} (h : (st.length : Int) ≠ size) (h' : (st.any fun t => tog C B F p c t) = false) : cutF C B F p size st c = st ++ [c] := by
  unfold cutF
  rw [if_neg h, h']
  rfl
theorem cut_stays {C B F : Int} {p : Nat → Bool} {size : Int} : ∀ (l : List Int) (st : List Int), (st.length : Int) = size → l.foldl (cutF C B F p size) st = st
  | [], _, _ => rfl
  | c :: l, st, h => by rw [List.foldl_cons, cutF_full h]; exact cut_stays l st h
/-- what is taken into a cut of a part of the columns -/
def cutS (C B F : Int) (p : Nat → Bool) (size : Int) (pre : List (Col C)) : List Int := (pre.map Subtype.val).foldl (cutF C B F p size) []
theorem cutS_snoc (C B F : Int) (p : Nat → Bool) (size : Int) (pre : List (Col C)) (x : Col C) : cutS C B F p size (pre ++ [x]) = cutF C B F p size (cutS C B F p size pre) x.1 := by simp [cutS]
theorem cut_fold {C B F : Int} {p : Nat → Bool} {size : Int} : ∀ (l : List Int) (st : List Int), (∀ x ∈ st, 0 ≤ x ∧ x < C) → (∀ x ∈ l, 0 ≤ x ∧ x < C) → (l.foldl (cutF C B F p size) st).length ≤ st.length + l.length ∧ ∀ x ∈ l.foldl (cutF C B F p size) st, 0 ≤ x ∧ x < C
  | [], st, hst, _ => ⟨by simp, hst⟩
  | c :: l, st, hst, hl => by
    have hc : (cutF C B F p size st c).length ≤ st.length + 1 ∧ ∀ x ∈ cutF C B F p size st c, 0 ≤ x ∧ x < C := by
      unfold cutF
      split
      · exact ⟨by omega, hst⟩
      · split
        · exact ⟨by omega, hst⟩
        · refine ⟨by simp, fun y hy => ?_⟩
          rcases List.mem_append.1 hy with hy | hy
          · exact hst y hy
          · obtain rfl : y = c := by simpa using hy
            exact hl _ (by simp)
    obtain ⟨h3, h4⟩ := cut_fold l _ hc.2 (fun x hx => hl x (by simp [hx]))
    exact ⟨by simp only [List.foldl_cons, List.length_cons]; omega, h4⟩
theorem cutS_good {C B F : Int} {p : Nat → Bool} {size : Int} (pre : List (Col C)) : (cutS C B F p size pre).length ≤ pre.length ∧ ∀ x ∈ cutS C B F p size pre, 0 ≤ x ∧ x < C := by
  have := cut_fold (B := B) (F := F) (p := p) (size := size) (pre.map Subtype.val) [] (by simp) (fun x hx => by
    obtain ⟨y, _, rfl⟩ := List.mem_map.1 hx
    exact y.2)
  simpa [cutS] using this

set_option maxRecDepth 100000 in
set_option maxHeartbeats 2000000 in
theorem cut_own (C R B F : Int) (sl : Value) (p q : Nat → Bool) (s size : Int) (w : World) (h1 : 1 ≤ C) (h2 : C ≤ 120) (h3 : 0 ≤ s) (h4 : s < C) (h7 : 0 ≤ B) (h8 : 0 ≤ F) (h9 : F < C - B) :
    Calls Try.prog 89 #[.agg (sv C R B F sl p q), .int .i64 s, .int .i64 size] w fun e w' => ∃ A c, e = .returned (.agg #[.int .i64 s, .slice A (cutL C B F p q s size).length c]) ∧ w'.ownsRow w.heap.size 3 1 (.slice A (cutL C B F p q s size).length c) (cutL C B F p q s size).length ((cutL C B F p q s size).map (Value.int .i64)) ∧ Below w.heap.size w w' := by
  refine (callsIn_wide (n := 9)).1 ?_
  refine callsIn_of_wp_marks Try.func89 rfl trivial ?_ rfl
  simp only [Try.ntmps89, List.size_toArray, List.length_cons, List.length_nil, Nat.reduceAdd, Nat.reduceSub, Array.replicate_succ, Array.replicate_zero, List.push_toArray, List.append_toArray, List.nil_append, List.cons_append]
  have hb0 := Blk.new w 106 (sv C R B F sl p q)
  refine wpIn_wide.2 ?_
  go_wp2_with fail
  go_step3
  go_wp2_with fail
  go_step3
  go_wp2_with (first
    | (refine wpList_load_row (by rfl) 106 _ (by rfl) _ (by rfl) 106 _ (0, 0) _ (((hb0.alloc _).alloc _).alloc _) Try.underlying106 rfl (info106 _ _ _ _ _ _ _) ?_)
    | (go_at_call 113; refine (behind_any _ _ _).mono ?_; rintro e w1 ⟨rfl, rfl⟩))
  generalize hW0 : ((((((w.alloc (Obj.cells (sv C R B F sl p q) 106)).alloc (Obj.cells #[Value.int IntKind.i64 size] 3)).alloc (Obj.cells #[Value.int IntKind.i64 0, Value.slice none 0 0] 104)).alloc (Obj.cells #[Value.slice none 0 0] 22)).alloc (Obj.cells (sv C R B F sl p q) 106)).alloc (Obj.cells #[Value.int IntKind.i64 s] 3)) = W0
  have hsz : W0.heap.size = w.heap.size + 1 + 1 + 1 + 1 + 1 + 1 := by rw [← hW0]; simp only [World.size_alloc]
  have hB0 : Below w.heap.size w W0 := by rw [← hW0]; exact (((((below_new _ _).alloc (by simp) _).alloc (by simp; omega) _).alloc (by simp; omega) _).alloc (by simp; omega) _).alloc (by simp; omega) _
  have b0 : Blk W0 w.heap.size 106 (sv C R B F sl p q) := by rw [← hW0]; exact (((((Blk.new _ _ _).alloc _).alloc _).alloc _).alloc _).alloc _
  have b1 : Blk W0 (w.heap.size + 1) 3 #[.int .i64 size] := by rw [← hW0]; exact ((((Blk.newAt (by simp only [World.size_alloc])).alloc _).alloc _).alloc _).alloc _
  have b2 : Blk W0 (w.heap.size + 1 + 1) 104 #[.int .i64 0, .slice none 0 0] := by rw [← hW0]; exact (((Blk.newAt (by simp only [World.size_alloc])).alloc _).alloc _).alloc _
  have b3 : Boxed W0 (w.heap.size + 1 + 1 + 1) 22 (.slice none 0 0) := by rw [← hW0]; exact ((Blk.newAt (by simp only [World.size_alloc])).alloc _).alloc _
  have b4 : Blk W0 (w.heap.size + 1 + 1 + 1 + 1) 106 (sv C R B F sl p q) := by rw [← hW0]; exact (Blk.newAt (by simp only [World.size_alloc])).alloc _
  have b5 : Blk W0 (w.heap.size + 1 + 1 + 1 + 1 + 1) 3 #[.int .i64 s] := by rw [← hW0]; exact Blk.newAt (by simp only [World.size_alloc])
  clear hW0 hb0
  refine (wpIn_wide (n := 9)).1 ?_
  refine wpIn_rangeFunc_ownG rfl (by omega) (gf := 130) (lb := #[.pointer (some ⟨w.heap.size + 1 + 1 + 1 + 1, 0, none⟩), .pointer (some ⟨w.heap.size + 1 + 1 + 1 + 1 + 1, 0, none⟩)]) rfl trivial (enters_of Try.func130 (by kernel_rfl) rfl)
    (behind_stops (9 - 1) (by omega) (w.heap.size + 1 + 1 + 1 + 1) (w.heap.size + 1 + 1 + 1 + 1 + 1) C R B F sl p q s h1 h2 h3 h4 h7 h8 h9 W0 b4 (b5.cell 0)) (fun h k => Kp2.trans h k)
    (fun W l o o' hl _ _ _ => Kp2.put (B := W0.heap.size) o' (by omega) (by omega) hl) (Below.refl _ _) (fun _ => rfl)
    (fun pre W => (∃ v, Boxed W (w.heap.size + 1 + 1 + 1) 22 v ∧ W.ownsRow W0.heap.size 3 1 v (cutS C B F p size pre).length ((cutS C B F p size pre).map (Value.int .i64)) ∧ True) ∧ (Blk W w.heap.size 106 (sv C R B F sl p q) ∧ Blk W (w.heap.size + 1) 3 #[.int .i64 size] ∧ Blk W (w.heap.size + 1 + 1) 104 #[.int .i64 0, .slice none 0 0] ∧ Below w.heap.size w W ∧ W0.heap.size ≤ W.heap.size))
    (fun c pre W => ((c = .exit 0 ∧ ((cutS C B F p size pre).length : Int) = size) ∧ (∃ v, Boxed W (w.heap.size + 1 + 1 + 1) 22 v ∧ W.ownsRow W0.heap.size 3 1 v (cutS C B F p size pre).length ((cutS C B F p size pre).map (Value.int .i64)) ∧ True) ∧ (Blk W w.heap.size 106 (sv C R B F sl p q) ∧ Blk W (w.heap.size + 1) 3 #[.int .i64 size] ∧ Blk W (w.heap.size + 1 + 1) 104 #[.int .i64 0, .slice none 0 0] ∧ Below w.heap.size w W ∧ W0.heap.size ≤ W.heap.size)))
    ?hI ?hIx
    ⟨⟨_, b3, World.ownsRow_nil _ _ _ _, trivial⟩, b0, b1, b2, hB0, Nat.le_refl _⟩
    (fun x => { tmps := #[.agg (sv C R B F sl p q), .int .i64 s, .int .i64 size, .pointer (some ⟨w.heap.size, 0, none⟩), undef, .pointer (some ⟨w.heap.size + 1, 0, none⟩), .pointer (some ⟨w.heap.size + 1 + 1, 0, none⟩), .pointer (some ⟨w.heap.size + 1 + 1 + 1, 0, none⟩), .int .i64 x.1, undef, undef, .agg (sv C R B F sl p q), .int .i64 s,
      .func (.func 130) #[] #[.pointer (some ⟨w.heap.size + 1 + 1 + 1 + 1, 0, none⟩), .pointer (some ⟨w.heap.size + 1 + 1 + 1 + 1 + 1, 0, none⟩)], .int .i64 x.1, undef, undef, undef, undef, undef, undef, undef, undef, undef, undef, undef, undef, undef, undef, undef, undef, undef, undef, undef, undef, undef, undef], defers := [] }) ?assign ?body ?done ?stop
  case hI =>
    exact OwnFrom.and (Own.from (holdsRow_own W0.heap.size (w.heap.size + 1 + 1 + 1) 22 3 1 (fun pre => (cutS C B F p size pre).length) (fun pre => (cutS C B F p size pre).map (Value.int .i64)) (fun _ _ => True)) _)
      (OwnFrom.and (Own.from (blk_own _ _ _) _) (OwnFrom.and (Own.from (blk_own _ _ _) _) (OwnFrom.and (Own.from (blk_own _ _ _) _) (OwnFrom.and (ownFrom_below (Nat.le_refl _) (by omega)) (fun _ _ _ _ hs hg _ => Nat.le_trans hs hg.size)))))
  case hIx =>
    intro c
    exact OwnFrom.and (fun _ _ _ _ hs _ _ => hs) (OwnFrom.and (Own.from (holdsRow_own W0.heap.size (w.heap.size + 1 + 1 + 1) 22 3 1 (fun pre => (cutS C B F p size pre).length) (fun pre => (cutS C B F p size pre).map (Value.int .i64)) (fun _ _ => True)) _)
      (OwnFrom.and (Own.from (blk_own _ _ _) _) (OwnFrom.and (Own.from (blk_own _ _ _) _) (OwnFrom.and (Own.from (blk_own _ _ _) _) (OwnFrom.and (ownFrom_below (Nat.le_refl _) (by omega)) (fun _ _ _ _ hs hg _ => Nat.le_trans hs hg.size))))))
  case assign =>
    intro l x W K hK
    gi_wp2
    exact hK
  case body =>
    rintro l pre x W ⟨⟨v, hv, hown, _⟩, hb0, hb1, hb2, hB, hWz⟩ hlen
    have hg := cutS_good (C := C) (B := B) (F := F) (p := p) (size := size) pre
    have hsn := Lib.hid (cutS_snoc C B F p size pre x)
    generalize cutS C B F p size pre = st at hown hg hsn
    obtain ⟨A, c', rfl, hc1, hc2⟩ := own_form hown
    dsimp only
    have hvc := hv.cell
    have hvf := hv.frozen
    have hsc := hb1.cell 0
    have hln : (st.length : Int) ≤ 120 := by omega
    by_cases hfull : (st.length : Int) = size
    · have hq : ((st.length : Int) == size) = true := by simpa using hfull
      have HF := Lib.hid hfull
      clear hfull
      gi_wp2
      exact ⟨KeepsFrom.refl _ _, ⟨⟨rfl, by rw [hsn.out, cutF_full HF.out]; exact HF.out⟩, ⟨_, hv, by rw [hsn.out, cutF_full HF.out]; exact hown, trivial⟩, hb0, hb1, hb2, hB, hWz⟩⟩
    · have hq : ((st.length : Int) == size) = false := by simpa using hfull
      have HF := Lib.hid hfull
      have hint := Ints.of_own hown
      clear hfull
      gi_wp2
      gi_loopw [10, 21] (fun _ i wr => ∃ k : Nat, k ≤ st.length ∧ i = .int .i64 k ∧ Hid ((st.take k).any (fun t => tog C B F p x.1 t) = false) ∧ Below W.heap.size W wr)
        (fun _ i _ => st.length - (intOf i).toNat)
      case atStart => exact ⟨0, Nat.zero_le _, rfl, rfl, Below.refl _ _⟩
      case round =>
        obtain ⟨k, hk, rfl, hno, hbw⟩ := hrel
        have hbr : Blk wr w.heap.size 106 (sv C R B F sl p q) := (hbw.block _ hb0.lt).trans hb0
        have hz := hbw.size
        by_cases hlt : k < st.length
        · obtain ⟨ad, rfl, hadb, hce⟩ := (hint.below hbw).get hlt
          have hm := hg.2 _ (List.getElem_mem hlt)
          cases hr : tog C B F p x.1 st[k] with
          | true =>
            have hst := Lib.hid (cutF_yes (C := C) (B := B) (F := F) (p := p) HF.out (List.any_eq_true.2 ⟨st[k], List.getElem_mem hlt, hr⟩))
            have HR := Lib.hid hr
            clear hr hno HF
            gi_wp2_with (first
              | (refine wpIn_load_row 106 _ (by rfl) _ (by rfl) 106 _ (0, 0) _ hbr Try.underlying106 rfl (info106 _ _ _ _ _ _ _) ?_)
              | (refine ⟨trivial, ?_⟩; gi_at_call 114; refine (CallsIn.inRound l (callsIn_wide.2 (together_any C R B F sl p q x.1 st[k] _ h1 h2 x.2.1 x.2.2 hm.1 hm.2 h7 h8 h9))).mono ?_; rw [HR.out]; rintro e w3 ⟨rfl, hb3⟩))
            have hbw3 : Below W.heap.size W w3 := below_next hbw hz hb3
            exact ⟨(keeps_of_below hbw3).from _, Kp2.below (hbw3.mono hWz) (by omega) (by omega), ⟨⟨_, (hbw3.block _ hv.lt).trans hv, by rw [hsn.out, hst.out]; exact own_below hown hbw3, trivial⟩, (hbw3.block _ hb0.lt).trans hb0, (hbw3.block _ hb1.lt).trans hb1, (hbw3.block _ hb2.lt).trans hb2, hB.trans (hbw3.mono (by omega)), Nat.le_trans hWz hbw3.size⟩⟩
          | false =>
            have hn : Hid ((st.take (k + 1)).any (fun t => tog C B F p x.1 t) = false) := by
              unfold Hid
              rw [List.take_succ_eq_append_getElem hlt, List.any_append, hno.out]
              simp [hr]
            have HR := Lib.hid hr
            clear hr hno
            gi_wp2_with (first
              | (refine wpIn_load_row 106 _ (by rfl) _ (by rfl) 106 _ (0, 0) _ hbr Try.underlying106 rfl (info106 _ _ _ _ _ _ _) ?_)
              | (refine ⟨trivial, ?_⟩; gi_at_call 114; refine (CallsIn.inRound l (callsIn_wide.2 (together_any C R B F sl p q x.1 st[k] _ h1 h2 x.2.1 x.2.2 hm.1 hm.2 h7 h8 h9))).mono ?_; rw [HR.out]; rintro e w3 ⟨rfl, hb3⟩))
            go_roundw
            case rel => exact ⟨k + 1, by omega, by go_num, hn, below_next hbw hz hb3⟩
            case measure => simp [intOf]; try omega
        · have hst := Lib.hid (cutF_no (C := C) (B := B) (F := F) (p := p) HF.out (by have := hno.out; rwa [List.take_of_length_le (by omega)] at this))
          have hbx : Boxed wr (w.heap.size + 1 + 1 + 1) 22 (.slice A st.length c') := (hbw.block _ hv.lt).trans hv
          have hownr := own_below hown hbw
          have hcx := hbx.cell
          clear hno HF
          gi_wp2_with (first
            | (refine wpInR_app1 _ _ (by rfl) W0.heap.size st x.1 _ (by rfl) hownr (by rfl) (by omega) (by omega) ?_; intro v7 w7 hown7 hb7 hk7 hx7; obtain ⟨A7, c7, hv7, _, _⟩ := own_form hown7; obtain ⟨m7, hm7⟩ : ∃ m : Nat, (st ++ [x.1]).length = m := ⟨_, rfl⟩; rw [hm7] at hv7; clear hm7; subst hv7; have hbx7 := hx7 _ _ _ hbx (by decide); have hcx7 := hbx7.cell; have hfx7 := hbx7.frozen))
          have hfin := hbx7.set (.slice A7 m7 c7)
          have hbw7 : Below W0.heap.size W w7 := (hbw.mono hWz).trans hb7
          have hown8 := hown7.kept (grownBy_setCell' w7 (w.heap.size + 1 + 1 + 1) (.slice A7 m7 c7)) (.inr (hbx7.not_row (by decide) hown7).symm)
          refine ⟨(((keeps_of_below hbw).trans hk7).trans (KeepsOthers.setCell _ _ _)).from _, ?_, ⟨⟨_, hfin, by rw [hsn.out, hst.out]; exact hown8, trivial⟩, ?_, ?_, ?_, ?_, ?_⟩⟩
          · exact (Kp2.below hbw7 (by omega) (by omega)).trans ⟨Below.heap_setCell _ _ _ _ (by simp <;> omega), Below.heap_setCell _ _ _ _ (by simp <;> omega), by simp [World.setCell]⟩
          · exact Blk.far ((hbw7.block _ (by omega)).trans hb0) (show _ ≠ _ by simp <;> omega) _
          · exact Blk.far ((hbw7.block _ (by omega)).trans hb1) (show _ ≠ _ by simp <;> omega) _
          · exact Blk.far ((hbw7.block _ (by omega)).trans hb2) (show _ ≠ _ by simp <;> omega) _
          · exact (hB.trans (hbw7.mono (by omega))).setCell (by simp <;> omega) _
          · have := hbw7.size; simp [World.setCell]; omega
  case done =>
    rintro D ys W hD hys ⟨⟨v, hv, hown, _⟩, hb0, hb1, hb2, hB, hWz⟩ hK
    have hres : cutS C B F p size ys = cutL C B F p q s size := by unfold cutS cutL; rw [hys]
    rw [hres] at hown
    have hc := hv.cell
    have e0 := hb2.cell 0
    have e1 := hb2.cell 1
    have e2 := hb2.frozen 0
    have e3 := hb2.frozen 1
    obtain ⟨A, c', rfl, hc1, hc2⟩ := own_form hown
    go_wp2_with fail
    rw [Exit.noGoto_ret]

    have k1 := (hb2.store 0 (.int .i64 s)).store 1 (.slice A (cutL C B F p q s size).length c')
    have k2 := ownsRow_setCell_below (ownsRow_setCell_below hown (a := ⟨w.heap.size + 1 + 1, 0, none⟩) (show w.heap.size + 1 + 1 < W0.heap.size by omega) (.int .i64 s)) (a := ⟨w.heap.size + 1 + 1, 1, none⟩) (show w.heap.size + 1 + 1 < W0.heap.size by omega) (.slice A (cutL C B F p q s size).length c')
    have k3 : ((W.setCell ⟨w.heap.size + 1 + 1, 0, none⟩ (.int .i64 s)).setCell ⟨w.heap.size + 1 + 1, 1, none⟩ (.slice A (cutL C B F p q s size).length c')).heap[D]? = some (.deferred (some [])) :=
      (Below.heap_setCell _ _ _ _ (by show D ≠ _; simp only []; omega)).trans ((Below.heap_setCell _ _ _ _ (by show D ≠ _; simp only []; omega)).trans hK)
    have k4 := (hB.setCell (p := ⟨w.heap.size + 1 + 1, 0, none⟩) (by show _ ≤ _; simp only []; omega) (.int .i64 s)).setCell (p := ⟨w.heap.size + 1 + 1, 1, none⟩) (by show _ ≤ _; simp only []; omega) (.slice A (cutL C B F p q s size).length c')
    generalize ((W.setCell ⟨w.heap.size + 1 + 1, 0, none⟩ (.int .i64 s)).setCell ⟨w.heap.size + 1 + 1, 1, none⟩ (.slice A (cutL C B F p q s size).length c')) = W9 at k1 k2 k3 k4 ⊢
    refine ⟨by simp, .inl ⟨_, _, rfl, run_takeDeferred k3, ?_⟩⟩
    refine ⟨_, results_cell_row (g := w.heap.size + 1 + 1) rfl _ _ 104 _ (0, 0) _ rfl ((World.putObj_heap_other (by omega)).trans k1) Try.underlying104 rfl (by kernel_rfl), ?_⟩
    refine ⟨A, c', rfl, own_less (ownsRow_putObj k2 _ k3 rfl) (by omega), k4.trans (belowK_b (w := w) (Nat.le_refl _) W9 D _ _ (by omega) k3 rfl rfl)⟩
  case stop =>
    rintro D c pre W hD hpre ⟨⟨rfl, hfull⟩, ⟨v, hv, hown, _⟩, hb0, hb1, hb2, hB, hWz⟩ hK
    have hres : cutS C B F p size pre = cutL C B F p q s size := by
      obtain ⟨r, hr⟩ := hpre
      unfold cutL
      rw [← hr, List.foldl_append]
      exact (cut_stays _ _ hfull).symm
    rw [hres] at hown
    clear hres hfull
    have hc := hv.cell
    have e0 := hb2.cell 0
    have e1 := hb2.cell 1
    have e2 := hb2.frozen 0
    have e3 := hb2.frozen 1
    obtain ⟨A, c', rfl, hc1, hc2⟩ := own_form hown
    refine (wpIn_wide (n := 9)).2 ?_
    go_wp2_with fail
    rw [Exit.noGoto_ret]

    have k1 := (hb2.store 0 (.int .i64 s)).store 1 (.slice A (cutL C B F p q s size).length c')
    have k2 := ownsRow_setCell_below (ownsRow_setCell_below hown (a := ⟨w.heap.size + 1 + 1, 0, none⟩) (show w.heap.size + 1 + 1 < W0.heap.size by omega) (.int .i64 s)) (a := ⟨w.heap.size + 1 + 1, 1, none⟩) (show w.heap.size + 1 + 1 < W0.heap.size by omega) (.slice A (cutL C B F p q s size).length c')
    have k3 : ((W.setCell ⟨w.heap.size + 1 + 1, 0, none⟩ (.int .i64 s)).setCell ⟨w.heap.size + 1 + 1, 1, none⟩ (.slice A (cutL C B F p q s size).length c')).heap[D]? = some (.deferred (some [])) :=
      (Below.heap_setCell _ _ _ _ (by show D ≠ _; simp only []; omega)).trans ((Below.heap_setCell _ _ _ _ (by show D ≠ _; simp only []; omega)).trans hK)
    have k4 := (hB.setCell (p := ⟨w.heap.size + 1 + 1, 0, none⟩) (by show _ ≤ _; simp only []; omega) (.int .i64 s)).setCell (p := ⟨w.heap.size + 1 + 1, 1, none⟩) (by show _ ≤ _; simp only []; omega) (.slice A (cutL C B F p q s size).length c')
    generalize ((W.setCell ⟨w.heap.size + 1 + 1, 0, none⟩ (.int .i64 s)).setCell ⟨w.heap.size + 1 + 1, 1, none⟩ (.slice A (cutL C B F p q s size).length c')) = W9 at k1 k2 k3 k4 ⊢
    refine ⟨by simp, .inl ⟨_, _, rfl, run_takeDeferred k3, ?_⟩⟩
    refine ⟨_, results_cell_row (g := w.heap.size + 1 + 1) rfl _ _ 104 _ (0, 0) _ rfl ((World.putObj_heap_other (by omega)).trans k1) Try.underlying104 rfl (by kernel_rfl), ?_⟩
    refine ⟨A, c', rfl, own_less (ownsRow_putObj k2 _ k3 rfl) (by omega), k4.trans (belowK_b (w := w) (Nat.le_refl _) W9 D _ _ (by omega) k3 rfl rfl)⟩

theorem cut_any (C R B F : Int) (sl : Value) (p q : Nat → Bool) (s size : Int) (w : World) (h1 : 1 ≤ C) (h2 : C ≤ 120) (h3 : 0 ≤ s) (h4 : s < C) (h7 : 0 ≤ B) (h8 : 0 ≤ F) (h9 : F < C - B) :
    Calls Try.prog 89 #[.agg (sv C R B F sl p q), .int .i64 s, .int .i64 size] w fun e w' => ∃ A c, e = .returned (.agg #[.int .i64 s, .slice A (cutL C B F p q s size).length c]) ∧ (cutL C B F p q s size).length ≤ c ∧ c ≤ maxLen ∧ Ints w' w'.heap.size A (cutL C B F p q s size) ∧ Below w.heap.size w w' :=
  (cut_own C R B F sl p q s size w h1 h2 h3 h4 h7 h8 h9).mono fun _ _ h => by
    obtain ⟨A, c, e, ho, hb⟩ := h
    obtain ⟨A', c', hv, h1, h2⟩ := own_form ho
    cases hv
    exact ⟨A, c, e, h1, h2, Ints.of_own ho, hb⟩

end Go.Proofs.Ytnjmkdgglpcfpaa

namespace Go.Proofs.Ytnjmkdgglpcfpaa
open Go.RowKit

/-- the first one of the cheapest, behind a best one that costs low -/
def leastGo (cost : Int → Int) : Int → Int → List Int → Int
  | best, _, [] => best
  | best, low, t :: l => if cost t < low then leastGo cost t (cost t) l else leastGo cost best low l
/-- the first one of those that cost least -/
def leastOf (cost : Int → Int) : List Int → Int
  | [] => 0
  | x :: l => leastGo cost x (cost x) l
/-- how many stands more a round takes that begins with a stand -/
def costOf (C B F : Int) (p q : Nat → Bool) (s : Int) : Int := (afters C B F p q s).length

set_option maxRecDepth 100000 in
set_option maxHeartbeats 400000 in
theorem cost_any (C R B F : Int) (sl : Value) (p q : Nat → Bool) (c : Int) (g : Nat) (w : World) (h1 : 1 ≤ C) (h2 : C ≤ 120) (h3 : 0 ≤ c) (h4 : c < C) (h7 : 0 ≤ B) (h8 : 0 ≤ F) (h9 : F < C - B) (hb : Blk w g 106 (sv C R B F sl p q)) :
    Calls Try.prog 117 #[.int .i64 c, .pointer (some ⟨g, 0, none⟩)] w fun e w' => e = .returned (.int .i64 (costOf C B F p q c)) ∧ Below w.heap.size w w' := by
  have hL : Hid (((afters C B F p q c).length : Int) = costOf C B F p q c) := rfl
  go_enter Try.func117, Try.ntmps117
  go_wp2_with (first
    | (refine wpList_load_row (by rfl) 106 _ (by rfl) _ (by rfl) 106 _ (0, 0) _ hb Try.underlying106 rfl (info106 _ _ _ _ _ _ _) ?_)
    | (go_at_call 97; refine (after_any C R B F sl p q c _ h1 h2 h3 h4 h7 h8 h9).mono ?_; rintro e w1 ⟨A, c', rfl, e1, e2, e3, hb1⟩))
  go_ret
  exact ⟨ret_int hL.out, hb1⟩

theorem Ints.tail {w : World} {B : Nat} {ad : Addr} {x : Int} {l : List Int} (h : Ints w B (some ad) (x :: l)) : Ints w B (some ⟨ad.block, ad.off + 1, none⟩) l := fun k y hy => by
  obtain ⟨a, ha, hb, hc⟩ := h (k + 1) y (by simpa using hy)
  cases ha
  refine ⟨_, rfl, hb, ?_⟩
  have : (⟨ad.block, ad.off + 1, none⟩ : Addr).add k = ad.add (k + 1) := by
    unfold Addr.add
    rw [if_neg (by omega : ¬ k + 1 = 0)]
    split
    · rename_i h0
      rw [h0]
    · simp
      omega
  rw [this]
  exact hc
theorem leastGo_yes {cost : Int → Int} {best low t : Int} {l : List Int} (h : cost t < low) : leastGo cost best low (t :: l) = leastGo cost t (cost t) l := if_pos h
theorem leastGo_no {cost : Int → Int} {best low t : Int} {l : List Int} (h : ¬ cost t < low) : leastGo cost best low (t :: l) = leastGo cost best low l := if_neg h
theorem drop_cons {l : List Int} {k : Nat} (h : k < l.length) : l.drop k = l[k] :: l.drop (k + 1) := List.drop_eq_getElem_cons h

set_option maxRecDepth 100000 in
set_option maxHeartbeats 1000000 in
theorem least_any (C R B F : Int) (sl : Value) (p q : Nat → Bool) (g : Nat) (D : Option Addr) (dap : Nat) (x0 : Int) (l : List Int) (w : World) (h1 : 1 ≤ C) (h2 : C ≤ 120) (h7 : 0 ≤ B) (h8 : 0 ≤ F) (h9 : F < C - B)
    (hb : Blk w g 106 (sv C R B F sl p q)) (hr : Ints w w.heap.size D (x0 :: l)) (hm : ∀ x ∈ x0 :: l, 0 ≤ x ∧ x < C) (hlen : l.length ≤ 200) (hcap : l.length + 1 ≤ dap) :
    Calls Try.prog 116 #[.slice D (l.length + 1) dap, .func (.func 117) #[] #[.pointer (some ⟨g, 0, none⟩)]] w fun e w' => e = .returned (.int .i64 (leastOf (costOf C B F p q) (x0 :: l))) ∧ Below w.heap.size w w' := by
  obtain ⟨ad, rfl, hadb, hc0⟩ := hr.get (k := 0) (by simp)
  have hx0 := hm x0 (by simp)
  have e0 : ad.add 0 = ad := rfl
  rw [e0] at hc0
  simp only [List.getElem_cons_zero] at hc0
  have hl1 : (0 : Int) < (l.length : Int) + 1 := by omega
  have hl2 : (1 : Int) ≤ (l.length : Int) + 1 := by omega
  clear e0
  have HL : Hid (leastOf (costOf C B F p q) (x0 :: l) = leastGo (costOf C B F p q) x0 (costOf C B F p q x0) l) := rfl
  have HC : Hid (∀ x, 0 ≤ x → x < C → ∀ W : World, Blk W g 106 (sv C R B F sl p q) → Calls Try.prog 117 #[.int .i64 x, .pointer (some ⟨g, 0, none⟩)] W fun e w' => e = .returned (.int .i64 (costOf C B F p q x)) ∧ Below W.heap.size W w') :=
    fun x hxa hxb W hW => cost_any C R B F sl p q x g W h1 h2 hxa hxb h7 h8 h9 hW
  generalize leastOf (costOf C B F p q) (x0 :: l) = res at HL ⊢
  generalize costOf C B F p q = cost at HL HC
  have hm' : ∀ x ∈ l, 0 ≤ x ∧ x < C := fun x hx => hm x (by simp [hx])
  have HM := Lib.hid hm'
  have HT := Lib.hid hr.tail
  have HX := Lib.hid hx0
  have hnt : (1 : Int) ≤ (dap : Int) := by omega
  clear hm hm' hr hx0
  go_enter Try.func116, Try.ntmps116
  go_wp2_with fail
  go_region_held3 (fun w' => w'.cell? ad = some (.int .i64 x0) ∧ Blk w' g 106 (sv C R B F sl p q)) (first | exact K1 | exact ⟨hc0, hb⟩)
    (first
      | (go_at_call 117; refine (HC.out x0 HX.out.1 HX.out.2 _ ?_).mono ?_; (exact hb); rintro e w1 ⟨rfl, hb1⟩; have K1 : w1.cell? ad = some (.int .i64 x0) ∧ Blk w1 g 106 (sv C R B F sl p q) := ⟨(hb1.cell (p := ad) hadb).trans hc0, (hb1.block _ hb.lt).trans hb⟩))
  go_wp2_with fail
  · obtain rfl : l = [] := List.eq_nil_of_length_eq_zero (by omega)
    go_loopw [5, 6, 8, 9, 21] (fun v lo _ _ i wr => v = .int .i64 x0 ∧ i = .int .i64 0 ∧ w1 = wr) (fun _ _ _ _ _ _ => 0)
    case atStart => exact ⟨rfl, rfl, rfl⟩
    case round =>
      obtain ⟨rfl, rfl, rfl⟩ := hrel
      go_wp2_with fail
      go_ret
      exact ⟨ret_int HL.out.symm, (Below.refl _ _).drew.trans hb1⟩
  · have hb0 : Below w.heap.size w w1 := (Below.refl _ _).drew.trans hb1
    have hT' : Ints w1 w1.heap.size (some ⟨ad.block, ad.off + 1, none⟩) l := (HT.out.below hb0).more hb0.size
    have hbs := K1.2
    clear hc0 hadb hb K1 hb1
    go_loopw [5, 6, 8, 9, 21] (fun v lo _ _ i wr => ∃ (k : Nat) (best : Int), k ≤ l.length ∧ i = .int .i64 k ∧ v = .int .i64 best ∧ lo = .int .i64 (cost best) ∧ Hid (res = leastGo cost best (cost best) (l.drop k)) ∧ Below w1.heap.size w1 wr)
      (fun _ _ _ _ i _ => l.length - (intOf i).toNat)
    case atStart => exact ⟨0, x0, Nat.zero_le _, rfl, rfl, rfl, HL, Below.refl _ _⟩
    case round =>
      obtain ⟨k, best, hk, rfl, rfl, rfl, hres, hbw⟩ := hrel
      by_cases hlt : k < l.length
      · obtain ⟨X, hX, hXb, hce⟩ := (hT'.below hbw).get hlt
        cases hX
        rw [Addr.add_mid] at hce
        have hx := HM.out _ (List.getElem_mem hlt)
        have hd := Lib.hid (drop_cons hlt)
        have hbr : Blk wr g 106 (sv C R B F sl p q) := (hbw.block _ hbs.lt).trans hbs
        generalize l[k] = t at hce hx hd
        by_cases hcl : cost t < cost best
        · have hn : Hid (res = leastGo cost t (cost t) (l.drop (k + 1))) := by unfold Hid; rw [hres.out, hd.out, leastGo_yes hcl]
          clear hres hd
          go_wp2_with (first
            | (go_at_call 117; refine (HC.out t hx.1 hx.2 _ hbr).mono ?_; rintro e w3 ⟨rfl, hb3⟩))
          go_roundw
          case rel => exact ⟨k + 1, t, by omega, by go_num, rfl, rfl, hn, below_next hbw hbw.size hb3⟩
          case measure => simp [intOf]; try omega
        · have hn : Hid (res = leastGo cost best (cost best) (l.drop (k + 1))) := by unfold Hid; rw [hres.out, hd.out, leastGo_no hcl]
          clear hres hd
          go_wp2_with (first
            | (go_at_call 117; refine (HC.out t hx.1 hx.2 _ hbr).mono ?_; rintro e w3 ⟨rfl, hb3⟩))
          go_roundw
          case rel => exact ⟨k + 1, best, by omega, by go_num, rfl, rfl, hn, below_next hbw hbw.size hb3⟩
          case measure => simp [intOf]; try omega
      · have hn : Hid (best = res) := by unfold Hid; rw [hres.out, List.drop_of_length_le (by omega)]; rfl
        clear hres
        go_wp2_with fail
        go_ret
        exact ⟨ret_int hn.out, below_next hb0 hb0.size hbw⟩
end Go.Proofs.Ytnjmkdgglpcfpaa

namespace Go.Proofs.Ytnjmkdgglpcfpaa
open Go.RowKit

theorem cols_mem {q : Nat → Bool} {C : Int} (hq : ∀ i, q i = true → (i : Int) < C) {x : Int} (h : x ∈ cols q) : 0 ≤ x ∧ x < C := by
  obtain ⟨i, _, hi, rfl⟩ := colsTo_mem.1 h
  exact ⟨by omega, hq i hi⟩
theorem cols_len (q : Nat → Bool) : (cols q).length ≤ 120 := colsTo_len q 120
/-- with which stand a fewest round begins -/
def firstOf (C B F : Int) (p q : Nat → Bool) (c : Int) : Int := leastOf (costOf C B F p q) (opens C B F p c)
theorem leastGo_mem (cost : Int → Int) : ∀ (l : List Int) (best low : Int), leastGo cost best low l = best ∨ leastGo cost best low l ∈ l
  | [], _, _ => .inl rfl
  | t :: l, best, low => by
    unfold leastGo
    split
    · rcases leastGo_mem cost l t (cost t) with h | h
      · exact .inr (by rw [h]; simp)
      · exact .inr (by simp [h])
    · rcases leastGo_mem cost l best low with h | h
      · exact .inl h
      · exact .inr (by simp [h])
theorem leastOf_mem (cost : Int → Int) {l : List Int} (h : l ≠ []) : leastOf cost l ∈ l := by
  cases l with
  | nil => exact absurd rfl h
  | cons x l =>
    rcases leastGo_mem cost l x (cost x) with h | h
    · show leastGo cost x (cost x) l ∈ x :: l
      rw [h]
      simp
    · exact List.mem_cons_of_mem _ h
/-- the stands of a round that begins with the best stand, before they are sorted -/
def rawOf (C B F : Int) (p q : Nat → Bool) (c : Int) : List Int := afters C B F p q (firstOf C B F p q c) ++ [firstOf C B F p q c]

/-- the list sorted, as the library's sort does it -/
def srt (zs : List Int) : List Int := zs.mergeSort fun x y => decide (x ≤ y)
/-- what slices.Sort does to a slice of the caller's own -/
def SortSaid : Prop := ∀ (base : Nat) (A : Option Addr) (c : Nat) (zs : List Int) (W : World), base ≤ W.heap.size → zs.length ≤ 1000000 → W.ownsRow base 3 1 (.slice A zs.length c) zs.length (zs.map (Value.int .i64)) →
  Calls Try.prog 71 #[.slice A zs.length c] W fun e w' => e = .returned (.tuple #[]) ∧ w'.ownsRow base 3 1 (.slice A zs.length c) (srt zs).length ((srt zs).map (Value.int .i64)) ∧ Below base W w'
theorem srt_len (zs : List Int) : (srt zs).length = zs.length := List.length_mergeSort zs
/-- a fewest round, if there is one -/
def fewL (C B F : Int) (p q : Nat → Bool) : Option (List Int) :=
  match cols q with
  | [] => some []
  | c :: l => if (c :: l).all (fun x => !(opens C B F p x).isEmpty) then some (srt (rawOf C B F p q c)) else none
/-- what 'fewest' hands back -/
def RetFew (w : World) (r : Option (List Int)) (e : Ending) (w' : World) : Prop :=
  match r with
  | none => e = .returned (.tuple #[.slice none 0 0, .bool false]) ∧ Below w.heap.size w w'
  | some l => ∃ A c, e = .returned (.tuple #[.slice A l.length c, .bool true]) ∧ w'.ownsRow w.heap.size 3 1 (.slice A l.length c) l.length (l.map (Value.int .i64)) ∧ Below w.heap.size w w'
theorem own_facts {w : World} {base : Nat} {A : Option Addr} {c : Nat} {l : List Int} (h : w.ownsRow base 3 1 (.slice A l.length c) l.length (l.map (Value.int .i64))) : l.length ≤ c ∧ c ≤ maxLen ∧ Ints w w.heap.size A l := by
  obtain ⟨A', c', hv, h1, h2⟩ := own_form h
  cases hv
  exact ⟨h1, h2, Ints.of_own h⟩
theorem aft_len {C B F : Int} {p q : Nat → Bool} {s : Int} (h : 1 ≤ C) (hK : bhK C B F ≤ 120) : (afters C B F p q s).length ≤ 120 := by
  have h1 := (aft_fold (B := B) (F := F) (p := p) h (bhTo C F q s (bhK C B F)) [] (by simp)).1
  have h2 := bhTo_len C F q s (bhK C B F)
  unfold afters
  simp at h1
  omega

set_option maxRecDepth 100000 in
set_option maxHeartbeats 2000000 in
/-- the way of 'fewest' to the sort -/
theorem fewest_any (hsort : Hid SortSaid) (C R B F : Int) (sl : Value) (p q : Nat → Bool) (w : World) (h1 : 1 ≤ C) (h2 : C ≤ 120) (h7 : 0 ≤ B) (h8 : 0 ≤ F) (h9 : F < C - B) (hq : ∀ i, q i = true → (i : Int) < C) :
    Calls Try.prog 94 #[.agg (sv C R B F sl p q)] w (RetFew w (fewL C B F p q)) := by
  have hblk := Blk.new w 106 (sv C R B F sl p q)
  have hrow := hblk.svWantedRow
  have hcm : Hid (∀ x ∈ cols q, 0 ≤ x ∧ x < C) := fun x hx => cols_mem hq hx
  have hcl := cols_len q
  have hfew : fewL C B F p q = match cols q with | [] => some [] | c :: l => if (c :: l).all (fun x => !(opens C B F p x).isEmpty) then some (srt (rawOf C B F p q c)) else none := rfl
  generalize fewL C B F p q = res at hfew ⊢
  generalize hcs : cols q = cs at hcm hcl hfew
  have HCS := Lib.hid hcs
  clear hcs hq
  cases cs with
  | nil =>
    have HF : Hid (res = some []) := hfew
    clear hfew
    go_enter Try.func94, Try.ntmps94
    go_wp2_with (first
      | (refine wpList_load_mid (by rfl) 93 _ (by rfl) _ 125 (by rfl) _ _ hrow Try.underlying93 rfl (info93l _) ?_)
      | (go_at_call 78; refine (list_any q _).mono ?_; rw [HCS.out]; rintro e w1 ⟨A, c', rfl, e1, e2, e3, hb1⟩))
    go_ret2
    rw [HF.out]
    exact ⟨none, 0, rfl, World.ownsRow_nil _ _ _ _, below_next (below_new _ _) (by simp) hb1⟩
  | cons c0 cs =>
    have HF : Hid (res = if (c0 :: cs).all (fun x => !(opens C B F p x).isEmpty) then some (srt (rawOf C B F p q c0)) else none) := hfew
    clear hfew
    have hl0 : (((c0 :: cs).length : Nat) : Int) ≤ 120 := by omega
    have hl1 : (1 : Int) ≤ (((c0 :: cs).length : Nat) : Int) := by simp; omega
    have hl2 : ((((c0 :: cs).length : Nat) : Int) == 0) = false := by simp; omega
    have hc0 : Hid ((c0 :: cs)[0]? = some c0) := rfl
    generalize c0 :: cs = L at *
    go_enter Try.func94, Try.ntmps94
    go_wp2_with (first
      | (refine wpList_load_mid (by rfl) 93 _ (by rfl) _ 125 (by rfl) _ _ hrow Try.underlying93 rfl (info93l _) ?_)
      | (go_at_call 78; refine (list_any q _).mono ?_; rw [HCS.out]; rintro e w1 ⟨A, c', rfl, e1, e2, e3, hb1⟩))
    have hb : Below w.heap.size w w1 := below_next (below_new _ _) (by simp) hb1
    have hbs1 : Blk w1 w.heap.size 106 (sv C R B F sl p q) := hblk.below hb1 (by simp)
    clear hblk hrow hb1
    go_loopw [6, 17] (fun _ i wr => ∃ k : Nat, k ≤ L.length ∧ i = .int .i64 k ∧ Hid ((L.take k).all (fun x => !(opens C B F p x).isEmpty) = true) ∧ Below w1.heap.size w1 wr)
      (fun _ i _ => L.length - (intOf i).toNat)
    case atStart => exact ⟨0, Nat.zero_le _, rfl, rfl, Below.refl _ _⟩
    case round =>
      obtain ⟨k, hk, rfl, hall, hbw⟩ := hrel
      have hbr : Blk wr w.heap.size 106 (sv C R B F sl p q) := (hbw.block _ hbs1.lt).trans hbs1
      have hz := hbw.size
      by_cases hlt : k < L.length
      · obtain ⟨ad, rfl, hadb, hce⟩ := (e3.below hbw).get hlt
        have hm := hcm.out _ (List.getElem_mem hlt)
        by_cases ho : opens C B F p L[k] = []
        · have hn : Hid (none = res) := by
            unfold Hid
            rw [HF.out, if_neg]
            intro h
            have := List.all_eq_true.1 h _ (List.getElem_mem hlt)
            simp [ho] at this
          have HO := Lib.hid ho
          clear hall HF ho
          go_wp2_with (first
            | (refine wpList_load_row (by rfl) 106 _ (by rfl) _ (by rfl) 106 _ (0, 0) _ hbr Try.underlying106 rfl (info106 _ _ _ _ _ _ _) ?_)
            | (go_at_call 88; refine (sStands_any C R B F sl p q _ _ h1 h2 hm.1 hm.2 h7 h8 h9).mono ?_; rw [HO.out]; rintro e w3 ⟨A3, c3, rfl, f1, f2, f3, hb3⟩))
          go_ret2
          rw [← hn.out]
          exact ⟨rfl, below_next (below_next hb hb.size hbw) (Nat.le_trans hb.size hz) hb3⟩
        · have hn : Hid ((L.take (k + 1)).all (fun x => !(opens C B F p x).isEmpty) = true) := by
            unfold Hid
            rw [List.take_succ_eq_append_getElem hlt, List.all_append, hall.out]
            simp [ho]
          have hol := opens_len (C := C) (B := B) (F := F) (p := p) (c := L[k]) h2
          have ho1 : (((opens C B F p L[k]).length : Nat) == 0) = false := by simp [ho]
          have ho2 : ((((opens C B F p L[k]).length : Nat) : Int) == 0) = false := by
            have : 0 < (opens C B F p L[k]).length := List.length_pos_iff.2 ho
            simp; omega
          clear hall ho ho1
          go_wp2_with (first
            | (refine wpList_load_row (by rfl) 106 _ (by rfl) _ (by rfl) 106 _ (0, 0) _ hbr Try.underlying106 rfl (info106 _ _ _ _ _ _ _) ?_)
            | (go_at_call 88; refine (sStands_any C R B F sl p q _ _ h1 h2 hm.1 hm.2 h7 h8 h9).mono ?_; rintro e w3 ⟨A3, c3, rfl, f1, f2, f3, hb3⟩))
          go_roundw
          case rel => exact ⟨k + 1, by omega, by go_num, hn, below_next hbw hz hb3⟩
          case measure => simp [intOf]; try omega
      · have hn : Hid (some (srt (rawOf C B F p q c0)) = res) := by
          unfold Hid
          rw [HF.out, if_pos]
          have := hall.out
          rwa [List.take_of_length_le (by omega)] at this
        have ho : opens C B F p c0 ≠ [] := by
          have := hall.out
          rw [List.take_of_length_le (by omega)] at this
          have := List.all_eq_true.1 this c0 (List.mem_of_getElem? hc0.out)
          simpa using this
        have HO := Lib.hid ho
        obtain ⟨ad, rfl, hadb, hce⟩ := (e3.below hbw) 0 c0 hc0.out
        have hce' : wr.cell? ad = some (.int .i64 c0) := hce
        have hm := hcm.out _ (List.mem_of_getElem? hc0.out)
        clear hall HF ho hce
        go_wp2_with fail
        have hl3 : 0 < L.length := by omega
        obtain ⟨o0, os, hOS⟩ : ∃ o0 os, opens C B F p c0 = o0 :: os := by
          cases hh : opens C B F p c0 with
          | nil => exact absurd hh HO.out
          | cons o0 os => exact ⟨o0, os, rfl⟩
        have hol := opens_len (C := C) (B := B) (F := F) (p := p) (c := c0) h2
        have hom : ∀ x ∈ opens C B F p c0, 0 ≤ x ∧ x < C := fun x hx => opens_mem hx
        have hfm : 0 ≤ firstOf C B F p q c0 ∧ firstOf C B F p q c0 < C := hom _ (leastOf_mem _ HO.out)
        have hraw : Hid (rawOf C B F p q c0 = afters C B F p q (firstOf C B F p q c0) ++ [firstOf C B F p q c0]) := rfl
        have hfo : Hid (leastOf (costOf C B F p q) (o0 :: os) = firstOf C B F p q c0) := by unfold Hid firstOf; rw [hOS]
        rw [hOS] at hol hom
        have HOS := Lib.hid hOS
        generalize firstOf C B F p q c0 = fst at hfm hraw hfo
        have hal := aft_len (B := B) (F := F) (p := p) (q := q) (s := fst) h1 (by unfold bhK; omega)
        clear hOS
        refine wp_region_held_drew (S := fun w' => Blk w' w.heap.size 106 (sv C R B F sl p q) ∧ w'.cell? ad = some (.int .i64 c0)) (by kernel_rfl) ⟨hbr, hce'⟩ (fun hHeld => ?_)
        (refine wpAnyH_take (i := 0) (v := .agg (sv C R B F sl p q)) rfl (by kernel_rfl) (by kernel_rfl) (by kernel_rfl) (fun _ _ _ h => h) (yieldsIf_load_row (by rfl) 106 _ rfl _ rfl 106 _ (0, 0) _ (fun w5 hS5 => hS5.1) Try.underlying106 rfl (info106 _ _ _ _ _ _ _)) (by assumption) ?_; (try simp only [List.getElem_toArray, List.getElem_cons_zero, Act.put, List.setIfInBounds_toArray, List.set_cons_zero, List.set_cons_succ]))
        (refine wpAnyH_take (i := 1) (v := ?_) rfl (by kernel_rfl) (by kernel_rfl) (by kernel_rfl) (fun _ _ _ h => h) (Or.inl ⟨by rfl, ?_⟩) (by assumption) ?_; rotate_left; (· intro w5 hS5; (try dsimp only at hS5); go_simp <;> with_reducible rfl); (try simp only [List.getElem_toArray, List.getElem_cons_zero, List.getElem_cons_succ, Act.put, List.setIfInBounds_toArray, List.set_cons_zero, List.set_cons_succ]))
        (refine wpAnyH_take (i := 2) (v := ?_) rfl (by kernel_rfl) (by kernel_rfl) (by kernel_rfl) (fun _ _ _ h => h) (Or.inl ⟨by rfl, ?_⟩) (by assumption) ?_; rotate_left; (· intro w5 hS5; (try dsimp only at hS5); go_simp <;> with_reducible rfl); (try simp only [List.getElem_toArray, List.getElem_cons_zero, List.getElem_cons_succ, Act.put, List.setIfInBounds_toArray, List.set_cons_zero, List.set_cons_succ]))
        (refine wpAnyH_take (i := 3) (v := ?_) rfl (by kernel_rfl) (by kernel_rfl) (by kernel_rfl) (fun _ _ _ h => h) (Or.inl ⟨by rfl, ?_⟩) (by assumption) ?_; rotate_left; (· intro w5 hS5; (try dsimp only at hS5); go_simp <;> with_reducible rfl); (try simp only [List.getElem_toArray, List.getElem_cons_zero, List.getElem_cons_succ, Act.put, List.setIfInBounds_toArray, List.set_cons_zero, List.set_cons_succ]))
        (refine wpAnyH_take (i := 5) (v := ?_) rfl (by kernel_rfl) (by kernel_rfl) (by kernel_rfl) (fun _ _ _ h => h) (Or.inl ⟨by rfl, ?_⟩) (by assumption) ?_; rotate_left; (· intro w5 hS5; (try dsimp only at hS5); go_simp <;> with_reducible rfl); (try simp only [List.getElem_toArray, List.getElem_cons_zero, List.getElem_cons_succ, Act.put, List.setIfInBounds_toArray, List.set_cons_zero, List.set_cons_succ]))
        (refine wpAnyH_ready (rs := [4]) (by kernel_rfl) (by simp) ?_; refine AllReadyH.cons rfl (fun K hK => ?_) AllReadyH.nil)
        go_simp
        refine (sStands_any C R B F sl p q _ _ h1 h2 hm.1 hm.2 h7 h8 h9).mono ?_
        rw [HOS.out]
        rintro e w3 ⟨A3, c3, rfl, f1, f2, f3, hb3⟩
        have hbr3 : Blk w3 w.heap.size 106 (sv C R B F sl p q) := (hb3.block _ hbr.lt).trans hbr
        refine hK.out _ _ ⟨hbr3, (hb3.cell (p := ad) (World.block_lt_of_cell? wr _ hce')).trans hce'⟩ (fun hHeld => ?_)
        clear hK K
        (try simp only [List.getElem_toArray, List.getElem_cons_zero, List.getElem_cons_succ, Act.put, List.setIfInBounds_toArray, List.set_cons_zero, List.set_cons_succ])
        (refine wpAnyH_ready (rs := [6]) (by kernel_rfl) (by simp) ?_; refine AllReadyH.cons rfl (fun K hK => ?_) AllReadyH.nil)
        go_simp
        refine (least_any C R B F sl p q w.heap.size A3 c3 o0 os _ h1 h2 h7 h8 h9 hbr3 f3 hom (by simp at hol; omega) f1).mono ?_
        rw [hfo.out]
        rintro e w4 ⟨rfl, hb4⟩
        have hbr4 : Blk w4 w.heap.size 106 (sv C R B F sl p q) := (hb4.block _ hbr3.lt).trans hbr3
        have hz3 := hb3.size
        have hz4 := hb4.size
        refine hK.out _ _ ⟨hbr4, (hb4.cell (p := ad) (World.block_lt_of_cell? w3 _ ((hb3.cell (p := ad) (World.block_lt_of_cell? wr _ hce')).trans hce'))).trans ((hb3.cell (p := ad) (World.block_lt_of_cell? wr _ hce')).trans hce')⟩ (fun hHeld => ?_)
        clear hK K
        (try simp only [List.getElem_toArray, List.getElem_cons_zero, List.getElem_cons_succ, Act.put, List.setIfInBounds_toArray, List.set_cons_zero, List.set_cons_succ])
        (refine wpAnyH_take (i := 7) (v := ?_) rfl (by kernel_rfl) (by kernel_rfl) (by kernel_rfl) (fun _ _ _ h => h) (Or.inl ⟨by rfl, ?_⟩) (by assumption) ?_; rotate_left; (· intro w5 hS5; (try dsimp only at hS5); go_simp <;> with_reducible rfl); (try simp only [List.getElem_toArray, List.getElem_cons_zero, List.getElem_cons_succ, Act.put, List.setIfInBounds_toArray, List.set_cons_zero, List.set_cons_succ]))
        refine wpAnyH_done (by kernel_rfl) ?_ _
        clear hHeld
        have hb4w : Below w.heap.size w w4 := below_next (below_next (below_next hb hb.size hbw).drew (Nat.le_trans hb.size hz) hb3) (Nat.le_trans (Nat.le_trans hb.size hz) hz3) hb4
        go_wp2_with (first
          | (refine wpList_load_row (by rfl) 106 _ (by rfl) _ (by rfl) 106 _ (0, 0) _ hbr4 Try.underlying106 rfl (info106 _ _ _ _ _ _ _) ?_)
          | (go_at_call 97; refine (after_own C R B F sl p q fst _ h1 h2 hfm.1 hfm.2 h7 h8 h9).mono ?_; rintro e w5 ⟨A5, c5, rfl, hown5, hb5⟩)
          | (at_builtin; refine app1 (by rfl) _ _ (by rfl) w4.heap.size (afters C B F p q fst) fst _ (by rfl) hown5 (by rfl) (by omega) hb5.size ?_; intro A6 c6 w6 hown6 hb6; rw [← hraw.out] at hown6; have hlr : Hid ((rawOf C B F p q c0).length = (afters C B F p q fst ++ [fst]).length) := by unfold Hid; rw [hraw.out])
          | (go_at_call 71; rw [show (afters C B F p q fst).length + 1 = (rawOf C B F p q c0).length by rw [hraw.out]; simp]; refine (hsort.out w4.heap.size A6 c6 (rawOf C B F p q c0) _ (Nat.le_trans hb5.size hb6.size) (by rw [hraw.out]; simp; omega) hown6).mono ?_; rintro e w7 ⟨rfl, hown7, hb7⟩))
        go_ret2
        rw [← hn.out]
        have hsl := srt_len (rawOf C B F p q c0)
        rw [← hsl] at hown7 ⊢
        have hz4w := Nat.le_trans (Nat.le_trans (Nat.le_trans hb.size hz) hz3) hz4
        exact ⟨A6, c6, rfl, own_less hown7 hz4w, below_next hb4w hz4w ((hb5.trans hb6).trans hb7)⟩

theorem filt_yes {L : List Int} {k : Nat} {pu : Int → Bool} (hk : k < L.length) (h : pu L[k] = true) : (L.take (k + 1)).filter pu = (L.take k).filter pu ++ [L[k]] := by
  rw [List.take_succ_eq_append_getElem hk, List.filter_append]
  simp [h]
theorem filt_no {L : List Int} {k : Nat} {pu : Int → Bool} (hk : k < L.length) (h : pu L[k] = false) : (L.take (k + 1)).filter pu = (L.take k).filter pu := by
  rw [List.take_succ_eq_append_getElem hk, List.filter_append]
  simp [h]
theorem filt_len {L : List Int} {k : Nat} {pu : Int → Bool} : ((L.take k).filter pu).length ≤ L.length := by
  have := List.length_filter_le pu (L.take k)
  have := List.length_take_le' k L
  omega

end Go.Proofs.Ytnjmkdgglpcfpaa

