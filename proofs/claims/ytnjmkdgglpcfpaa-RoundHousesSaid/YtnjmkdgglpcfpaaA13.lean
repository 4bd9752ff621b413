import Derived.Test.YtnjmkdgglpcfpaaA12
import Derived.WalkMore
namespace Go.Proofs.Ytnjmkdgglpcfpaa
open Go.RowKit Go.Shelf

attribute [local go_sem] Oper.semAt_some

/-- 'l = append(l, y)' in a round -/
theorem wpInR_app1 {l' n : Nat} {o : Oper} {a : Act} {K : Act → World → Prop} {Q : Exit → Act → World → Prop} {w : World} (s x : Operand)
    (ho : o.op = .call { callee := .builtin .append, args := #[s, x], argTypes := #[22, 22] }) (base : Nat) (l : List Int) (y : Int) (v : Value)
    (hs : a.eval s = v) (hown : w.ownsRow base 3 1 v l.length (l.map (Value.int .i64))) (hx : a.eval x = .slice (some ⟨w.heap.size, 0, none⟩) 1 1) (hl : l.length ≤ 1000000) (hbase : base ≤ w.heap.size)
    (h : ∀ v' w', w'.ownsRow base 3 1 v' (l ++ [y]).length ((l ++ [y]).map (Value.int .i64)) → Below base w w' → KeepsOthers w w' → (∀ g t u, Boxed w g t u → t ≠ 3 → Boxed w' g t u) → K (a.put o.dst v') w') :
    o.wpIn (Fence.wide.inRound l') n Try.prog a (w.alloc (.cells #[.int .i64 y] 3)) K Q :=
  opIn_of_wp (by rw [ho]; intro c hc; cases hc) (wp_app1 s x ho base l y v hs hown hx hl hbase h)

/-- a column more of a cut, unless there are enough, or an open stand reaches it and one that is taken -/
def cutF (C B F : Int) (p : Nat → Bool) (size : Int) (st : List Int) (c : Int) : List Int :=
  if (st.length : Int) = size then st else if st.any (fun t => tog C B F p c t) then st else st ++ [c]
def cutL (C B F : Int) (p q : Nat → Bool) (s size : Int) : List Int := (bhTo C F q s (bhK C B F)).foldl (cutF C B F p size) []

theorem cutF_full {C B F : Int} {p : Nat → Bool} {size : Int} {st : List Int} {c : Int} (h : (st.length : Int) = size) : cutF C B F p size st c = st := if_pos h
theorem cutF_yes {C B F : Int} {p : Nat → Bool} {size : Int} {st : List Int} {c : Int} (h : (st.length : Int) ≠ size) (h' : (st.any fun t => tog C B F p c t) = true) : cutF C B F p size st c = st := by
  unfold cutF
  rw [if_neg h, if_pos h']
theorem cutF_no {C B F : Int} {p : Nat → Bool} {size : Int} {st : List Int} {c : Int} (h : (st.length : Int) ≠ size) (h' : (st.any fun t => tog C B F p c t) = false) : cutF C B F p size st c = st ++ [c] := by
  unfold cutF
  rw [if_neg h, h']
  rfl
theorem cut_stays {C B F : Int} {p : Nat → Bool} {size : Int} : ∀ (l : List Int) (st : List Int), (st.length : Int) = size → l.foldl (cutF C B F p size) st = st
  | [], _, _ => rfl
  | c :: l, st, h => by rw [List.foldl_cons, cutF_full h]; exact cut_stays l st h
/-- what is taken into a cut of a part of the columns -/
def cutS (C B F : Int) (p : Nat → Bool) (size : Int) (pre : List (Col C)) : List Int := (pre.map Subtype.val).foldl (cutF C B F p size) []
theorem cutS_snoc (C B F : Int) (p : Nat → Bool) (size : Int) (pre : List (Col C)) (x : Col C) : cutS C B F p size (pre ++ [x]) = cutF C B F p size (cutS C B F p size pre) x.1 := by simp [cutS]
theorem cut_fold {C B F : Int} {p : Nat → Bool} {size : Int} : ∀ (l : List Int) (st : List Int), (∀ x ∈ st, 0 ≤ x ∧ x < C) → (∀ x ∈ l, 0 ≤ x ∧ x < C) → (l.foldl (cutF C B F p size) st).length ≤ st.length + l.length ∧ ∀ x ∈ l.foldl (cutF C B F p size) st, 0 ≤ x ∧ x < C
  | [], st, hst, _ => ⟨by simp, hst⟩
  | c :: l, st, hst, hl => by
    have hc : (cutF C B F p size st c).length ≤ st.length + 1 ∧ ∀ x ∈ cutF C B F p size st c, 0 ≤ x ∧ x < C := by
      unfold cutF
      split
      · exact ⟨by omega, hst⟩
      · split
        · exact ⟨by omega, hst⟩
        · refine ⟨by simp, fun y hy => ?_⟩
          rcases List.mem_append.1 hy with hy | hy
          · exact hst y hy
          · obtain rfl : y = c := by simpa using hy
            exact hl _ (by simp)
    obtain ⟨h3, h4⟩ := cut_fold l _ hc.2 (fun x hx => hl x (by simp [hx]))
    exact ⟨by simp only [List.foldl_cons, List.length_cons]; omega, h4⟩
theorem cutS_good {C B F : Int} {p : Nat → Bool} {size : Int} (pre : List (Col C)) : (cutS C B F p size pre).length ≤ pre.length ∧ ∀ x ∈ cutS C B F p size pre, 0 ≤ x ∧ x < C := by
  have := cut_fold (B := B) (F := F) (p := p) (size := size) (pre.map Subtype.val) [] (by simp) (fun x hx => by
    obtain ⟨y, _, rfl⟩ := List.mem_map.1 hx
    exact y.2)
  simpa [cutS] using this

set_option maxRecDepth 100000 in
set_option maxHeartbeats 2000000 in
theorem cut_own (C R B F : Int) (sl : Value) (p q : Nat → Bool) (s size : Int) (w : World) (h1 : 1 ≤ C) (h2 : C ≤ 120) (h3 : 0 ≤ s) (h4 : s < C) (h7 : 0 ≤ B) (h8 : 0 ≤ F) (h9 : F < C - B) :
    Calls Try.prog 89 #[.agg (sv C R B F sl p q), .int .i64 s, .int .i64 size] w fun e w' => ∃ A c, e = .returned (.agg #[.int .i64 s, .slice A (cutL C B F p q s size).length c]) ∧ w'.ownsRow w.heap.size 3 1 (.slice A (cutL C B F p q s size).length c) (cutL C B F p q s size).length ((cutL C B F p q s size).map (Value.int .i64)) ∧ Below w.heap.size w w' := by
  refine (callsIn_wide (n := 9)).1 ?_
  refine callsIn_of_wp_marks Try.func89 rfl trivial ?_ rfl
  simp only [Try.ntmps89, List.size_toArray, List.length_cons, List.length_nil, Nat.reduceAdd, Nat.reduceSub, Array.replicate_succ, Array.replicate_zero, List.push_toArray, List.append_toArray, List.nil_append, List.cons_append]
  have hb0 := Blk.new w 106 (sv C R B F sl p q)
  refine wpIn_wide.2 ?_
  go_wp2_with fail
  go_step3
  go_wp2_with fail
  go_step3
  go_wp2_with (first
    | (refine wpList_load_row (by rfl) 106 _ (by rfl) _ (by rfl) 106 _ (0, 0) _ (((hb0.alloc _).alloc _).alloc _) Try.underlying106 rfl (info106 _ _ _ _ _ _ _) ?_)
    | (go_at_call 113; refine (behind_any _ _ _).mono ?_; rintro e w1 ⟨rfl, rfl⟩))
  generalize hW0 : ((((((w.alloc (Obj.cells (sv C R B F sl p q) 106)).alloc (Obj.cells #[Value.int IntKind.i64 size] 3)).alloc (Obj.cells #[Value.int IntKind.i64 0, Value.slice none 0 0] 104)).alloc (Obj.cells #[Value.slice none 0 0] 22)).alloc (Obj.cells (sv C R B F sl p q) 106)).alloc (Obj.cells #[Value.int IntKind.i64 s] 3)) = W0
  have hsz : W0.heap.size = w.heap.size + 1 + 1 + 1 + 1 + 1 + 1 := by rw [← hW0]; simp only [World.size_alloc]
  have hB0 : Below w.heap.size w W0 := by rw [← hW0]; exact (((((below_new _ _).alloc (by simp) _).alloc (by simp; omega) _).alloc (by simp; omega) _).alloc (by simp; omega) _).alloc (by simp; omega) _
  have b0 : Blk W0 w.heap.size 106 (sv C R B F sl p q) := by rw [← hW0]; exact (((((Blk.new _ _ _).alloc _).alloc _).alloc _).alloc _).alloc _
  have b1 : Blk W0 (w.heap.size + 1) 3 #[.int .i64 size] := by rw [← hW0]; exact ((((Blk.newAt (by simp only [World.size_alloc])).alloc _).alloc _).alloc _).alloc _
  have b2 : Blk W0 (w.heap.size + 1 + 1) 104 #[.int .i64 0, .slice none 0 0] := by rw [← hW0]; exact (((Blk.newAt (by simp only [World.size_alloc])).alloc _).alloc _).alloc _
  have b3 : Boxed W0 (w.heap.size + 1 + 1 + 1) 22 (.slice none 0 0) := by rw [← hW0]; exact ((Blk.newAt (by simp only [World.size_alloc])).alloc _).alloc _
  have b4 : Blk W0 (w.heap.size + 1 + 1 + 1 + 1) 106 (sv C R B F sl p q) := by rw [← hW0]; exact (Blk.newAt (by simp only [World.size_alloc])).alloc _
  have b5 : Blk W0 (w.heap.size + 1 + 1 + 1 + 1 + 1) 3 #[.int .i64 s] := by rw [← hW0]; exact Blk.newAt (by simp only [World.size_alloc])
  clear hW0 hb0
  refine (wpIn_wide (n := 9)).1 ?_
  refine wpIn_rangeFunc_ownG rfl (by omega) (gf := 130) (lb := #[.pointer (some ⟨w.heap.size + 1 + 1 + 1 + 1, 0, none⟩), .pointer (some ⟨w.heap.size + 1 + 1 + 1 + 1 + 1, 0, none⟩)]) rfl trivial (enters_of Try.func130 (by kernel_rfl) rfl)
    (behind_stops (9 - 1) (by omega) (w.heap.size + 1 + 1 + 1 + 1) (w.heap.size + 1 + 1 + 1 + 1 + 1) C R B F sl p q s h1 h2 h3 h4 h7 h8 h9 W0 b4 (b5.cell 0)) (fun h k => Kp2.trans h k)
    (fun W l o o' hl _ _ _ => Kp2.put (B := W0.heap.size) o' (by omega) (by omega) hl) (Below.refl _ _) (fun _ => rfl)
    (fun pre W => (∃ v, Boxed W (w.heap.size + 1 + 1 + 1) 22 v ∧ W.ownsRow W0.heap.size 3 1 v (cutS C B F p size pre).length ((cutS C B F p size pre).map (Value.int .i64)) ∧ True) ∧ (Blk W w.heap.size 106 (sv C R B F sl p q) ∧ Blk W (w.heap.size + 1) 3 #[.int .i64 size] ∧ Blk W (w.heap.size + 1 + 1) 104 #[.int .i64 0, .slice none 0 0] ∧ Below w.heap.size w W ∧ W0.heap.size ≤ W.heap.size))
    (fun c pre W => ((c = .exit 0 ∧ ((cutS C B F p size pre).length : Int) = size) ∧ (∃ v, Boxed W (w.heap.size + 1 + 1 + 1) 22 v ∧ W.ownsRow W0.heap.size 3 1 v (cutS C B F p size pre).length ((cutS C B F p size pre).map (Value.int .i64)) ∧ True) ∧ (Blk W w.heap.size 106 (sv C R B F sl p q) ∧ Blk W (w.heap.size + 1) 3 #[.int .i64 size] ∧ Blk W (w.heap.size + 1 + 1) 104 #[.int .i64 0, .slice none 0 0] ∧ Below w.heap.size w W ∧ W0.heap.size ≤ W.heap.size)))
    ?hI ?hIx
    ⟨⟨_, b3, World.ownsRow_nil _ _ _ _, trivial⟩, b0, b1, b2, hB0, Nat.le_refl _⟩
    (fun x => { tmps := #[.agg (sv C R B F sl p q), .int .i64 s, .int .i64 size, .pointer (some ⟨w.heap.size, 0, none⟩), undef, .pointer (some ⟨w.heap.size + 1, 0, none⟩), .pointer (some ⟨w.heap.size + 1 + 1, 0, none⟩), .pointer (some ⟨w.heap.size + 1 + 1 + 1, 0, none⟩), .int .i64 x.1, undef, undef, .agg (sv C R B F sl p q), .int .i64 s,
      .func (.func 130) #[] #[.pointer (some ⟨w.heap.size + 1 + 1 + 1 + 1, 0, none⟩), .pointer (some ⟨w.heap.size + 1 + 1 + 1 + 1 + 1, 0, none⟩)], .int .i64 x.1, undef, undef, undef, undef, undef, undef, undef, undef, undef, undef, undef, undef, undef, undef, undef, undef, undef, undef, undef, undef, undef, undef], defers := [] }) ?assign ?body ?done ?stop
  case hI =>
    exact OwnFrom.and (Own.from (holdsRow_own W0.heap.size (w.heap.size + 1 + 1 + 1) 22 3 1 (fun pre => (cutS C B F p size pre).length) (fun pre => (cutS C B F p size pre).map (Value.int .i64)) (fun _ _ => True)) _)
      (OwnFrom.and (Own.from (blk_own _ _ _) _) (OwnFrom.and (Own.from (blk_own _ _ _) _) (OwnFrom.and (Own.from (blk_own _ _ _) _) (OwnFrom.and (ownFrom_below (Nat.le_refl _) (by omega)) (fun _ _ _ _ hs hg _ => Nat.le_trans hs hg.size)))))
  case hIx =>
    intro c
    exact OwnFrom.and (fun _ _ _ _ hs _ _ => hs) (OwnFrom.and (Own.from (holdsRow_own W0.heap.size (w.heap.size + 1 + 1 + 1) 22 3 1 (fun pre => (cutS C B F p size pre).length) (fun pre => (cutS C B F p size pre).map (Value.int .i64)) (fun _ _ => True)) _)
      (OwnFrom.and (Own.from (blk_own _ _ _) _) (OwnFrom.and (Own.from (blk_own _ _ _) _) (OwnFrom.and (Own.from (blk_own _ _ _) _) (OwnFrom.and (ownFrom_below (Nat.le_refl _) (by omega)) (fun _ _ _ _ hs hg _ => Nat.le_trans hs hg.size))))))
  case assign =>
    intro l x W K hK
    gi_wp2
    exact hK
  case body =>
    rintro l pre x W ⟨⟨v, hv, hown, _⟩, hb0, hb1, hb2, hB, hWz⟩ hlen
    have hg := cutS_good (C := C) (B := B) (F := F) (p := p) (size := size) pre
    have hsn := Lib.hid (cutS_snoc C B F p size pre x)
    generalize cutS C B F p size pre = st at hown hg hsn
    obtain ⟨A, c', rfl, hc1, hc2⟩ := own_form hown
    dsimp only
    have hvc := hv.cell
    have hvf := hv.frozen
    have hsc := hb1.cell 0
    have hln : (st.length : Int) ≤ 120 := by omega
    by_cases hfull : (st.length : Int) = size
    · have hq : ((st.length : Int) == size) = true := by simpa using hfull
      have HF := Lib.hid hfull
      clear hfull
      gi_wp2
      exact ⟨KeepsFrom.refl _ _, ⟨⟨rfl, by rw [hsn.out, cutF_full HF.out]; exact HF.out⟩, ⟨_, hv, by rw [hsn.out, cutF_full HF.out]; exact hown, trivial⟩, hb0, hb1, hb2, hB, hWz⟩⟩
    · have hq : ((st.length : Int) == size) = false := by simpa using hfull
      have HF := Lib.hid hfull
      have hint := Ints.of_own hown
      clear hfull
      gi_wp2
      gi_loopw [10, 21] (fun _ i wr => ∃ k : Nat, k ≤ st.length ∧ i = .int .i64 k ∧ Hid ((st.take k).any (fun t => tog C B F p x.1 t) = false) ∧ Below W.heap.size W wr)
        (fun _ i _ => st.length - (intOf i).toNat)
      case atStart => exact ⟨0, Nat.zero_le _, rfl, rfl, Below.refl _ _⟩
      case round =>
        obtain ⟨k, hk, rfl, hno, hbw⟩ := hrel
        have hbr : Blk wr w.heap.size 106 (sv C R B F sl p q) := (hbw.block _ hb0.lt).trans hb0
        have hz := hbw.size
        by_cases hlt : k < st.length
        · obtain ⟨ad, rfl, hadb, hce⟩ := (hint.below hbw).get hlt
          have hm := hg.2 _ (List.getElem_mem hlt)
          cases hr : tog C B F p x.1 st[k] with
          | true =>
            have hst := Lib.hid (cutF_yes (C := C) (B := B) (F := F) (p := p) HF.out (List.any_eq_true.2 ⟨st[k], List.getElem_mem hlt, hr⟩))
            have HR := Lib.hid hr
            clear hr hno HF
            gi_wp2_with (first
              | (refine wpIn_load_row 106 _ (by rfl) _ (by rfl) 106 _ (0, 0) _ hbr Try.underlying106 rfl (info106 _ _ _ _ _ _ _) ?_)
              | (refine ⟨trivial, ?_⟩; gi_at_call 114; refine (CallsIn.inRound l (callsIn_wide.2 (together_any C R B F sl p q x.1 st[k] _ h1 h2 x.2.1 x.2.2 hm.1 hm.2 h7 h8 h9))).mono ?_; rw [HR.out]; rintro e w3 ⟨rfl, hb3⟩))
            have hbw3 : Below W.heap.size W w3 := below_next hbw hz hb3
            exact ⟨(keeps_of_below hbw3).from _, Kp2.below (hbw3.mono hWz) (by omega) (by omega), ⟨⟨_, (hbw3.block _ hv.lt).trans hv, by rw [hsn.out, hst.out]; exact own_below hown hbw3, trivial⟩, (hbw3.block _ hb0.lt).trans hb0, (hbw3.block _ hb1.lt).trans hb1, (hbw3.block _ hb2.lt).trans hb2, hB.trans (hbw3.mono (by omega)), Nat.le_trans hWz hbw3.size⟩⟩
          | false =>
            have hn : Hid ((st.take (k + 1)).any (fun t => tog C B F p x.1 t) = false) := by
              unfold Hid
              rw [List.take_succ_eq_append_getElem hlt, List.any_append, hno.out]
              simp [hr]
            have HR := Lib.hid hr
            clear hr hno
            gi_wp2_with (first
              | (refine wpIn_load_row 106 _ (by rfl) _ (by rfl) 106 _ (0, 0) _ hbr Try.underlying106 rfl (info106 _ _ _ _ _ _ _) ?_)
              | (refine ⟨trivial, ?_⟩; gi_at_call 114; refine (CallsIn.inRound l (callsIn_wide.2 (together_any C R B F sl p q x.1 st[k] _ h1 h2 x.2.1 x.2.2 hm.1 hm.2 h7 h8 h9))).mono ?_; rw [HR.out]; rintro e w3 ⟨rfl, hb3⟩))
            go_roundw
            case rel => exact ⟨k + 1, by omega, by go_num, hn, below_next hbw hz hb3⟩
            case measure => simp [intOf]; try omega
        · have hst := Lib.hid (cutF_no (C := C) (B := B) (F := F) (p := p) HF.out (by have := hno.out; rwa [List.take_of_length_le (by omega)] at this))
          have hbx : Boxed wr (w.heap.size + 1 + 1 + 1) 22 (.slice A st.length c') := (hbw.block _ hv.lt).trans hv
          have hownr := own_below hown hbw
          have hcx := hbx.cell
          clear hno HF
          gi_wp2_with (first
            | (refine wpInR_app1 _ _ (by rfl) W0.heap.size st x.1 _ (by rfl) hownr (by rfl) (by omega) (by omega) ?_; intro v7 w7 hown7 hb7 hk7 hx7; obtain ⟨A7, c7, hv7, _, _⟩ := own_form hown7; obtain ⟨m7, hm7⟩ : ∃ m : Nat, (st ++ [x.1]).length = m := ⟨_, rfl⟩; rw [hm7] at hv7; clear hm7; subst hv7; have hbx7 := hx7 _ _ _ hbx (by decide); have hcx7 := hbx7.cell; have hfx7 := hbx7.frozen))
          have hfin := hbx7.set (.slice A7 m7 c7)
          have hbw7 : Below W0.heap.size W w7 := (hbw.mono hWz).trans hb7
          have hown8 := hown7.kept (grownBy_setCell' w7 (w.heap.size + 1 + 1 + 1) (.slice A7 m7 c7)) (.inr (hbx7.not_row (by decide) hown7).symm)
          refine ⟨(((keeps_of_below hbw).trans hk7).trans (KeepsOthers.setCell _ _ _)).from _, ?_, ⟨⟨_, hfin, by rw [hsn.out, hst.out]; exact hown8, trivial⟩, ?_, ?_, ?_, ?_, ?_⟩⟩
          · exact (Kp2.below hbw7 (by omega) (by omega)).trans ⟨Below.heap_setCell _ _ _ _ (by simp <;> omega), Below.heap_setCell _ _ _ _ (by simp <;> omega), by simp [World.setCell]⟩
          · exact Blk.far ((hbw7.block _ (by omega)).trans hb0) (show _ ≠ _ by simp <;> omega) _
          · exact Blk.far ((hbw7.block _ (by omega)).trans hb1) (show _ ≠ _ by simp <;> omega) _
          · exact Blk.far ((hbw7.block _ (by omega)).trans hb2) (show _ ≠ _ by simp <;> omega) _
          · exact (hB.trans (hbw7.mono (by omega))).setCell (by simp <;> omega) _
          · have := hbw7.size; simp [World.setCell]; omega
  case done =>
    rintro D ys W hD hys ⟨⟨v, hv, hown, _⟩, hb0, hb1, hb2, hB, hWz⟩ hK
    have hres : cutS C B F p size ys = cutL C B F p q s size := by unfold cutS cutL; rw [hys]
    rw [hres] at hown
    have hc := hv.cell
    have e0 := hb2.cell 0
    have e1 := hb2.cell 1
    have e2 := hb2.frozen 0
    have e3 := hb2.frozen 1
    obtain ⟨A, c', rfl, hc1, hc2⟩ := own_form hown
    go_wp2_with fail
    rw [Exit.noGoto_ret]

    have k1 := (hb2.store 0 (.int .i64 s)).store 1 (.slice A (cutL C B F p q s size).length c')
    have k2 := ownsRow_setCell_below (ownsRow_setCell_below hown (a := ⟨w.heap.size + 1 + 1, 0, none⟩) (show w.heap.size + 1 + 1 < W0.heap.size by omega) (.int .i64 s)) (a := ⟨w.heap.size + 1 + 1, 1, none⟩) (show w.heap.size + 1 + 1 < W0.heap.size by omega) (.slice A (cutL C B F p q s size).length c')
    have k3 : ((W.setCell ⟨w.heap.size + 1 + 1, 0, none⟩ (.int .i64 s)).setCell ⟨w.heap.size + 1 + 1, 1, none⟩ (.slice A (cutL C B F p q s size).length c')).heap[D]? = some (.deferred (some [])) :=
      (Below.heap_setCell _ _ _ _ (by show D ≠ _; simp only []; omega)).trans ((Below.heap_setCell _ _ _ _ (by show D ≠ _; simp only []; omega)).trans hK)
    have k4 := (hB.setCell (p := ⟨w.heap.size + 1 + 1, 0, none⟩) (by show _ ≤ _; simp only []; omega) (.int .i64 s)).setCell (p := ⟨w.heap.size + 1 + 1, 1, none⟩) (by show _ ≤ _; simp only []; omega) (.slice A (cutL C B F p q s size).length c')
    generalize ((W.setCell ⟨w.heap.size + 1 + 1, 0, none⟩ (.int .i64 s)).setCell ⟨w.heap.size + 1 + 1, 1, none⟩ (.slice A (cutL C B F p q s size).length c')) = W9 at k1 k2 k3 k4 ⊢
    refine ⟨by simp, .inl ⟨_, _, rfl, run_takeDeferred k3, ?_⟩⟩
    refine ⟨_, results_cell_row (g := w.heap.size + 1 + 1) rfl _ _ 104 _ (0, 0) _ rfl ((World.putObj_heap_other (by omega)).trans k1) Try.underlying104 rfl (by kernel_rfl), ?_⟩
    refine ⟨A, c', rfl, own_less (ownsRow_putObj k2 _ k3 rfl) (by omega), k4.trans (belowK_b (w := w) (Nat.le_refl _) W9 D _ _ (by omega) k3 rfl rfl)⟩
  case stop =>
    rintro D c pre W hD hpre ⟨⟨rfl, hfull⟩, ⟨v, hv, hown, _⟩, hb0, hb1, hb2, hB, hWz⟩ hK
    have hres : cutS C B F p size pre = cutL C B F p q s size := by
      obtain ⟨r, hr⟩ := hpre
      unfold cutL
      rw [← hr, List.foldl_append]
      exact (cut_stays _ _ hfull).symm
    rw [hres] at hown
    clear hres hfull
    have hc := hv.cell
    have e0 := hb2.cell 0
    have e1 := hb2.cell 1
    have e2 := hb2.frozen 0
    have e3 := hb2.frozen 1
    obtain ⟨A, c', rfl, hc1, hc2⟩ := own_form hown
    refine (wpIn_wide (n := 9)).2 ?_
    go_wp2_with fail
    rw [Exit.noGoto_ret]

    have k1 := (hb2.store 0 (.int .i64 s)).store 1 (.slice A (cutL C B F p q s size).length c')
    have k2 := ownsRow_setCell_below (ownsRow_setCell_below hown (a := ⟨w.heap.size + 1 + 1, 0, none⟩) (show w.heap.size + 1 + 1 < W0.heap.size by omega) (.int .i64 s)) (a := ⟨w.heap.size + 1 + 1, 1, none⟩) (show w.heap.size + 1 + 1 < W0.heap.size by omega) (.slice A (cutL C B F p q s size).length c')
    have k3 : ((W.setCell ⟨w.heap.size + 1 + 1, 0, none⟩ (.int .i64 s)).setCell ⟨w.heap.size + 1 + 1, 1, none⟩ (.slice A (cutL C B F p q s size).length c')).heap[D]? = some (.deferred (some [])) :=
      (Below.heap_setCell _ _ _ _ (by show D ≠ _; simp only []; omega)).trans ((Below.heap_setCell _ _ _ _ (by show D ≠ _; simp only []; omega)).trans hK)
    have k4 := (hB.setCell (p := ⟨w.heap.size + 1 + 1, 0, none⟩) (by show _ ≤ _; simp only []; omega) (.int .i64 s)).setCell (p := ⟨w.heap.size + 1 + 1, 1, none⟩) (by show _ ≤ _; simp only []; omega) (.slice A (cutL C B F p q s size).length c')
    generalize ((W.setCell ⟨w.heap.size + 1 + 1, 0, none⟩ (.int .i64 s)).setCell ⟨w.heap.size + 1 + 1, 1, none⟩ (.slice A (cutL C B F p q s size).length c')) = W9 at k1 k2 k3 k4 ⊢
    refine ⟨by simp, .inl ⟨_, _, rfl, run_takeDeferred k3, ?_⟩⟩
    refine ⟨_, results_cell_row (g := w.heap.size + 1 + 1) rfl _ _ 104 _ (0, 0) _ rfl ((World.putObj_heap_other (by omega)).trans k1) Try.underlying104 rfl (by kernel_rfl), ?_⟩
    refine ⟨A, c', rfl, own_less (ownsRow_putObj k2 _ k3 rfl) (by omega), k4.trans (belowK_b (w := w) (Nat.le_refl _) W9 D _ _ (by omega) k3 rfl rfl)⟩

theorem cut_any (C R B F : Int) (sl : Value) (p q : Nat → Bool) (s size : Int) (w : World) (h1 : 1 ≤ C) (h2 : C ≤ 120) (h3 : 0 ≤ s) (h4 : s < C) (h7 : 0 ≤ B) (h8 : 0 ≤ F) (h9 : F < C - B) :
    Calls Try.prog 89 #[.agg (sv C R B F sl p q), .int .i64 s, .int .i64 size] w fun e w' => ∃ A c, e = .returned (.agg #[.int .i64 s, .slice A (cutL C B F p q s size).length c]) ∧ (cutL C B F p q s size).length ≤ c ∧ c ≤ maxLen ∧ Ints w' w'.heap.size A (cutL C B F p q s size) ∧ Below w.heap.size w w' :=
  (cut_own C R B F sl p q s size w h1 h2 h3 h4 h7 h8 h9).mono fun _ _ h => by
    obtain ⟨A, c, e, ho, hb⟩ := h
    obtain ⟨A', c', hv, h1, h2⟩ := own_form ho
    cases hv
    exact ⟨A, c, e, h1, h2, Ints.of_own ho, hb⟩

end Go.Proofs.Ytnjmkdgglpcfpaa
