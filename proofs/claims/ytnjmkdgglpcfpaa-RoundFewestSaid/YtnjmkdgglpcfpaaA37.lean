import Derived.Test.YtnjmkdgglpcfpaaA36
import Derived.Test.YtnjmkdgglpcfpaaA17
import Derived.Lib.RowBridge
namespace Go.Proofs.Ytnjmkdgglpcfpaa
open Go.RowKit Go.Sort

/-- what is left of a list whose neighbours are no longer the same -/
def cmpt (zs : List Int) : List Int := Lib.compact zs
theorem cmpt_len (zs : List Int) : (cmpt zs).length ≤ zs.length := Go.Lib.compact_length_le zs

theorem own_cut {w : World} {base : Nat} {A : Option Addr} {c : Nat} {l m : List Int} (h : w.ownsRow base 3 1 (.slice A (l ++ m).length c) (l ++ m).length ((l ++ m).map (Value.int .i64))) : w.ownsRow base 3 1 (.slice A l.length c) l.length (l.map (Value.int .i64)) := by
  rcases h.2 with ⟨hv, h0⟩ | ⟨g, cap, cur, hv, hb, hg, h1, h2, h3, h4⟩
  · have hl : l = [] := List.eq_nil_of_length_eq_zero (by simp at h0; simp [h0])
    rw [h0] at hv
    cases hv
    subst hl
    exact ⟨rfl, .inl ⟨rfl, rfl⟩⟩
  · cases hv
    refine ⟨by simp, .inr ⟨g, _, cur, rfl, hb, hg, by simp at h1; omega, h2, h3, ?_⟩⟩
    have h5 := congrArg (List.take l.length) h4
    rw [List.take_take, List.map_append] at h5
    simp only [Nat.mul_one] at h5 ⊢
    rw [Nat.min_eq_left (by simp)] at h5
    rw [h5, List.take_append_of_le_length (by simp)]
    rw [List.take_of_length_le (by simp)]

theorem Blk.grown {w w' : World} {g : Nat} {t : TypeId} {cs : Array Value} {row : Option Nat} (h : Blk w g t cs) (hg : w.grownBy w' row) (hne : row ≠ some g) : Blk w' g t cs := (hg.block g h.lt (fun e => hne e.symm)).trans h
theorem own_ne {w : World} {base : Nat} {e : TypeId} {size n : Nat} {v : Value} {xs : List Value} (h : w.ownsRow base e size v n xs) : v.ownBlock ≠ some w.heap.size := fun he => by have := (h.lt _ he).2; omega
theorem addr_succ (a : Addr) (i : Nat) : a.add (i + 1) = ⟨a.block, a.off + (i + 1), none⟩ := if_neg (by omega)
theorem grow_nil (w : World) : grow w #[] = w := by
  cases w
  simp [grow]
/-- slices.Compact on a slice of the call's own -/
theorem compact_own (base : Nat) (A : Option Addr) (c : Nat) (zs : List Int) (W : World) (hbase : base ≤ W.heap.size) (hlen : zs.length ≤ 1000000) (hown : W.ownsRow base 3 1 (.slice A zs.length c) zs.length (zs.map (Value.int .i64))) :
    Calls Try.prog 84 #[.slice A zs.length c] W fun e w' => ∃ A', e = .returned (.slice A' (cmpt zs).length c) ∧ w'.ownsRow base 3 1 (.slice A' (cmpt zs).length c) (cmpt zs).length ((cmpt zs).map (Value.int .i64)) ∧ Below base W w' ∧ W.grownBy w' (Value.slice A zs.length c).ownBlock := by
  by_cases hn : zs = []
  · subst hn
    refine (Try.slices_Compact_int_empty A c W).mono ?_
    rintro e w' ⟨rfl, rfl⟩
    exact ⟨A, rfl, hown, Below.refl _ _, World.grownBy.refl _ _⟩
  · rcases hown.2 with ⟨_, h0⟩ | ⟨g, cap, cur, hv, hb, hg, h1, h2, h3, h4⟩
    · exact absurd (List.eq_nil_of_length_eq_zero h0) hn
    · cases hv
      have hH := holds_of_blockI (ss := zs) hg (by simpa using h4)
      refine (Try.slices_Compact_int g 0 c zs W hH (by omega) h1).mono ?_
      rintro e w' ⟨rfl, q, rfl⟩
      have hl : (cmpt zs ++ List.replicate (zs.length - (cmpt zs).length) 0).length = zs.length := by
        have := cmpt_len zs
        simp
        omega
      obtain ⟨zz, hzz⟩ : ∃ zz, List.replicate (zs.length - (cmpt zs).length) (0 : Int) = zz := ⟨_, rfl⟩
      rw [hzz] at hl
      have ho := ownsRow_sortedI (n := q) (os := #[]) (ts := cmpt zs ++ zz) hl hb hg h1 h2 h3
      have hgr : W.grownBy (grow (putRow (Value.int .i64) (Sort.ahead W q) g 0 (cmpt zs ++ zz).toArray) #[]) (some g) := grownBy_sortedI _
      rw [grow_nil] at ho hgr
      rw [← hl] at ho
      have he : putRow (Value.int .i64) (Sort.ahead W q) g 0 (Lib.compact zs ++ List.replicate (zs.length - (Lib.compact zs).length) 0).toArray = putRow (Value.int .i64) (Sort.ahead W q) g 0 (cmpt zs ++ zz).toArray := by rw [← hzz]; rfl
      rw [he]
      exact ⟨_, rfl, own_cut ho, (Below.refl _ _).grown hgr hbase (fun j hj => by cases hj; exact hb), hgr⟩

/-- 'append(l, y)', in a region that draws its order -/
theorem wp_appI {o : Oper} {a : Act} {K : Act → World → Prop} {Q : Exit → Act → World → Prop} {w : World} (s x : Operand)
    (ho : o.op = .call { callee := .builtin .append, args := #[s, x], argTypes := #[22, 22] }) (base : Nat) (l : List Int) (y : Int) (v : Value)
    (hs : a.eval s = v) (hown : w.ownsRow base 3 1 v l.length (l.map (Value.int .i64))) (ad : Addr) (hx : a.eval x = .slice (some ad) 1 1) (hc : w.cell? ad = some (.int .i64 y)) (hl : l.length ≤ 1000000) (hbase : base ≤ w.heap.size)
    (h : ∀ A' c' w', w'.ownsRow base 3 1 (.slice A' (l ++ [y]).length c') (l ++ [y]).length ((l ++ [y]).map (Value.int .i64)) → Below base w w' → K (a.put o.dst (.slice A' (l ++ [y]).length c')) w') :
    o.wp Try.prog a w K Q := by
  obtain ⟨i0, hi, hz0, hz1, hz2⟩ := info_parts int_info
  refine wp_append_own _ s x 22 ho base 3 i0 (.int .i64 0) 1 8 Try.underlying22 hi hz0 hz1 hz2 rfl (by decide) v l.length (l.map (Value.int .i64)) hs hown ad 1 1 [.int .i64 y] hx rfl (fun j u hu => by
      match j, hu with
      | 0, hu => cases hu; exact hc) (by simp [Value.oneCell'])
    (by simp only [maxLen]; omega) (by omega) hbase ?_
  intro v' w' h1 h2 _
  have hb : Below base w w' := (Below.refl _ _).grown h2 hbase fun k hk => (hown.lt k hk).1
  have e1 : (l ++ [y]).length = l.length + 1 := by simp
  have e2 : (l ++ [y]).map (Value.int .i64) = l.map (Value.int .i64) ++ [Value.int .i64 y] := by simp
  have h1' : w'.ownsRow base 3 1 v' (l ++ [y]).length ((l ++ [y]).map (Value.int .i64)) := by rw [e1, e2]; exact h1
  obtain ⟨A', c', rfl, _, _⟩ := own_form h1'
  exact h A' c' w' h1' hb

/-- the cells of sweeps, one behind another -/
def flat (ps : List (Int × Int)) : List Value := ps.flatMap fun p => [Value.int .i64 p.1, Value.int .i64 p.2]
theorem flat_len (ps : List (Int × Int)) : (flat ps).length = ps.length * 2 := by
  induction ps with
  | nil => rfl
  | cons p ps ih => simp [flat] at ih ⊢; omega
theorem flat_snoc (ps : List (Int × Int)) (p : Int × Int) : flat (ps ++ [p]) = flat ps ++ [Value.int .i64 p.1, Value.int .i64 p.2] := by simp [flat]
theorem sweep_info : (Try.prog.info? 123).map (fun i => (i.zero, i.size, i.bytes)) = some (some (.agg #[.int .i64 0, .int .i64 0]), 2, 16) := by kernel_rfl
/-- a slice of sweeps of the call's own -/
def OwnSw (w : World) (base : Nat) (A : Option Addr) (c : Nat) (ps : List (Int × Int)) : Prop := w.ownsRow base 123 2 (.slice A ps.length c) ps.length (flat ps)
theorem wp_app2 {o : Oper} {a : Act} {K : Act → World → Prop} {Q : Exit → Act → World → Prop} {w : World} (s x : Operand)
    (ho : o.op = .call { callee := .builtin .append, args := #[s, x], argTypes := #[125, 125] }) (base : Nat) (ps : List (Int × Int)) (p : Int × Int) (A : Option Addr) (c : Nat)
    (hs : a.eval s = .slice A ps.length c) (hown : OwnSw w base A c ps) (g : Nat) (hx : a.eval x = .slice (some ⟨g, 0, none⟩) 1 1) (hg : Blk w g 123 #[.int .i64 p.1, .int .i64 p.2]) (hl : ps.length ≤ 1000000) (hbase : base ≤ w.heap.size)
    (h : ∀ A' c' w', OwnSw w' base A' c' (ps ++ [p]) → Below base w w' → K (a.put o.dst (.slice A' (ps ++ [p]).length c')) w') :
    o.wp Try.prog a w K Q := by
  obtain ⟨i0, hi, hz0, hz1, hz2⟩ := info_parts sweep_info
  refine wp_append_own _ s x 125 ho base 123 i0 (.agg #[.int .i64 0, .int .i64 0]) 2 16 Try.underlying125 hi hz0 hz1 hz2 rfl (by decide) _ ps.length (flat ps) hs hown ⟨g, 0, none⟩ 1 1 [.int .i64 p.1, .int .i64 p.2] hx rfl (fun j u hu => by
      match j, hu with
      | 0, hu => cases hu; exact hg.cell 0
      | 1, hu => cases hu; exact hg.cell 1) (by simp [Value.oneCell'])
    (by simp only [maxLen]; omega) (by omega) hbase ?_
  intro v' w' h1 h2 _
  have hb : Below base w w' := (Below.refl _ _).grown h2 hbase fun k hk => (World.ownsRow.lt hown k hk).1
  have h1' : w'.ownsRow base 123 2 v' (ps ++ [p]).length (flat (ps ++ [p])) := by rw [flat_snoc, List.length_append]; exact h1
  obtain ⟨A', c', rfl, _, _⟩ := own_form h1'
  exact h A' c' w' h1' hb

/-- how far it is to the stands, to the right -/
def waysRaw (C s : Int) (l : List Int) : List Int := 0 :: l.map fun x => (x + -s) % C
/-- the same, in order, each once, and all the way round -/
def waysOf (C s : Int) (l : List Int) : List Int := cmpt (srt (waysRaw C s l)) ++ [C]
/-- the sweeps: each leaves out one gap -/
def sweepTo (C : Int) (ws : List Int) (k : Nat) : List (Int × Int) := (List.range k).map fun i => (ws.getD i 0, C - ws.getD (i + 1) 0)
def sweepsOf (C s : Int) (l : List Int) : List (Int × Int) := sweepTo C (waysOf C s l) ((waysOf C s l).length - 1)
theorem waysRaw_snoc (C s : Int) (l : List Int) (x : Int) : waysRaw C s (l ++ [x]) = waysRaw C s l ++ [(x + -s) % C] := by simp [waysRaw]
theorem waysRaw_len (C s : Int) (l : List Int) : (waysRaw C s l).length = l.length + 1 := by simp [waysRaw]
theorem sweepTo_len (C : Int) (ws : List Int) (k : Nat) : (sweepTo C ws k).length = k := by simp [sweepTo]
theorem sweepTo_succ (C : Int) (ws : List Int) (k : Nat) : sweepTo C ws (k + 1) = sweepTo C ws k ++ [(ws.getD k 0, C - ws.getD (k + 1) 0)] := by simp [sweepTo, List.range_succ]
theorem mem_cmpt {zs : List Int} {x : Int} (h : x ∈ cmpt zs) : x ∈ zs := by
  unfold cmpt Lib.compact Lib.compactUpTo at h
  obtain ⟨j, hj, rfl⟩ := List.mem_map.1 h
  have hj' := List.mem_range.1 (List.mem_filter.1 hj).1
  rw [List.getElem!_toArray, getElem!_pos zs j hj']
  exact List.getElem_mem hj'
theorem waysOf_in {C s : Int} {l : List Int} (h : 1 ≤ C) {x : Int} (hx : x ∈ waysOf C s l) : 0 ≤ x ∧ x ≤ C := by
  rcases List.mem_append.1 hx with hx | hx
  · have h1 : x ∈ srt (waysRaw C s l) := mem_cmpt hx
    have h2 : x ∈ waysRaw C s l := by
      have : x ∈ (waysRaw C s l).mergeSort fun x y => decide (x ≤ y) := h1
      simpa using this
    rcases List.mem_cons.1 h2 with rfl | h3
    · exact ⟨Int.le_refl _, by omega⟩
    · obtain ⟨y, _, rfl⟩ := List.mem_map.1 h3
      exact ⟨Int.emod_nonneg _ (by omega), by have := Int.emod_lt_of_pos (y + -s) (b := C) (by omega); omega⟩
  · rw [List.mem_singleton.1 hx]
    exact ⟨by omega, Int.le_refl _⟩
theorem waysOf_len (C s : Int) (l : List Int) : (waysOf C s l).length ≤ l.length + 2 ∧ 1 ≤ (waysOf C s l).length := by
  have h := cmpt_len (srt (waysRaw C s l))
  rw [srt_len, waysRaw_len] at h
  simp [waysOf]
  omega

set_option maxRecDepth 100000 in
set_option maxHeartbeats 1000000 in
theorem sweeps_any (C R B F : Int) (sl : Value) (s : Int) (D : Option Addr) (dap : Nat) (l : List Int) (w : World) (h1 : 1 ≤ C) (h2 : C ≤ 120) (h3 : 0 ≤ s) (h4 : s < C) (hll : l.length ≤ 1000) (hm : ∀ x ∈ l, 0 ≤ x ∧ x < C) (hl : Ints w w.heap.size D l) :
    Calls Try.prog 101 #[.agg #[.int .i64 C, .int .i64 R, .int .i64 B, .int .i64 F, sl], .int .i64 s, .slice D l.length dap] w fun e w' => ∃ A c, e = .returned (.slice A (sweepsOf C s l).length c) ∧ OwnSw w' w.heap.size A c (sweepsOf C s l) ∧ Below w.heap.size w w' := by
  have hbk := Blk.new w 24 #[.int .i64 C, .int .i64 R, .int .i64 B, .int .i64 F, sl]
  have hb0 := below_new w (.cells #[.int .i64 C, .int .i64 R, .int .i64 B, .int .i64 F, sl] 24)
  have hw1 : IntKind.i64.wrap (-s) = -s := IntWalk.i64_in _ (by omega)
  have hM := Lib.hid hm
  generalize hsw : sweepsOf C s l = sw
  have HSW := Lib.hid hsw
  clear hm hsw
  go_enter Try.func101, Try.ntmps101
  go_wp2_with fail
  obtain ⟨w1, hw⟩ : ∃ w1, w.alloc (.cells #[.int .i64 C, .int .i64 R, .int .i64 B, .int .i64 F, sl] 24) = w1 := ⟨_, rfl⟩
  rw [hw] at hbk hb0 ⊢
  have hz1 : w1.heap.size = w.heap.size + 1 := by rw [← hw]; simp
  clear hw
  go_loopw [7, 9, 15] (fun v _ i wr => ∃ k : Nat, ∃ A c, k ≤ l.length ∧ i = .int .i64 k ∧ v = .slice A (waysRaw C s (l.take k)).length c ∧ Below w1.heap.size w1 wr ∧ wr.ownsRow w1.heap.size 3 1 (.slice A (waysRaw C s (l.take k)).length c) (waysRaw C s (l.take k)).length ((waysRaw C s (l.take k)).map (Value.int .i64)))
    (fun _ _ i _ => l.length - (intOf i).toNat)
  case atStart => exact ⟨0, _, _, Nat.zero_le _, rfl, rfl, below_new _ _, by rw [← hz1]; exact own_one w1 0⟩
  case round =>
    obtain ⟨k, A, c, hk, rfl, rfl, hb, hown⟩ := hrel
    have hbw : Below w.heap.size w wr := below_next hb0 (by omega) hb
    have hbkr := hbk.below hb hbk.lt
    obtain ⟨d0, d1, d2, d3, d4⟩ := hbkr.five
    have hzr := hb.size
    by_cases hlt : k < l.length
    · obtain ⟨ad, hD, hadb, hce⟩ := (hl.below hbw).get hlt
      subst hD
      have hlt2 : (k : Int) < (l.length : Int) := by omega
      have hx := hM.out _ (List.getElem_mem hlt)
      have HS : Hid (waysRaw C s (l.take (k + 1)) = waysRaw C s (l.take k) ++ [(l[k] + -s) % C]) := by
        unfold Hid; rw [List.take_succ_eq_append_getElem hlt, waysRaw_snoc]
      have hln : (waysRaw C s (l.take k)).length ≤ 1000000 := by rw [waysRaw_len, List.length_take]; omega
      generalize waysRaw C s (l.take k) = ws at *
      generalize l[k] = x at *
      go_wp2_with (first
        | (go_at_call 70; refine (further_any C R B F sl x (-s) _ h1 h2 (by omega) (by omega) (by omega) (by omega)).mono ?_; rintro e w2 ⟨rfl, hb2⟩)
        | (at_builtin; refine app1 (by rfl) _ _ (by rfl) w1.heap.size ws ((x + -s) % C) _ (by rfl) (own_below hown hb2) (by rfl) hln (by have := hb2.size; omega) ?_; intro A' c' w4 hown1 hb4))
      go_roundw
      case rel => exact ⟨k + 1, A', c', by omega, by go_num, by rw [HS.out]; simp, (below_next hb hzr hb2).trans hb4, by rw [HS.out]; exact hown1⟩
      case measure => simp [intOf]; try omega
    · have ek : l.take k = l := List.take_of_length_le (by omega)
      rw [ek] at hown ⊢
      clear ek
      have hsrt : Hid (waysOf C s l = cmpt (srt (waysRaw C s l)) ++ [C] ∧ (srt (waysRaw C s l)).length = (waysRaw C s l).length) := ⟨rfl, srt_len _⟩
      have hWin : Hid (∀ x ∈ waysOf C s l, 0 ≤ x ∧ x ≤ C) := fun x hx => waysOf_in h1 hx
      have hWl := waysOf_len C s l
      have hrl : (waysRaw C s l).length ≤ 1001 := by rw [waysRaw_len]; omega
      have hSW : Hid (sw = sweepTo C (waysOf C s l) ((waysOf C s l).length - 1)) := HSW.out.symm
      clear HSW
      generalize waysOf C s l = ws at *
      generalize waysRaw C s l = ra at *
      go_wp2_with (first
        | (go_at_call 71; refine (sort_any.out w1.heap.size A c ra _ (by omega) (by omega) hown).mono ?_; rintro e w2 ⟨rfl, hown2, hb2⟩))
      have hbk2 := hbkr.below hb2 (by have := hbk.lt; omega)
      have hc0 : w2.cell? ⟨w.heap.size, 0, none⟩ = some (.int .i64 C) := hbk2.cell 0
      have hz2 := hb2.size
      have hbw2 : Below w1.heap.size w1 w2 := hb.trans hb2
      obtain ⟨hso', hsl⟩ := hsrt.out
      have hso := Lib.hid hso'
      clear hown d0 d1 d2 d3 d4 hsrt hso'
      have hcl := cmpt_len (srt ra)
      rw [← hsl] at hown2 ⊢
      have hsr : (srt ra).length ≤ 1001 := by omega
      clear hsl
      generalize srt ra = sr at *
      have hltk : w.heap.size < w1.heap.size := hbk.lt
      go_region_held3 (fun w' => w'.cell? ⟨w.heap.size, 0, none⟩ = some (.int .i64 C)) (first | exact K2 | exact K1 | exact hc0 | go_keep)
        (first
          | (go_at_call 84; refine (compact_own w1.heap.size A c sr _ (by simp; omega) (by omega) (by first | with_reducible exact hown2.drew | with_reducible exact (hown2.alloc _).drew)).mono ?_; rintro e w3 ⟨A3, rfl, hown3, hb3, hg3⟩; have K1 : w3.cell? ⟨w.heap.size, 0, none⟩ = some (.int .i64 C) := (hb3.cell (p := ⟨w.heap.size, 0, none⟩) hltk).trans (by first | exact hc0 | go_keep))
          | (rw [if_pos (by rfl)]; refine wp_appI _ _ (by rfl) w1.heap.size (cmpt sr) C (.slice A3 (cmpt sr).length c) (by rfl) (by first | with_reducible exact hown3 | with_reducible exact hown3.alloc _) ⟨_, 0, none⟩ (by rfl) (by first | exact (Blk.new w3 3 #[.int .i64 C]).cell 0 | exact ((show Blk (w2.alloc (.cells #[.int .i64 C] 3)).drew w2.heap.size 3 #[.int .i64 C] from Blk.new w2 3 _).grown hg3 (own_ne hown2)).cell 0) (by omega) (by have := hb3.size; simp at this ⊢; omega) ?_; intro A5 c5 w5 hown5 hb5; have hbT : Below w1.heap.size w2 w5 := (by first | exact (((Below.refl _ _).drew.trans hb3).alloc (by have := hb3.size; simp at this; omega) _).trans hb5 | exact ((((Below.refl _ _).alloc (by omega) _).drew).trans hb3).trans hb5); have K2 : w5.cell? ⟨w.heap.size, 0, none⟩ = some (.int .i64 C) := (hbT.cell (p := ⟨w.heap.size, 0, none⟩) hltk).trans hc0))
      all_goals (
        have hz5 : w1.heap.size ≤ w5.heap.size := by have := hbT.size; omega
        have hbx : Below w.heap.size w w5 := below_next hb0 (by omega) (hbw2.trans hbT)
        have hbk5 := (hbk2.below hbT hltk)
        obtain ⟨z1, z2, hI⟩ := own_facts hown5
        rw [← hso.out] at hI
        have hWn : Hid (ws.length = (cmpt sr).length + 1) := by unfold Hid; rw [hso.out]; simp
        have hnn : (cmpt sr).length ≤ 1001 := by omega
        clear hb3 hb5 hg3 hown3 hbT K1 K2 hown5 z1 z2 hown2 hcl hsr hWl
        go_wp2_with fail
        clear hso
        obtain ⟨vv, hvv⟩ : ∃ vv, (cmpt sr ++ [C]).length = vv := ⟨_, rfl⟩
        rw [hvv]
        clear hvv
        generalize (cmpt sr).length = n at *
        go_loopw [10, 11, 39] (fun v _ i w6 => ∃ k : Nat, ∃ A c, k ≤ n ∧ i = .int .i64 k ∧ v = .slice A (sweepTo C ws k).length c ∧ Below w5.heap.size w5 w6 ∧ OwnSw w6 w5.heap.size A c (sweepTo C ws k))
          (fun _ _ i _ => n - (intOf i).toNat)
        case atStart => exact ⟨0, none, 0, Nat.zero_le _, rfl, rfl, Below.refl _ _, World.ownsRow_nil _ _ _ _⟩
        case round =>
          obtain ⟨i, A6, c6, hi, rfl, rfl, hb6, hown6⟩ := hrel
          have hby : Below w.heap.size w wr := below_next hbx hbx.size hb6
          have hbk6 := hbk5.below hb6 hbk5.lt
          have hz6 := hb6.size
          by_cases hin : i < n
          · have hin2 : (i : Int) < (n : Int) := by omega
            have hin3 : (i : Int) < (n : Int) + 1 := by omega
            have hin4 : (i : Int) + 1 < (n : Int) + 1 := by omega
            have hin5 : (0 : Int) ≤ (i : Int) + 1 := by omega
            have hwi : IntKind.i64.wrap ((i : Int) + 1) = (i : Int) + 1 := IntWalk.i64_in _ (by omega)
            have htn : ((i : Int) + 1).toNat = i + 1 := by omega
            have hi1 : i < ws.length := by rw [hWn.out]; omega
            have hi2 : i + 1 < ws.length := by rw [hWn.out]; omega
            obtain ⟨ad, hA, hadb, hcx⟩ := (hI.below hb6).get hi1
            obtain ⟨ad', hA', hadb', hcy⟩ := (hI.below hb6).get hi2
            subst hA
            cases hA'
            have hx := hWin.out _ (List.getElem_mem hi1)
            have hy := hWin.out _ (List.getElem_mem hi2)
            have HS : Hid (sweepTo C ws (i + 1) = sweepTo C ws i ++ [(ws[i], C - ws[i + 1])]) := by
              unfold Hid
              rw [sweepTo_succ]
              simp [List.getD, hi1, hi2]
            have hsl := sweepTo_len C ws i
            have hsl2 : (sweepTo C ws i).length ≤ 1000000 := by omega
            clear hsl
            generalize ws[i] = x at *
            generalize ws[i + 1] = y at *
            generalize sweepTo C ws i = st at *
            rw [addr_succ] at hcy
            have d0 : wr.cell? ⟨w.heap.size, 0, none⟩ = some (.int .i64 C) := hbk6.cell 0
            have hSA : ∀ o : Obj, (wr.alloc o).cell? ⟨w.heap.size, 0, none⟩ = some (.int .i64 C) ∧ (wr.alloc o).cell? (ad.add i) = some (.int .i64 x) ∧ (wr.alloc o).cell? ⟨ad.block, ad.off + (i + 1), none⟩ = some (.int .i64 y) := fun o => ⟨(World.cell?_alloc_lt _ _ _ (World.block_lt_of_cell? _ _ d0)).trans d0, (World.cell?_alloc_lt _ _ _ (World.block_lt_of_cell? _ _ hcx)).trans hcx, (World.cell?_alloc_lt _ _ _ (World.block_lt_of_cell? _ _ hcy)).trans hcy⟩
            have HSA := Lib.hid hSA
            clear hSA
            have hlt5 : w.heap.size < w5.heap.size := by omega
            have hwc : IntKind.i64.wrap (C - y) = C - y := IntWalk.i64_in _ (by omega)
            go_wp2_with fail
            go_region_held3 (fun w' => w'.cell? ⟨w.heap.size, 0, none⟩ = some (.int .i64 C) ∧ w'.cell? (ad.add i) = some (.int .i64 x) ∧ w'.cell? ⟨ad.block, ad.off + (i + 1), none⟩ = some (.int .i64 y)) (first | exact K2 | exact HSA.out _ | exact ⟨d0, hcx, hcy⟩)
              (first
                | (rw [if_pos (by rfl)]; refine wp_app2 _ _ (by rfl) w5.heap.size st (x, C - y) A6 c6 (by rfl) (World.ownsRow.alloc hown6 _) wr.heap.size (by rfl) (show Blk (wr.alloc (.cells #[.int .i64 x, .int .i64 (C - y)] 123)).drew wr.heap.size 123 #[.int .i64 x, .int .i64 (C - y)] from Blk.new wr 123 _) hsl2 (by simp; omega) ?_; intro A7 c7 w7 hown7 hb7; have hb8 : Below w5.heap.size wr w7 := (((Below.refl _ _).alloc (by omega) _).drew).trans hb7; have K2 : w7.cell? ⟨w.heap.size, 0, none⟩ = some (.int .i64 C) ∧ w7.cell? (ad.add i) = some (.int .i64 x) ∧ w7.cell? ⟨ad.block, ad.off + (i + 1), none⟩ = some (.int .i64 y) := ⟨(hb8.cell (p := ⟨w.heap.size, 0, none⟩) hlt5).trans d0, (hb8.cell (p := ad.add i) (by rw [addr_block]; exact hadb)).trans hcx, (hb8.cell (p := ⟨ad.block, ad.off + (i + 1), none⟩) hadb).trans hcy⟩))
            go_wp2_with fail
            go_roundw
            case rel => exact ⟨i + 1, A7, c7, by omega, by go_num, by rw [HS.out]; simp, hb6.trans hb8, by rw [HS.out]; exact hown7⟩
            case measure => simp [intOf]; try omega
          · obtain rfl : i = n := by omega
            have hin3 : ¬ (i : Int) < (i : Int) := by omega
            have hfin : Hid (sw = sweepTo C ws i) := by unfold Hid; rw [hSW.out, hWn.out]; rfl
            go_wp2_with fail
            go_ret
            rw [hfin.out]
            exact ⟨A6, c6, rfl, own_less hown6 (by omega), hby⟩)

end Go.Proofs.Ytnjmkdgglpcfpaa
