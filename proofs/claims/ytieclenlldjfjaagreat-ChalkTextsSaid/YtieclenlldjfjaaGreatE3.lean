import Derived.Test.YtieclenlldjfjaaGreatE2
import Derived.Laws.CopyRow
import Derived.Laws.Rows
set_option autoImplicit false
set_option linter.unusedVariables false
set_option linter.unusedSimpArgs false
namespace Go.Proofs.YtieclenlldjfjaaGreat.Ev
open Go

/-! ## Results of the abstract steps, inverted -/
theorem Re.no_ne {v : Value} {st : St} : (Re.no : Re) ≠ .ok v st := by intro h; cases h
theorem Re.ok_inj {v v' : Value} {st st' : St} (h : Re.ok v st = .ok v' st') : v = v' ∧ st = st' := by cases h; exact ⟨rfl, rfl⟩

theorem cellsK_ok {β : Type} {o : AObj} {no : β} {f : Nat → Nat → Nat → Bool → Bt → β} {r : β} (h : cellsK o no f = r) (hne : no ≠ r) :
    ∃ d n es ex t, o = .cells d n es ex t ∧ f d n es ex t = r := by
  cases o with
  | cells d n es ex t => exact ⟨d, n, es, ex, t, rfl, h⟩
  | map _ _ => exact absurd h hne
  | loop _ _ _ _ _ _ _ _ => exact absurd h hne
  | deferred => exact absurd h hne
  | dead => exact absurd h hne

theorem ptrK_ok {β : Type} {v : Value} {no : β} {f : Nat → Nat → β} {r : β} (h : ptrK v no f = r) (hne : no ≠ r) : ∃ a, v = .pointer (some a) ∧ f a.block a.off = r := by
  unfold ptrK at h
  split at h
  · rename_i a; exact ⟨a, rfl, h⟩
  · exact absurd h hne

theorem natK_ok {β : Type} {v : Value} {no : β} {f : Nat → β} {r : β} (h : natK v no f = r) (hne : no ≠ r) : ∃ k i, v = .int k (.ofNat i) ∧ f i = r := by
  unfold natK at h
  split at h
  · rename_i k i; exact ⟨k, i, rfl, h⟩
  · exact absurd h hne

/-! ## Types -/
section
variable {P : Program}

theorem run_isAgg {t : TypeId} {d : TypeDesc} (h : P.underlying t = some d) (w : World) :
    (isAgg t).run P w = .ok (match d with | .struct _ | .array _ _ => true | _ => false) w := by
  unfold isAgg
  rw [Sem.run_bind, run_underlying h, Result.andThen_ok]
  cases d <;> rfl

theorem run_sizeOf {t : TypeId} {i : TypeInfo} (h : P.info? t = some i) (w : World) : (sizeOf t).run P w = .ok i.size w := by
  simp [sizeOf, typeInfo, h]

theorem tySize_some {t : TypeId} {k : Nat} (h : tySize P t = some k) : ∃ i, P.info? t = some i ∧ i.size = k := by
  unfold tySize at h
  cases hi : P.info? t with
  | none => rw [hi] at h; cases h
  | some i => rw [hi] at h; exact ⟨i, rfl, by simpa using h⟩

theorem run_sizeOf' {t : TypeId} {k : Nat} (h : tySize P t = some k) (w : World) : (sizeOf t).run P w = .ok k w := by
  obtain ⟨i, hi, hk⟩ := tySize_some h
  rw [run_sizeOf hi, hk]

theorem tyOf_agg {t : TypeId} {k : Nat} (h : tyOf P t = .agg k) : (∀ w, (isAgg t).run P w = .ok true w) ∧ (∀ w, (sizeOf t).run P w = .ok k w) := by
  unfold tyOf at h
  split at h
  · rename_i d i h1 h2; cases h; exact ⟨fun w => by rw [run_isAgg h1], fun w => run_sizeOf h2 w⟩
  · rename_i d i h1 h2; cases h; exact ⟨fun w => by rw [run_isAgg h1], fun w => run_sizeOf h2 w⟩
  · rename_i d i h1 h2 _ _
    have hb := bsel_ne h (by simp)
    cases hb.2
  · cases h

theorem tyOf_one {t : TypeId} (h : tyOf P t = .one) : (∀ w, (isAgg t).run P w = .ok false w) ∧ (∀ w, (sizeOf t).run P w = .ok 1 w) := by
  unfold tyOf at h
  split at h
  · cases h
  · cases h
  · rename_i d i hn1 hn2 h1 h2
    have hb := bsel_ne h (by simp)
    refine ⟨fun w => ?_, fun w => by rw [run_sizeOf h2, beq_iff.1 hb.1]⟩
    rw [run_isAgg h1]
    cases d <;> first | rfl | (exfalso; simp_all; done)
  · cases h

/-! ## Rows of memory -/
theorem Rel.at {σ : Nm} {st : St} {w : World} (h : Rel σ st w) {nm : Nat} {k : Blk} (hk : σ nm = some k) {o : AObj} (ho : st.obj nm = o) (hne : o ≠ .dead) :
    Alive st nm ∧ OR σ k w o := by
  have ha : Alive st nm := by unfold Alive; rw [ho]; exact hne
  obtain ⟨k', h1, h2⟩ := h.obj nm ha
  rw [hk] at h1; cases h1
  exact ⟨ha, ho ▸ h2⟩

theorem Rel.name {σ : Nm} {st : St} {w : World} (h : Rel σ st w) {nm : Nat} {o : AObj} (ho : st.obj nm = o) (hne : o ≠ .dead) :
    ∃ k, σ nm = some k ∧ Alive st nm ∧ OR σ k w o := by
  have ha : Alive st nm := by unfold Alive; rw [ho]; exact hne
  obtain ⟨k, h1, h2⟩ := h.obj nm ha
  exact ⟨k, h1, ha, ho ▸ h2⟩

theorem cell_row {w : World} {b : Nat} {c : List Value} {e : TypeId} {fr : Nat × Nat} (h : w.heap[b]? = some (.cells ⟨c⟩ e fr)) (i : Nat) : w.cell? ⟨b, i, none⟩ = c[i]? := by
  simp [World.cell?, h]

/-- The list of what lies from a place on. -/
theorem seg_rel {σ : Nm} {k : Blk} {n : Nat} {ls c : List Value} (h : VRL σ (ls.take n) ((c.drop k.o).take n)) {off m : Nat} (hm : off + m ≤ n) :
    VRL σ ((ls.drop off).take m) ((c.drop (k.o + off)).take m) := by
  have := (h.drop off).take m
  rw [List.drop_take, List.drop_take, List.take_take, List.take_take, List.drop_drop] at this
  have e : min m (n - off) = m := by omega
  rw [e] at this
  exact this

theorem add_place (b o j : Nat) : (⟨b, o, none⟩ : Addr).add j = ⟨b, o + j, none⟩ := by
  unfold Addr.add; split <;> simp_all

theorem load_seg {w : World} {b o m : Nat} {c : List Value} {e : TypeId} {fr : Nat × Nat} (h : w.heap[b]? = some (.cells ⟨c⟩ e fr)) (hm : o + m ≤ c.length) :
    (loadCells ⟨b, o, none⟩ m).run P w = .ok ⟨(c.drop o).take m⟩ w := by
  have hl : ((c.drop o).take m).length = m := by simp; omega
  have := run_loadCells_list (P := P) w ⟨b, o, none⟩ ((c.drop o).take m) (fun j v hj => by
    rw [add_place, cell_row h]
    rw [List.getElem?_take] at hj
    split at hj
    · rw [List.getElem?_drop] at hj; exact hj
    · cases hj)
  rw [hl] at this
  exact this

theorem loadK_ok {σ : Nm} {st st' : St} {w : World} {t : TypeId} {nm off : Nat} {v : Value} (h : loadK (tyOf P t) nm off st = .ok v st') (hr : Rel σ st w) {k : Blk} (hk : σ nm = some k) :
    st' = st ∧ ∃ v', (loadVar t ⟨k.b, k.o + off, none⟩).run P w = .ok v' w ∧ VR σ v v' := by
  unfold loadK at h
  obtain ⟨d, n, es, ex, tr, ho, h⟩ := cellsK_ok h Re.no_ne
  obtain ⟨ha, h1, h2, h3, h4, h0, c, e, h5, h6, h7, h8⟩ := hr.at hk ho (by simp)
  have hlen := Bt.perf_len h3
  cases hty : tyOf P t with
  | no => rw [hty] at h; exact absurd h Re.no_ne
  | agg kk =>
    rw [hty] at h
    obtain ⟨hb, h⟩ := bsel_ne h Re.no_ne
    have hb : off + kk ≤ n := ble_iff.1 hb
    obtain ⟨rfl, rfl⟩ := Re.ok_inj h
    obtain ⟨ha, hs⟩ := tyOf_agg hty
    refine ⟨rfl, .agg ⟨(c.drop (k.o + off)).take kk⟩, ?_, ?_⟩
    · unfold loadVar
      simp only [Sem.run_bind, ha, hs, Result.andThen_ok, if_true]
      rw [load_seg h5 (by omega)]
      rfl
    · have hh := seg_rel h8 (off := off) (m := kk) hb
      rw [Bt.sub_eq h3, List.append_nil]
      have e1 : Nat.add off kk - off = kk := by show off + kk - off = kk; omega
      rw [e1]
      refine .agg _ _ (fun u hu => h0 u ?_) hh.1 hh.2
      have hu1 := List.mem_of_mem_take hu
      obtain ⟨i, hi⟩ := List.getElem?_of_mem hu
      rw [List.getElem?_take] at hi
      split at hi
      · rw [List.getElem?_drop] at hi
        exact List.mem_of_getElem? (i := off + i) (by rw [List.getElem?_take, if_pos (by omega)]; exact hi)
      · cases hi
  | one =>
    rw [hty] at h
    obtain ⟨hb, h⟩ := bsel_ne h Re.no_ne
    have hb : off + 1 ≤ n := ble_iff.1 hb
    obtain ⟨rfl, rfl⟩ := Re.ok_inj h
    obtain ⟨ha, hs⟩ := tyOf_one hty
    have hg := Bt.get_eq h3 (i := off) (by omega)
    obtain ⟨v', hv1, hv2⟩ := h8.get (i := off) (u := Bt.get (pathM d off) tr) (by rw [List.getElem?_take, if_pos (by omega)]; exact hg.symm)
    rw [List.getElem?_take, if_pos (by omega), List.getElem?_drop] at hv1
    refine ⟨rfl, v', ?_, hv2⟩
    unfold loadVar
    simp only [Sem.run_bind, ha, Result.andThen_ok]
    simp [run_load, cell_row h5, hv1]

/-! ## Stores -/
theorem setRow_at {w : World} {b : Nat} {c : List Value} {e : TypeId} (h : w.heap[b]? = some (.cells ⟨c⟩ e (0, 0))) (cs : Array Value) :
    (w.setRow b cs).heap[b]? = some (.cells cs e (0, 0)) ∧ (∀ x, x ≠ b → (w.setRow b cs).heap[x]? = w.heap[x]?) ∧ (w.setRow b cs).heap.size = w.heap.size := by
  refine ⟨setRow_heap w b ⟨c⟩ cs e (0, 0) h, fun x hx => ?_, by simp [World.setRow]⟩
  simp [World.setRow, Array.getElem?_modify, Ne.symm hx]

/-- Cells are written over: what lies there then. -/
theorem over_rel {σ : Nm} {k : Blk} {n d : Nat} {t : Bt} {c xs ys : List Value} (h3 : t.perf d) (hn : n ≤ 2 ^ d) (h7 : k.o + n ≤ c.length) (h8 : VRL σ (t.leaves.take n) ((c.drop k.o).take n)) {off : Nat}
    (hx : VRL σ xs ys) (hm : off + xs.length ≤ n) :
    VRL σ ((Bt.put t (half d) off xs).leaves.take n) (((c.take (k.o + off) ++ ys ++ c.drop (k.o + off + ys.length)).drop k.o).take n) := by
  have hl := Bt.perf_len h3
  have e := (Bt.put_perf (lo := off) (xs := xs) h3).2
  have hlx : xs.take (2 ^ d - off) = xs := List.take_of_length_le (by omega)
  rw [e, hlx]
  have a1 : VRL σ (t.leaves.take off) ((c.drop k.o).take off) := by
    have := h8.take off
    rwa [List.take_take, List.take_take, Nat.min_eq_left (by omega)] at this
  have a2 : VRL σ ((t.leaves.drop (off + xs.length)).take (n - (off + xs.length))) ((c.drop (k.o + off + ys.length)).take (n - (off + xs.length))) := by
    have := seg_rel h8 (off := off + xs.length) (m := n - (off + xs.length)) (by omega)
    rw [hx.1] at this ⊢
    rw [show k.o + (off + ys.length) = k.o + off + ys.length by omega] at this
    exact this
  have b1 : (t.leaves.take off ++ xs ++ t.leaves.drop (off + xs.length)).take n = t.leaves.take off ++ xs ++ (t.leaves.drop (off + xs.length)).take (n - (off + xs.length)) := by
    rw [List.take_append, List.take_of_length_le (by simp; omega)]
    congr 2
    simp; omega
  have b2 : ((c.take (k.o + off) ++ ys ++ c.drop (k.o + off + ys.length)).drop k.o).take n = (c.drop k.o).take off ++ ys ++ (c.drop (k.o + off + ys.length)).take (n - (off + xs.length)) := by
    have c1 : (c.take (k.o + off) ++ ys ++ c.drop (k.o + off + ys.length)).drop k.o = (c.drop k.o).take off ++ ys ++ c.drop (k.o + off + ys.length) := by
      rw [List.append_assoc, List.drop_append_of_le_length (by simp; omega), List.drop_take, List.append_assoc]
      congr 2
      omega
    rw [c1, List.take_append, List.take_of_length_le (by simp; have := hx.1; omega)]
    congr 2
    have := hx.1
    simp; omega
  rw [b1, b2]
  exact (a1.append hx).append a2

theorem one_over {n d : Nat} {t : Bt} {xs : List Value} (h3 : t.perf d) {off : Nat} (h0 : ∀ u, u ∈ t.leaves.take n → u.oneCell' = true) (hx : ∀ u, u ∈ xs → u.oneCell' = true) (hm : off + xs.length ≤ n) (hn : n ≤ 2 ^ d) :
    ∀ u, u ∈ (Bt.put t (half d) off xs).leaves.take n → u.oneCell' = true := by
  intro u hu
  have e := (Bt.put_perf (lo := off) (xs := xs) h3).2
  rw [e] at hu
  obtain ⟨i, hi⟩ := List.getElem?_of_mem hu
  rw [List.getElem?_take] at hi
  split at hi
  · rename_i hin
    have hl := Bt.perf_len h3
    by_cases c1 : i < off
    · rw [List.append_assoc, List.getElem?_append_left (by simp; omega), List.getElem?_take, if_pos c1] at hi
      exact h0 u (List.mem_of_getElem? (i := i) (by rw [List.getElem?_take, if_pos hin]; exact hi))
    · by_cases c2 : i < off + xs.length
      · rw [List.append_assoc, List.getElem?_append_right (by simp; omega), List.getElem?_append_left (by simp; omega), List.getElem?_take] at hi
        split at hi
        · exact hx u (List.mem_of_getElem? hi)
        · cases hi
      · rw [List.getElem?_append_right (by simp; omega), List.getElem?_drop] at hi
        refine h0 u (List.mem_of_getElem? (i := i) ?_)
        rw [List.getElem?_take, if_pos hin, ← hi]
        congr 1
        simp; omega
  · cases hi

/-- Cells of a name written over, in both states. -/
theorem Rel.over {σ : Nm} {st : St} {w : World} (hr : Rel σ st w) {nm : Nat} {k : Blk} (hk : σ nm = some k) {d n es : Nat} {ex : Bool} {t : Bt} (ho : st.obj nm = .cells d n es ex t) {off : Nat} {xs ys : List Value}
    (hx : VRL σ xs ys) (h1 : ∀ u, u ∈ xs → u.oneCell' = true) (hm : off + xs.length ≤ n) {t' : Bt} (ht' : t.perf d → t'.perf d ∧ t'.leaves = (Bt.put t (half d) off xs).leaves) :
    ∃ w', (storeCells ⟨k.b, k.o + off, none⟩ ys).run P w = .ok () w' ∧ Rel σ (st.setObj nm (.cells d n es ex t')) w' ∧ Ext σ st w σ (st.setObj nm (.cells d n es ex t')) w' := by
  obtain ⟨ha, g1, g2, g3, g4, g0, c, e, g5, g6, g7, g8⟩ := hr.at hk ho (by simp)
  have hy1 : ∀ v, v ∈ ys → v.oneCell' = true := by
    intro v hv
    obtain ⟨i, hi⟩ := List.getElem?_of_mem hv
    have hil : i < xs.length := by
      have := hx.1
      rcases Nat.lt_or_ge i ys.length with h' | h'
      · omega
      · rw [List.getElem?_eq_none h'] at hi; cases hi
    have := hx.2 i xs[i] v (by simp [hil]) hi
    rw [← this.one]
    exact h1 _ (List.getElem_mem hil)
  have hst := run_storeCells_at P k.b (k.o + off) e ys 0 ⟨c⟩ w g5 (by have := hx.1; show k.o + off + 0 + ys.length ≤ c.length; omega) hy1
  simp only [Nat.add_zero] at hst
  obtain ⟨s1, s2, s3⟩ := setRow_at g5 (c.take (k.o + off) ++ ys ++ c.drop (k.o + off + ys.length)).toArray
  have hlen : (c.take (k.o + off) ++ ys ++ c.drop (k.o + off + ys.length)).length = c.length := by
    have := hx.1
    simp; omega
  refine ⟨_, hst, ?_⟩
  exact hr.upd ha hk s3 s2 ⟨g1, g2, (ht' g3).1, g4, by rw [(ht' g3).2]; exact one_over g3 g0 h1 hm g4, _, e, s1, by rw [hlen]; exact g6, g7, by rw [(ht' g3).2]; exact over_rel g3 g4 (by omega) g8 hx hm⟩ rfl rfl rfl

theorem VRL.one {σ : Nm} {u v : Value} (h : VR σ u v) : VRL σ [u] [v] := .cons h .nil

theorem put_one {d i : Nat} {t : Bt} {v : Value} (h : t.perf d) (hi : i < 2 ^ d) : (Bt.put t (half d) i [v]).leaves = (Bt.set v (pathM d i) t).leaves := by
  have hl := Bt.perf_len h
  rw [(Bt.put_perf h).2, (Bt.set_perf h).2 hi, List.take_of_length_le (l := [v]) (by simp; omega)]
  simp only [List.length_singleton]
  rw [List.set_eq_take_append_cons_drop, if_pos (by omega), List.append_assoc]
  rfl

theorem storeK_ok {σ : Nm} {st st' : St} {w : World} {t : TypeId} {nm off : Nat} {v v' r : Value} (h : storeK (tyOf P t) nm off v st = .ok r st') (hr : Rel σ st w) {k : Blk} (hk : σ nm = some k) (hv : VR σ v v') :
    r = junk ∧ ∃ w', (storeVar t ⟨k.b, k.o + off, none⟩ v').run P w = .ok () w' ∧ Rel σ st' w' ∧ Ext σ st w σ st' w' := by
  unfold storeK at h
  obtain ⟨d, n, es, ex, tr, ho, h⟩ := cellsK_ok h Re.no_ne
  obtain ⟨ha, h1, h2, h3, h4, h0, c, e, h5, h6, h7, h8⟩ := hr.at hk ho (by simp)
  cases hty : tyOf P t with
  | no => rw [hty] at h; exact absurd h Re.no_ne
  | agg kk =>
    rw [hty] at h
    obtain ⟨ha, hs⟩ := tyOf_agg hty
    cases hv with
    | agg as as' g0 g1 g2 =>
      obtain ⟨hb, h⟩ := bsel_ne h Re.no_ne
      obtain ⟨hb2, h⟩ := bsel_ne h Re.no_ne
      obtain ⟨rfl, rfl⟩ := Re.ok_inj h
      have hb : as.length = kk := by have := beq_iff.1 hb; rwa [lenL_eq] at this
      have hb2 : off + kk ≤ n := ble_iff.1 hb2
      obtain ⟨w', s1, s2⟩ := hr.over (P := P) hk ho (off := off) (xs := as) (ys := as') ⟨g1, g2⟩ g0 (by omega) (fun hp => ⟨(Bt.put_perf hp).1, rfl⟩)
      refine ⟨rfl, w', ?_, s2⟩
      unfold storeVar
      simp only [Sem.run_bind, hs, Result.andThen_ok, Value.cells]
      have : as'.length = kk := by omega
      simp [this, s1]
    | _ => exact absurd h Re.no_ne
  | one =>
    rw [hty] at h
    obtain ⟨ha, hs⟩ := tyOf_one hty
    have key : v.oneCell' = true ∧ v'.cells = #[v'] ∧ off + 1 ≤ n ∧ r = junk ∧ st' = st.setObj nm (.cells d n es ex (Bt.set v (pathM d off) tr)) := by
      cases hv with
      | agg => exact absurd h Re.no_ne
      | tuple => exact absurd h Re.no_ne
      | _ =>
        obtain ⟨hb, h⟩ := bsel_ne h Re.no_ne
        obtain ⟨rfl, rfl⟩ := Re.ok_inj h
        exact ⟨rfl, rfl, ble_iff.1 hb, rfl, rfl⟩
    obtain ⟨k1, k2, k3, rfl, rfl⟩ := key
    obtain ⟨w', s1, s2⟩ := hr.over (P := P) hk ho (off := off) (xs := [v]) (ys := [v']) (.one hv) (by simp [k1]) (by simpa using k3) (t' := Bt.set v (pathM d off) tr)
      (fun hp => ⟨(Bt.set_perf hp).1, (put_one hp (by omega)).symm⟩)
    refine ⟨rfl, w', ?_, s2⟩
    unfold storeVar
    simp only [Sem.run_bind, hs, Result.andThen_ok, k2]
    simp [s1]
end
end Go.Proofs.YtieclenlldjfjaaGreat.Ev
