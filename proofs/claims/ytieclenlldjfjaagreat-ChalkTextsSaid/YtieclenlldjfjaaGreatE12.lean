import Derived.Test.YtieclenlldjfjaaGreatE11
import Derived.Deep.AppendSrc
set_option autoImplicit false
set_option linter.unusedVariables false
set_option linter.unusedSimpArgs false
namespace Go.Proofs.YtieclenlldjfjaaGreat.Ev
open Go
section
variable {P : Program} {σ : Nm} {st st' : St} {w : World}

def overL (xs : List Value) (k : Nat) (ys : List Value) : List Value := xs.take k ++ ys ++ xs.drop (k + ys.length)

theorem overL_len {xs ys : List Value} {k : Nat} (h : k + ys.length ≤ xs.length) : (overL xs k ys).length = xs.length := by
  unfold overL; simp; omega

theorem spliceL_eq : ∀ {xs ys zs : List Value} {k : Nat}, k + ys.length ≤ xs.length → spliceL xs k ys = some zs → zs = overL xs k ys
  | xs, [], zs, k, _, h => by
    have : spliceL xs k [] = some xs := by cases xs <;> rfl
    rw [this] at h; cases h
    unfold overL; simp
  | [], y :: ys, zs, k, hk, h => by simp at hk
  | x :: xs, y :: ys, zs, 0, hk, h => by
    have h : (spliceL xs 0 ys).map (y :: ·) = some zs := h
    cases hr : spliceL xs 0 ys with
    | none => rw [hr] at h; cases h
    | some u =>
      rw [hr] at h; cases h
      rw [spliceL_eq (by simp at hk ⊢; omega) hr]
      simp [overL]
  | x :: xs, y :: ys, zs, k + 1, hk, h => by
    have h : (spliceL xs k (y :: ys)).map (x :: ·) = some zs := h
    cases hr : spliceL xs k (y :: ys) with
    | none => rw [hr] at h; cases h
    | some u =>
      rw [hr] at h; cases h
      rw [spliceL_eq (by simp at hk ⊢; omega) hr]
      simp [overL, show k + 1 + (ys.length + 1) = (k + (ys.length + 1)) + 1 by omega]

theorem fold_over : ∀ (ys : List Value) (off j : Nat) (cells : Array Value), off + j + ys.length ≤ cells.size →
    (ys.zipIdx j).foldl (fun cs (q : Value × Nat) => cs.setIfInBounds (off + q.2) q.1) cells = ⟨overL cells.toList (off + j) ys⟩
  | [], off, j, cells, h => by simp [overL]
  | y :: ys, off, j, cells, h => by
    rw [List.zipIdx_cons, List.foldl_cons, fold_over ys off (j + 1) _ (by simp at h ⊢; omega)]
    congr 1
    have hlt : off + j < cells.toList.length := by simp at h ⊢; omega
    simp only [overL, Array.toList_setIfInBounds, List.length_cons]
    have e1 : (cells.toList.set (off + j) y).take (off + (j + 1)) = cells.toList.take (off + j) ++ [y] := by
      rw [List.set_eq_take_append_cons_drop, if_pos hlt, List.take_append, List.take_of_length_le (by simp; omega)]
      congr 1
      have : off + (j + 1) - (List.take (off + j) cells.toList).length = 1 := by simp at hlt ⊢; omega
      rw [this]; rfl
    have e2 : (cells.toList.set (off + j) y).drop (off + (j + 1) + ys.length) = cells.toList.drop (off + j + (ys.length + 1)) := by
      rw [List.drop_set]
      rw [if_pos (by omega)]
      congr 1; omega
    rw [e1, e2]
    simp

theorem VRL.over {xs xs' ys ys' : List Value} (h : VRL σ xs xs') (k : Nat) (h' : VRL σ ys ys') : VRL σ (overL xs k ys) (overL xs' k ys') := by
  unfold overL
  rw [← h'.1]
  exact ((h.take k).append h').append (h.drop _)

/-- Parts, one by one. -/
def PR (σ : Nm) (ps ps' : List (Nat × Value)) : Prop := ps.map (·.1) = ps'.map (·.1) ∧ VRL σ (ps.map (·.2)) (ps'.map (·.2))

theorem fillL_ok {place place' : Nat → Option (Nat × Nat)} (hp : ∀ i q, place i = some q → place' i = some q) : ∀ {ps ps' : List (Nat × Value)} {cells cells' out : List Value},
    fillL place cells ps = some out → PR σ ps ps' → VRL σ cells cells' → (∀ u, u ∈ cells → u.oneCell' = true) →
    ∃ out', Instr.fill place' ⟨cells'⟩ ps' = some ⟨out'⟩ ∧ VRL σ out out' ∧ (∀ u, u ∈ out → u.oneCell' = true)
  | [], [], cells, cells', out, h, _, hc, h1 => by
    cases h
    exact ⟨cells', rfl, hc, h1⟩
  | [], _ :: _, cells, cells', out, h, hps, hc, h1 => by have := hps.1; simp at this
  | _ :: _, [], cells, cells', out, h, hps, hc, h1 => by have := hps.1; simp at this
  | (i, v) :: ps, (i', v') :: ps', cells, cells', out, h, hps, hc, h1 => by
    have e1 := hps.1
    simp only [List.map_cons, List.cons.injEq] at e1
    obtain ⟨rfl, e1⟩ := e1
    obtain ⟨b, bs, e2, hv, hvs⟩ := hps.2.cons_inv
    cases e2
    have h : (osel (place i) none fun q => osel (cellsO v) none fun ys => bsel (Nat.beq (lenL ys) q.2) (bsel (Nat.ble (Nat.add q.1 q.2) (lenL cells)) (
      osel (spliceL cells q.1 ys) none fun cells' => fillL place cells' ps) none) none) = some out := h
    obtain ⟨q, hq, h⟩ := osel_ne h (by simp)
    obtain ⟨ys, hy, h⟩ := osel_ne h (by simp)
    obtain ⟨hb, h⟩ := bsel_ne h (by simp)
    obtain ⟨hb2, h⟩ := bsel_ne h (by simp)
    obtain ⟨zs, hz, h⟩ := osel_ne h (by simp)
    obtain ⟨g1, g2⟩ := cellsO_ok hy hv
    have hb : ys.length = q.2 := by have := beq_iff.1 hb; rwa [lenL_eq] at this
    have hb2 : q.1 + q.2 ≤ cells.length := by have := ble_iff.1 hb2; rwa [lenL_eq] at this
    have hz := spliceL_eq (by omega) hz
    subst hz
    have hl := g1.1
    have hcl := hc.1
    obtain ⟨out', o1, o2, o3⟩ := fillL_ok hp (cells' := overL cells' q.1 v'.cells.toList) h ⟨e1, hvs⟩ (hc.over q.1 g1) (fun u hu => by
      unfold overL at hu
      simp only [List.mem_append] at hu
      rcases hu with (hu | hu) | hu
      · exact h1 u (List.mem_of_mem_take hu)
      · exact g2 u hu
      · exact h1 u (List.mem_of_mem_drop hu))
    refine ⟨out', ?_, o2, o3⟩
    show (match place' i with
      | none => none
      | some (off, size) =>
        if v'.cells.size ≠ size || off + v'.cells.size > (⟨cells'⟩ : Array Value).size then none
        else Instr.fill place' (v'.cells.zipIdx.foldl (fun cs (c, j) => cs.setIfInBounds (off + j) c) ⟨cells'⟩) ps') = _
    rw [hp i q hq]
    obtain ⟨off, size⟩ := q
    simp only at hb hb2 o1 ⊢
    have hsz : v'.cells.size = size := by rw [← Array.length_toList, ← hl, hb]
    have hno : ¬ (off + size > cells'.length) := by omega
    rw [hsz]
    simp only [ne_eq, not_true, decide_false, Bool.false_or, List.size_toArray, decide_eq_true_eq, hno, if_false, gt_iff_lt]
    rw [if_neg (by simp)]
    rw [← o1]
    congr 1
    have := fold_over v'.cells.toList off 0 ⟨cells'⟩ (by simp only [Array.length_toList, hsz, List.size_toArray]; show off + 0 + size ≤ cells'.length; omega)
    rw [← Array.foldl_toList, Array.toList_zipIdx]
    exact this

theorem nthP_eq (xs : List (Nat × Nat)) : ∀ i, nthP xs i = xs[i]? := by
  induction xs with
  | nil => intro i; rfl
  | cons x xs ih => intro i; cases i with | zero => rfl | succ i => exact ih i

theorem placesOf_ok : ∀ {fs : List Field} {pl : List (Nat × Nat)}, placesOf P fs = some pl → ∀ w, (fs.mapM (m := Sem) fun f => do pure (f.offset, ← sizeOf f.type)).run P w = .ok pl w
  | [], pl, h, w => by cases h; rfl
  | f :: fs, pl, h, w => by
    have h : (osel (tySize P f.type) none fun k => osel (placesOf P fs) none fun l => some ((f.offset, k) :: l)) = some pl := h
    obtain ⟨k, hk, h⟩ := osel_ne h (by simp)
    obtain ⟨l, hl, h⟩ := osel_ne h (by simp)
    cases h
    have ih := placesOf_ok hl w
    rw [List.mapM_cons]
    simp only [Sem.run_bind, run_sizeOf' hk, Result.andThen_ok, Sem.run_pure, ih]

theorem build_ok {t : TypeId} {ps ps' : List (Nat × Value)} {v : Value} (h : buildA (blOf P t) ps = some v) (hp : PR σ ps ps') : Gives P (Instr.build t ⟨ps'⟩) σ w v := by
  cases hb : blOf P t with
  | no => rw [hb] at h; cases h
  | str z pl =>
    rw [hb] at h
    unfold blOf at hb
    obtain ⟨z', hz, hb⟩ := osel_ne hb (by simp)
    split at hb
    · rename_i fs hu
      obtain ⟨pl', hpl, hb⟩ := osel_ne hb (by simp)
      cases hb
      obtain ⟨l, hl, h⟩ := osel_ne h (by simp)
      cases h
      obtain ⟨zv, z1, z2, z3⟩ := zeroL_ok hz
      obtain ⟨out', o1, o2, o3⟩ := fillL_ok (place' := fun i => (⟨pl⟩ : Array (Nat × Nat))[i]?) (fun i q hq => by rw [nthP_eq] at hq; simpa using hq) hl hp (VRL.flat z3) (flat_one z3)
      refine ⟨.agg ⟨out'⟩, ?_, .agg _ _ o3 o2.1 o2.2⟩
      unfold Instr.build
      have hm : (fs.mapM (m := Sem) fun f => do pure (f.offset, ← sizeOf f.type)).run P w = .ok ⟨pl⟩ w := by
        rw [Array.mapM_eq_mapM_toList]
        show (List.mapM (m := Sem) (fun (f : Field) => do pure (f.offset, ← sizeOf f.type)) fs.toList >>= fun l => pure l.toArray).run P w = _
        rw [Sem.run_bind, placesOf_ok hpl w]
        rfl
      simp only [Sem.run_bind, run_zeroValue z1, Result.andThen_ok, run_underlying hu, z2, Sem.run_pure, hm, o1]
    · obtain ⟨k, hk, hb⟩ := osel_ne hb (by simp)
      cases hb
    · cases hb
  | arr z k =>
    rw [hb] at h
    unfold blOf at hb
    obtain ⟨z', hz, hb⟩ := osel_ne hb (by simp)
    split at hb
    · obtain ⟨pl', hpl, hb⟩ := osel_ne hb (by simp)
      cases hb
    · rename_i n e hu
      obtain ⟨k', hk, hb⟩ := osel_ne hb (by simp)
      cases hb
      obtain ⟨l, hl, h⟩ := osel_ne h (by simp)
      cases h
      obtain ⟨zv, z1, z2, z3⟩ := zeroL_ok hz
      obtain ⟨out', o1, o2, o3⟩ := fillL_ok (place' := fun i => some (i * k, k)) (fun i q hq => hq) hl hp (VRL.flat z3) (flat_one z3)
      refine ⟨.agg ⟨out'⟩, ?_, .agg _ _ o3 o2.1 o2.2⟩
      unfold Instr.build
      simp only [Sem.run_bind, run_zeroValue z1, Result.andThen_ok, run_underlying hu, z2, Sem.run_pure, run_sizeOf' hk, o1]
    · cases hb

theorem repL_len (z : List Value) : ∀ n, (repL z n).length = n * z.length
  | 0 => by simp [repL]
  | n + 1 => by rw [repL, List.length_append, repL_len z n, Nat.succ_mul]; omega

theorem repL_get (z : List Value) : ∀ n i, i < n * z.length → (repL z n)[i]? = z[i % z.length]?
  | 0, i, h => by omega
  | n + 1, i, h => by
    rw [repL]
    by_cases hc : i < z.length
    · rw [List.getElem?_append_left hc, Nat.mod_eq_of_lt hc]
    · rw [List.getElem?_append_right (by omega), repL_get z n (i - z.length) (by rw [Nat.succ_mul] at h; omega)]
      rw [Nat.mod_eq_sub_mod (by omega : i ≥ z.length)]

theorem rep_eq (z : List Value) (n : Nat) : (Array.range (n * z.length)).map (fun i => (⟨z⟩ : Array Value)[i % z.length]!) = ⟨repL z n⟩ := by
  apply Array.ext'
  apply List.ext_getElem?
  intro i
  by_cases hi : i < n * z.length
  · rw [repL_get z n i hi]
    have hz : 0 < z.length := by rcases Nat.eq_zero_or_pos z.length with h | h; rw [h] at hi; omega; exact h
    have hm := Nat.mod_lt i hz
    simp [hi, hm]
  · rw [List.getElem?_eq_none (by simp; omega), List.getElem?_eq_none (by rw [repL_len]; omega)]

theorem repL_flat {z : List Value} (h : z.all flat = true) : ∀ n, (repL z n).all flat = true
  | 0 => rfl
  | n + 1 => by rw [repL, List.all_append, h, repL_flat h n]; rfl

theorem mkOf_ok {t : TypeId} {k : Nat} {z : List Value} {b : Bool} (h : mkOf P t = .mk k z b) : ∃ e, P.underlying t = some (.slice e) ∧ tySize P e = some k ∧ zeroL P e = some z ∧ z.length = k ∧ b = smallB P e := by
  unfold mkOf at h
  split at h
  · rename_i e hu
    obtain ⟨k', hk, h⟩ := osel_ne h (by simp)
    obtain ⟨z', hz, h⟩ := osel_ne h (by simp)
    obtain ⟨hb, h⟩ := bsel_ne h (by simp)
    cases h
    exact ⟨e, hu, hk, hz, by have := beq_iff.1 hb; rwa [lenL_eq] at this, rfl⟩
  · cases h

/-- A slice of a new row. -/
theorem newSlice_ok {k n m : Nat} {l l' : List Value} {e : TypeId} {v : Value} (h : allK (rowOf l k true) (fun nm => .slice (some ⟨nm, 0, none⟩) n m) st = .ok v st') (hr : Rel σ st w)
    (hl : VRL σ l l') (h1 : ∀ u, u ∈ l → u.oneCell' = true) (hnm : n ≤ m) :
    Does P (do pure (.value (.slice (some (← newRow e ⟨l'⟩)) n m))) σ st w v st' := by
  obtain ⟨rfl, rfl, hlt⟩ := allK_ok h
  have hll : l'.take l.length = l' := List.take_of_length_le (by rw [hl.1]; exact Nat.le_refl _)
  obtain ⟨σ', s1, s2, s3⟩ := hr.newRow hlt (c := l') (xs := l) (by rw [hll]; exact hl) h1 e k true
  refine ⟨σ', _, .slice (some ⟨w.heap.size, 0, none⟩) n m, .inl ?_, ?_, s2, s3⟩
  · simp [newRow]
  · exact .slice st.next 0 n m m _ s1 hnm (fun _ => rfl) (fun h => by cases h)

theorem buildSlice_ok {t : TypeId} {n : Nat} {ps ps' : List (Nat × Value)} {v : Value} (h : buildSliceA (mkOf P t) n ps st = .ok v st') (hr : Rel σ st w) (hp : PR σ ps ps') :
    Does P (do pure (.value (← Instr.buildSlice t n ⟨ps'⟩))) σ st w v st' := by
  cases hm : mkOf P t with
  | no => rw [hm] at h; cases h
  | mk k z b =>
    rw [hm] at h
    obtain ⟨e, hu, hk, hz, hzl, rfl⟩ := mkOf_ok hm
    obtain ⟨hb, h⟩ := bsel_ne h Re.no_ne
    obtain ⟨l, hl, h⟩ := osel_ne h Re.no_ne
    have hb : n * k ≤ 4096 := ble_iff.1 hb
    obtain ⟨zv, z1, z2, z3⟩ := zeroL_ok hz
    have hf := repL_flat z3 n
    obtain ⟨out', o1, o2, o3⟩ := fillL_ok (place' := fun i => some (i * k, k)) (fun i q hq => hq) hl hp (VRL.flat hf) (flat_one hf)
    obtain ⟨σ', w', v', h1, h2⟩ := newSlice_ok (P := P) (e := e) h hr o2 o3 (Nat.le_refl n)
    refine ⟨σ', w', v', ?_, h2⟩
    have e' : ((do pure (.value (← Instr.buildSlice t n ⟨ps'⟩))) : Sem Next).run P w = ((do pure (.value (.slice (some (← newRow e ⟨out'⟩)) n n))) : Sem Next).run P w := by
      unfold Instr.buildSlice
      have hno : ¬ (n * k > 2 ^ 24) := by omega
      by_cases h0 : n * k = 0
      · have hr0 : repL z n = [] := List.eq_nil_of_length_eq_zero (by rw [repL_len, hzl]; exact h0)
        rw [hr0] at o1
        simp only [Sem.run_bind, run_underlying hu, Result.andThen_ok, run_sizeOf' hk, if_neg hno, if_pos h0, Sem.run_pure, h0]
        have e0 : ∀ f : Nat → Value, (Array.range 0).map f = ⟨[]⟩ := fun f => by simp
        simp only [e0, o1, Sem.run_bind, Result.andThen_ok, Sem.run_pure]
        simp [newRow]
      · simp only [Sem.run_bind, run_underlying hu, Result.andThen_ok, run_sizeOf' hk, if_neg hno, if_neg h0, Sem.run_pure, run_zeroValue z1, z2]
        have hsz : (⟨z⟩ : Array Value).size = z.length := rfl
        rw [hsz, ← hzl, rep_eq, hzl]
        simp only [o1, Sem.run_bind, Result.andThen_ok, Sem.run_pure]
        simp [newRow]
    rw [e']; exact h1
end
end Go.Proofs.YtieclenlldjfjaaGreat.Ev
