import Derived.Test.YtieclenlldjfjaaGreatE9
import Derived.Deep.AppendSrc
import Derived.RangeFuncLeaves
import Derived.TacticsIn
set_option autoImplicit false
set_option linter.unusedVariables false
set_option linter.unusedSimpArgs false
namespace Go.Proofs.YtieclenlldjfjaaGreat.Ev
open Go
section
variable {P : Program} {σ : Nm} {st st' : St} {w : World}

theorem mapK_ok {β : Type} {o : AObj} {no : β} {f : List MapEntry → Nat → β} {r : β} (h : mapK o no f = r) (hne : no ≠ r) : ∃ es clock, o = .map es clock ∧ f es clock = r := by
  cases o with
  | map es clock => exact ⟨es, clock, rfl, h⟩
  | _ => exact absurd h hne

theorem mpOf_ok {t : TypeId} {agg : Bool} {ks : List Nat} {z : Value} (h : mpOf P t = .mk agg ks z) : ∃ kt e, P.underlying t = some (.map kt e) ∧ flatKs P 20 kt = some ks ∧ agg = isAggT P kt ∧ zeroV P e = some z := by
  unfold mpOf at h
  split at h
  · rename_i kt e hu
    obtain ⟨ks', hk, h⟩ := osel_ne h (by simp)
    obtain ⟨z', hz, h⟩ := osel_ne h (by simp)
    cases h
    exact ⟨kt, e, hu, hk, rfl, hz⟩
  · cases h

theorem run_getObj_map {r : Nat} {es : Array MapEntry} {clock : Nat} (h : w.heap[r]? = some (.map es clock)) : (getObj r).run P w = .ok (.map es clock) w := by
  simp [getObj, Sem.run, h]

theorem run_setObj_map {r : Nat} {es : Array MapEntry} {clock : Nat} (h : w.heap[r]? = some (.map es clock)) (o : Obj) : (setObj r o).run P w = .ok () { w with heap := w.heap.setIfInBounds r o } := by
  simp [setObj, Sem.run, h]

theorem okV_rel {ok : Bool} {v v' : Value} (h : VR σ v v') (b : Bool) : VR σ (okV ok v b) (if ok then .tuple #[v', .bool b] else v') := by
  cases ok
  · exact h
  · exact VRL.two h (.bool b)

theorem keyCheck {kt : TypeId} {ks : List Nat} (hks : flatKs P 20 kt = some ks) {k k' : Value} (hk : VR σ k k') {xs : List Value} (h : keyCells (isAggT P kt) ks k = some xs) (em : Bool) (w : World) :
    (Instr.checkKey em 10000 kt k').run P w = .ok () w := by
  obtain ⟨xs', _, x2⟩ := keyCells_ok h hk
  rw [isAggT_ok hks x2]
  exact run_checkKey_flat em 20 kt ks hks 10000 (by omega) xs' w x2.1

theorem lookupK_ok {t : TypeId} {x x' k k' v : Value} {ok : Bool} (h : lookupK (mpOf P t) x k ok st = some v) (hr : Rel σ st w) (hx : VR σ x x') (hk : VR σ k k') :
    Gives P (Instr.lookup t x' k' ok) σ w v := by
  cases hm : mpOf P t with
  | no => rw [hm] at h; cases h
  | mk agg ks z =>
    rw [hm] at h
    obtain ⟨kt, e, hu, hks, rfl, hz⟩ := mpOf_ok hm
    have h : (osel (keyCells (isAggT P kt) ks k) none fun _ =>
      match x with
      | .map none => some (okV ok z false)
      | .map (some r) => mapK (st.obj r) none fun es _ => osel (findA (isAggT P kt) ks k es 0) none fun q => osel q (some (okV ok z false)) fun p => some (okV ok p.2.val true)
      | _ => none) = some v := h
    obtain ⟨xs, hxs, h⟩ := osel_ne h (by simp)
    obtain ⟨z1, z2⟩ := zeroV_ok (σ := σ) hz
    have hck := fun em => keyCheck hks hk hxs em w
    cases hx with
    | nilmap =>
      cases h
      refine ⟨_, ?_, okV_rel z2 false⟩
      unfold Instr.lookup
      simp only [Sem.run_bind, run_underlying hu, Result.andThen_ok, Sem.run_pure, hck]
      have : (Instr.findKey kt k' (#[] : Array MapEntry).toList).run P w = .ok none w := run_findKey hks hk (es := []) (es' := []) (r := none) rfl ⟨rfl, fun i e e' he => by simp at he⟩ ⟨xs, hxs⟩
      simp only [this, Result.andThen_ok, Sem.run_bind, z1, Sem.run_pure]
    | map nm kk hkk =>
      obtain ⟨es, clock, ho, h⟩ := mapK_ok h (by simp)
      obtain ⟨q, hq, h⟩ := osel_ne h (by simp)
      obtain ⟨ha, es', g1, g2⟩ := hr.at hkk ho (by simp)
      have hf := run_findKey (w := w) hks hk hq g2 ⟨xs, hxs⟩
      cases q with
      | none =>
        cases h
        refine ⟨_, ?_, okV_rel z2 false⟩
        unfold Instr.lookup
        simp only [Sem.run_bind, run_underlying hu, Result.andThen_ok, Sem.run_pure, run_getObj_map g1, hck]
        simp only [hf, Result.andThen_ok, Sem.run_bind, z1, Sem.run_pure]
      | some p =>
        obtain ⟨j, en⟩ := p
        obtain ⟨en', f1, f2, f3, f4, f5⟩ := hf
        cases h
        have he : ER σ en en' := g2.2 j en en' f1 f2
        refine ⟨_, ?_, okV_rel he.2.1 true⟩
        unfold Instr.lookup
        simp only [Sem.run_bind, run_underlying hu, Result.andThen_ok, Sem.run_pure, run_getObj_map g1, hck]
        simp only [f4, Result.andThen_ok, Sem.run_bind, Sem.run_pure]
    | _ => cases h

theorem setNth_eq (e : MapEntry) : ∀ (es : List MapEntry) (i : Nat), setNth e es i = es.set i e
  | [], i => rfl
  | x :: es, 0 => rfl
  | x :: es, i + 1 => by show x :: setNth e es i = _; rw [setNth_eq e es i]; rfl

theorem ERL.set {es es' : List MapEntry} (h : ERL σ es es') (i : Nat) {e e' : MapEntry} (he : ER σ e e') : ERL σ (es.set i e) (es'.set i e') := by
  refine ⟨by simp [h.1], fun j a b ha hb => ?_⟩
  rw [List.getElem?_set] at ha hb
  by_cases hij : i = j
  · rw [if_pos hij] at ha hb
    split at ha
    · split at hb
      · cases ha; cases hb; exact he
      · cases hb
    · cases ha
  · rw [if_neg hij] at ha hb
    exact h.2 j a b ha hb

theorem ERL.push {es es' : List MapEntry} (h : ERL σ es es') {e e' : MapEntry} (he : ER σ e e') : ERL σ (es ++ [e]) (es' ++ [e']) := by
  refine ⟨by simp [h.1], fun j a b ha hb => ?_⟩
  by_cases hj : j < es.length
  · rw [List.getElem?_append_left hj] at ha
    rw [List.getElem?_append_left (by rw [← h.1]; exact hj)] at hb
    exact h.2 j a b ha hb
  · rw [List.getElem?_append_right (by omega)] at ha
    rw [List.getElem?_append_right (by rw [← h.1]; omega), ← h.1] at hb
    cases hjj : j - es.length with
    | zero => rw [hjj] at ha hb; cases ha; cases hb; exact he
    | succ n => rw [hjj] at ha; cases ha

/-- A map written, in both states. -/
theorem Rel.setMap (hr : Rel σ st w) {nm : Nat} {k : Blk} (hk : σ nm = some k) {es : List MapEntry} {clock : Nat} (ho : st.obj nm = .map es clock) {es1 es2 : List MapEntry} {clock' : Nat} (he : ERL σ es1 es2) :
    Rel σ (st.setObj nm (.map es1 clock')) { w with heap := w.heap.setIfInBounds k.b (.map ⟨es2⟩ clock') } ∧ Ext σ st w σ (st.setObj nm (.map es1 clock')) { w with heap := w.heap.setIfInBounds k.b (.map ⟨es2⟩ clock') } := by
  obtain ⟨ha, es', g1, g2⟩ := hr.at hk ho (by simp)
  have hb := hr.bound nm k hk
  refine hr.upd ha hk (by simp) (fun b hb => by simp [Array.getElem?_setIfInBounds_ne (Ne.symm hb)]) ⟨es2, by simp [hb], he⟩ rfl rfl rfl

theorem mapSetK_ok {t : TypeId} {x x' k k' v v' : Value} (h : mapSetK (mpOf P t) x k v st = some st') (hr : Rel σ st w) (hx : VR σ x x') (hk : VR σ k k') (hv : VR σ v v') :
    ∃ w', (Instr.mapUpdate t x' k' v').run P w = .ok () w' ∧ Rel σ st' w' ∧ Ext σ st w σ st' w' := by
  cases hm : mpOf P t with
  | no => rw [hm] at h; cases h
  | mk agg ks z =>
    rw [hm] at h
    obtain ⟨kt, e, hu, hks, rfl, hz⟩ := mpOf_ok hm
    have h : (osel (keyCells (isAggT P kt) ks k) none fun _ =>
      match x with
      | .map (some r) => mapK (st.obj r) none fun es clock => osel (findA (isAggT P kt) ks k es 0) none fun q =>
          osel q (some (st.setObj r (.map (es ++ [{ key := k, val := v, born := clock }]) (clock + 1)))) fun p => some (st.setObj r (.map (setNth { key := k, val := v, born := p.2.born } es p.1) clock))
      | _ => none) = some st' := h
    obtain ⟨xs, hxs, h⟩ := osel_ne h (by simp)
    have hck := fun em => keyCheck hks hk hxs em w
    cases hx with
    | map nm kk hkk =>
      obtain ⟨es, clock, ho, h⟩ := mapK_ok h (by simp)
      obtain ⟨q, hq, h⟩ := osel_ne h (by simp)
      obtain ⟨ha, es', g1, g2⟩ := hr.at hkk ho (by simp)
      have hf := run_findKey (w := w) hks hk hq g2 ⟨xs, hxs⟩
      cases q with
      | none =>
        cases h
        refine ⟨_, ?_, hr.setMap hkk ho (g2.push (e := { key := k, val := v, born := clock }) (e' := { key := k', val := v', born := clock }) ⟨hk, hv, rfl⟩)⟩
        unfold Instr.mapUpdate
        simp only [Sem.run_bind, run_underlying hu, Result.andThen_ok, run_getObj_map g1, hck, hf]
        rw [run_setObj_map g1]
        simp
      | some p =>
        obtain ⟨j, en⟩ := p
        obtain ⟨en', f1, f2, f3, f4, f5⟩ := hf
        cases h
        have he : ER σ en en' := g2.2 j en en' f1 f2
        rw [setNth_eq]
        refine ⟨_, ?_, hr.setMap hkk ho (g2.set j (e := { key := k, val := v, born := en.born }) (e' := { key := k', val := v', born := en'.born }) ⟨hk, hv, he.2.2⟩)⟩
        unfold Instr.mapUpdate
        simp only [Sem.run_bind, run_underlying hu, Result.andThen_ok, run_getObj_map g1, hck, f4]
        have hkey : ((⟨es'⟩ : Array MapEntry)[j]?.map (·.key)).getD k' = en'.key := by simp [f2]
        simp only [hkey, Instr.keyThatStays, f5, if_true, Sem.run_pure, Result.andThen_ok]
        rw [run_setObj_map g1]
        congr 4
        apply Array.ext'
        apply List.ext_getElem?
        intro i
        simp only [Array.toList_modify, List.getElem?_modify, List.getElem?_set]
        by_cases hij : j = i
        · subst hij
          simp [f2]
          have := (List.getElem?_eq_some_iff.1 f2).1
          simp [this]
        · simp [hij]
    | _ => cases h
end
end Go.Proofs.YtieclenlldjfjaaGreat.Ev

set_option autoImplicit false
set_option linter.unusedVariables false
set_option linter.unusedSimpArgs false
namespace Go.Proofs.YtieclenlldjfjaaGreat.Ev
open Go
section
variable {P : Program} {σ : Nm} {st st' : St} {w : World}

theorem mapEntryK_ok {t : TypeId} {x x' k k' v : Value} (h : mapEntryK (mpOf P t) x k st = .ok v st') (hr : Rel σ st w) (hx : VR σ x x') (hk : VR σ k k') :
    ∃ w' v', (Instr.mapEntry t x' k').run P w = .ok v' w' ∧ VR σ v v' ∧ Rel σ st' w' ∧ Ext σ st w σ st' w' := by
  cases hm : mpOf P t with
  | no => rw [hm] at h; cases h
  | mk agg ks z =>
    rw [hm] at h
    obtain ⟨kt, e, hu, hks, rfl, hz⟩ := mpOf_ok hm
    have h : (osel (keyCells (isAggT P kt) ks k) .no fun _ =>
      match (generalizing := false) x with
      | .map (some r) => mapK (st.obj r) .no fun es clock => osel (findA (isAggT P kt) ks k es 0) .no fun q =>
          osel q (.ok (.tuple ⟨[z, .int .i64 (.ofNat clock)]⟩) (st.setObj r (.map (es ++ [{ key := k, val := z, born := clock }]) (clock + 1))))
            fun p => .ok (.tuple ⟨[p.2.val, .int .i64 (.ofNat p.2.born)]⟩) (st.setObj r (.map (setNth { key := k, val := p.2.val, born := p.2.born } es p.1) clock))
      | _ => .no) = Re.ok v st' := h
    obtain ⟨xs, hxs, h⟩ := osel_ne h Re.no_ne
    obtain ⟨z1, z2⟩ := zeroV_ok (σ := σ) hz
    have hck := fun em => keyCheck hks hk hxs em w
    cases hx with
    | map nm kk hkk =>
      obtain ⟨es, clock, ho, h⟩ := mapK_ok h Re.no_ne
      obtain ⟨q, hq, h⟩ := osel_ne h Re.no_ne
      obtain ⟨ha, es', g1, g2⟩ := hr.at hkk ho (by simp)
      have hf := run_findKey (w := w) hks hk hq g2 ⟨xs, hxs⟩
      cases q with
      | none =>
        obtain ⟨rfl, rfl⟩ := Re.ok_inj h
        refine ⟨_, _, ?_, VRL.two z2 (.int .i64 clock), hr.setMap hkk ho (g2.push (e := { key := k, val := z, born := clock }) (e' := { key := k', val := z, born := clock }) ⟨hk, z2, rfl⟩)⟩
        unfold Instr.mapEntry
        simp only [Sem.run_bind, run_underlying hu, Result.andThen_ok, run_getObj_map g1, hck, hf, z1]
        rw [run_setObj_map g1]
        simp [goInt]
      | some p =>
        obtain ⟨j, en⟩ := p
        obtain ⟨en', f1, f2, f3, f4, f5⟩ := hf
        obtain ⟨rfl, rfl⟩ := Re.ok_inj h
        have he : ER σ en en' := g2.2 j en en' f1 f2
        rw [setNth_eq]
        refine ⟨_, _, ?_, VRL.two he.2.1 (by rw [he.2.2]; exact VR.int (σ := σ) .i64 (Int.ofNat en'.born)), hr.setMap hkk ho (g2.set j (e := { key := k, val := en.val, born := en.born }) (e' := { key := k', val := en'.val, born := en'.born }) ⟨hk, he.2.1, he.2.2⟩)⟩
        unfold Instr.mapEntry
        simp only [Sem.run_bind, run_underlying hu, Result.andThen_ok, run_getObj_map g1, hck, f4]
        have hkey : ((⟨es'⟩ : Array MapEntry)[j]?.map (·.key)).getD k' = en'.key := by simp [f2]
        have hborn : ((⟨es'⟩ : Array MapEntry)[j]?.map (·.born)).getD 0 = en'.born := by simp [f2]
        simp only [hkey, hborn, Instr.keyThatStays, f5, if_true, Sem.run_pure, Result.andThen_ok]
        rw [run_setObj_map g1]
        have : (⟨es'⟩ : Array MapEntry).modify j (fun e => { e with key := k' }) = ⟨es'.set j { key := k', val := en'.val, born := en'.born }⟩ := by
          apply Array.ext'
          apply List.ext_getElem?
          intro i
          simp only [Array.toList_modify, List.getElem?_modify, List.getElem?_set]
          by_cases hij : j = i
          · subst hij
            obtain ⟨hj, hje⟩ := List.getElem?_eq_some_iff.1 f2
            simp [hj, hje]
          · simp [hij]
        rw [this]
        simp [goInt, f2, he.2.2]
    | _ => cases h

theorem bornAt_ok {n : Int} {v v' : Value} (hv : VR σ v v') : ∀ {es es' es2 : List MapEntry}, bornAt n v es = some es2 → ERL σ es es' →
    ∃ i, es'.findIdx? (fun e => (e.born : Int) == n) = some i ∧ ERL σ es2 (es'.modify i fun e => { e with val := v' })
  | [], es', es2, h, _ => by cases h
  | e :: es, [], es2, h, hl => by have := hl.1; simp at this
  | e :: es, e' :: es', es2, h, hl => by
    have h : bsel (iEq (e.born : Int) n) (some ({ e with val := v } :: es)) ((bornAt n v es).map (e :: ·)) = some es2 := h
    have he : ER σ e e' := hl.2 0 e e' rfl rfl
    have hls : ERL σ es es' := ⟨by have := hl.1; simpa using this, fun i a b ha hb => hl.2 (i + 1) a b (by simpa using ha) (by simpa using hb)⟩
    have hbb := he.2.2
    rw [iEq_eq, bsel_eq, hbb] at h
    by_cases hb : ((e'.born : Int) == n) = true
    · rw [if_pos hb] at h
      cases h
      refine ⟨0, by rw [List.findIdx?_cons, hb]; rfl, by simp [hls.1], fun i a b ha hb => ?_⟩
      cases i with
      | zero => simp at ha hb; subst ha; subst hb; exact ⟨he.1, hv, rfl⟩
      | succ i => exact hls.2 i a b (by simpa using ha) (by simpa using hb)
    · rw [if_neg hb] at h
      cases hr : bornAt n v es with
      | none => rw [hr] at h; cases h
      | some es3 =>
        rw [hr] at h
        cases h
        obtain ⟨i, h1, h2⟩ := bornAt_ok hv hr hls
        refine ⟨i + 1, by rw [List.findIdx?_cons, Bool.eq_false_iff.2 hb]; simp [h1], by simp [h2.1], fun j a b ha hb => ?_⟩
        cases j with
        | zero => simp at ha hb; subst ha; subst hb; exact he
        | succ j => exact h2.2 j a b (by simpa using ha) (by simpa using hb)

theorem entryStoreK_ok {t : TypeId} {m m' s s' v v' : Value} (h : entryStoreK m s v st = some st') (hr : Rel σ st w) (hm : VR σ m m') (hs : VR σ s s') (hv : VR σ v v') :
    ∃ w', (Instr.entryStore t m' s' v').run P w = .ok () w' ∧ Rel σ st' w' ∧ Ext σ st w σ st' w' := by
  unfold entryStoreK at h
  split at h
  · rename_i r _ n
    cases hm with
    | map nm kk hkk =>
      have := int_inv hs
      subst this
      obtain ⟨es, clock, ho, h⟩ := mapK_ok h (by simp)
      obtain ⟨es2, hb, h⟩ := osel_ne h (by simp)
      cases h
      obtain ⟨ha, es', g1, g2⟩ := hr.at hkk ho (by simp)
      obtain ⟨i, h1, h2⟩ := bornAt_ok hv hb g2
      refine ⟨_, ?_, hr.setMap hkk ho h2⟩
      unfold Instr.entryStore
      simp only [Sem.run_bind, run_getObj_map g1, Result.andThen_ok, asInt, asIntOf, Sem.run_pure, List.findIdx?_toArray, h1]
      rw [run_setObj_map g1]
      simp
  · cases h

/-- A new object of no cells. -/
theorem makeMap_ok {t : TypeId} {v : Value} (h : allK (.map [] 0) (fun nm => .map (some nm)) st = .ok v st') (hr : Rel σ st w) :
    Does P (do pure (.value (← Instr.makeMap t none))) σ st w v st' := by
  obtain ⟨rfl, rfl, hlt⟩ := allK_ok h
  obtain ⟨σ', s1, s2, s3⟩ := hr.new (o := .map [] 0) (ob := .map #[] 0) hlt (k := ⟨w.heap.size, 0, 0, 0, false⟩) rfl fun τ w' hs ht hw => ⟨[], hw, rfl, fun i e e' he => by simp at he⟩
  exact ⟨σ', _, _, .inl (by simp [Instr.makeMap, newObj]; rfl), .map _ _ s1, s2, s3⟩
end
end Go.Proofs.YtieclenlldjfjaaGreat.Ev

set_option autoImplicit false
set_option linter.unusedVariables false
set_option linter.unusedSimpArgs false
namespace Go.Proofs.YtieclenlldjfjaaGreat.Ev
open Go
section
variable {P : Program} {σ : Nm} {st st' : St} {w : World}

def overL (xs : List Value) (k : Nat) (ys : List Value) : List Value := xs.take k ++ ys ++ xs.drop (k + ys.length)

theorem overL_len {xs ys : List Value} {k : Nat} (h : k + ys.length ≤ xs.length) : (overL xs k ys).length = xs.length := by
  unfold overL; simp; omega

theorem spliceL_eq : ∀ {xs ys zs : List Value} {k : Nat}, k + ys.length ≤ xs.length → spliceL xs k ys = some zs → zs = overL xs k ys
  | xs, [], zs, k, _, h => by
    have : spliceL xs k [] = some xs := by cases xs <;> rfl
    rw [this] at h; cases h
    unfold overL; simp
  | [], y :: ys, zs, k, hk, h => by simp at hk
  | x :: xs, y :: ys, zs, 0, hk, h => by
    have h : (spliceL xs 0 ys).map (y :: ·) = some zs := h
    cases hr : spliceL xs 0 ys with
    | none => rw [hr] at h; cases h
    | some u =>
      rw [hr] at h; cases h
      rw [spliceL_eq (by simp at hk ⊢; omega) hr]
      simp [overL]
  | x :: xs, y :: ys, zs, k + 1, hk, h => by
    have h : (spliceL xs k (y :: ys)).map (x :: ·) = some zs := h
    cases hr : spliceL xs k (y :: ys) with
    | none => rw [hr] at h; cases h
    | some u =>
      rw [hr] at h; cases h
      rw [spliceL_eq (by simp at hk ⊢; omega) hr]
      simp [overL, show k + 1 + (ys.length + 1) = (k + (ys.length + 1)) + 1 by omega]

theorem fold_over : ∀ (ys : List Value) (off j : Nat) (cells : Array Value), off + j + ys.length ≤ cells.size →
    (ys.zipIdx j).foldl (fun cs (q : Value × Nat) => cs.setIfInBounds (off + q.2) q.1) cells = ⟨overL cells.toList (off + j) ys⟩
  | [], off, j, cells, h => by simp [overL]
  | y :: ys, off, j, cells, h => by
    rw [List.zipIdx_cons, List.foldl_cons, fold_over ys off (j + 1) _ (by simp at h ⊢; omega)]
    congr 1
    have hlt : off + j < cells.toList.length := by simp at h ⊢; omega
    simp only [overL, Array.toList_setIfInBounds, List.length_cons]
    have e1 : (cells.toList.set (off + j) y).take (off + (j + 1)) = cells.toList.take (off + j) ++ [y] := by
      rw [List.set_eq_take_append_cons_drop, if_pos hlt, List.take_append, List.take_of_length_le (by simp; omega)]
      congr 1
      have : off + (j + 1) - (List.take (off + j) cells.toList).length = 1 := by simp at hlt ⊢; omega
      rw [this]; rfl
    have e2 : (cells.toList.set (off + j) y).drop (off + (j + 1) + ys.length) = cells.toList.drop (off + j + (ys.length + 1)) := by
      rw [List.drop_set]
      rw [if_pos (by omega)]
      congr 1; omega
    rw [e1, e2]
    simp

theorem VRL.over {xs xs' ys ys' : List Value} (h : VRL σ xs xs') (k : Nat) (h' : VRL σ ys ys') : VRL σ (overL xs k ys) (overL xs' k ys') := by
  unfold overL
  rw [← h'.1]
  exact ((h.take k).append h').append (h.drop _)

/-- Parts, one by one. -/
def PR (σ : Nm) (ps ps' : List (Nat × Value)) : Prop := ps.map (·.1) = ps'.map (·.1) ∧ VRL σ (ps.map (·.2)) (ps'.map (·.2))

theorem fillL_ok {place place' : Nat → Option (Nat × Nat)} (hp : ∀ i q, place i = some q → place' i = some q) : ∀ {ps ps' : List (Nat × Value)} {cells cells' out : List Value},
    fillL place cells ps = some out → PR σ ps ps' → VRL σ cells cells' → (∀ u, u ∈ cells → u.oneCell' = true) →
    ∃ out', Instr.fill place' ⟨cells'⟩ ps' = some ⟨out'⟩ ∧ VRL σ out out' ∧ (∀ u, u ∈ out → u.oneCell' = true)
  | [], [], cells, cells', out, h, _, hc, h1 => by
    cases h
    exact ⟨cells', rfl, hc, h1⟩
  | [], _ :: _, cells, cells', out, h, hps, hc, h1 => by have := hps.1; simp at this
  | _ :: _, [], cells, cells', out, h, hps, hc, h1 => by have := hps.1; simp at this
  | (i, v) :: ps, (i', v') :: ps', cells, cells', out, h, hps, hc, h1 => by
    have e1 := hps.1
    simp only [List.map_cons, List.cons.injEq] at e1
    obtain ⟨rfl, e1⟩ := e1
    obtain ⟨b, bs, e2, hv, hvs⟩ := hps.2.cons_inv
    cases e2
    have h : (osel (place i) none fun q => osel (cellsO v) none fun ys => bsel (Nat.beq (lenL ys) q.2) (bsel (Nat.ble (Nat.add q.1 q.2) (lenL cells)) (
      osel (spliceL cells q.1 ys) none fun cells' => fillL place cells' ps) none) none) = some out := h
    obtain ⟨q, hq, h⟩ := osel_ne h (by simp)
    obtain ⟨ys, hy, h⟩ := osel_ne h (by simp)
    obtain ⟨hb, h⟩ := bsel_ne h (by simp)
    obtain ⟨hb2, h⟩ := bsel_ne h (by simp)
    obtain ⟨zs, hz, h⟩ := osel_ne h (by simp)
    obtain ⟨g1, g2⟩ := cellsO_ok hy hv
    have hb : ys.length = q.2 := by have := beq_iff.1 hb; rwa [lenL_eq] at this
    have hb2 : q.1 + q.2 ≤ cells.length := by have := ble_iff.1 hb2; rwa [lenL_eq] at this
    have hz := spliceL_eq (by omega) hz
    subst hz
    have hl := g1.1
    have hcl := hc.1
    obtain ⟨out', o1, o2, o3⟩ := fillL_ok hp (cells' := overL cells' q.1 v'.cells.toList) h ⟨e1, hvs⟩ (hc.over q.1 g1) (fun u hu => by
      unfold overL at hu
      simp only [List.mem_append] at hu
      rcases hu with (hu | hu) | hu
      · exact h1 u (List.mem_of_mem_take hu)
      · exact g2 u hu
      · exact h1 u (List.mem_of_mem_drop hu))
    refine ⟨out', ?_, o2, o3⟩
    show (match place' i with
      | none => none
      | some (off, size) =>
        if v'.cells.size ≠ size || off + v'.cells.size > (⟨cells'⟩ : Array Value).size then none
        else Instr.fill place' (v'.cells.zipIdx.foldl (fun cs (c, j) => cs.setIfInBounds (off + j) c) ⟨cells'⟩) ps') = _
    rw [hp i q hq]
    obtain ⟨off, size⟩ := q
    simp only at hb hb2 o1 ⊢
    have hsz : v'.cells.size = size := by rw [← Array.length_toList, ← hl, hb]
    have hno : ¬ (off + size > cells'.length) := by omega
    rw [hsz]
    simp only [ne_eq, not_true, decide_false, Bool.false_or, List.size_toArray, decide_eq_true_eq, hno, if_false, gt_iff_lt]
    rw [if_neg (by simp)]
    rw [← o1]
    congr 1
    have := fold_over v'.cells.toList off 0 ⟨cells'⟩ (by simp only [Array.length_toList, hsz, List.size_toArray]; show off + 0 + size ≤ cells'.length; omega)
    rw [← Array.foldl_toList, Array.toList_zipIdx]
    exact this

theorem nthP_eq (xs : List (Nat × Nat)) : ∀ i, nthP xs i = xs[i]? := by
  induction xs with
  | nil => intro i; rfl
  | cons x xs ih => intro i; cases i with | zero => rfl | succ i => exact ih i

theorem placesOf_ok : ∀ {fs : List Field} {pl : List (Nat × Nat)}, placesOf P fs = some pl → ∀ w, (fs.mapM (m := Sem) fun f => do pure (f.offset, ← sizeOf f.type)).run P w = .ok pl w
  | [], pl, h, w => by cases h; rfl
  | f :: fs, pl, h, w => by
    have h : (osel (tySize P f.type) none fun k => osel (placesOf P fs) none fun l => some ((f.offset, k) :: l)) = some pl := h
    obtain ⟨k, hk, h⟩ := osel_ne h (by simp)
    obtain ⟨l, hl, h⟩ := osel_ne h (by simp)
    cases h
    have ih := placesOf_ok hl w
    rw [List.mapM_cons]
    simp only [Sem.run_bind, run_sizeOf' hk, Result.andThen_ok, Sem.run_pure, ih]

theorem build_ok {t : TypeId} {ps ps' : List (Nat × Value)} {v : Value} (h : buildA (blOf P t) ps = some v) (hp : PR σ ps ps') : Gives P (Instr.build t ⟨ps'⟩) σ w v := by
  cases hb : blOf P t with
  | no => rw [hb] at h; cases h
  | str z pl =>
    rw [hb] at h
    unfold blOf at hb
    obtain ⟨z', hz, hb⟩ := osel_ne hb (by simp)
    split at hb
    · rename_i fs hu
      obtain ⟨pl', hpl, hb⟩ := osel_ne hb (by simp)
      cases hb
      obtain ⟨l, hl, h⟩ := osel_ne h (by simp)
      cases h
      obtain ⟨zv, z1, z2, z3⟩ := zeroL_ok hz
      obtain ⟨out', o1, o2, o3⟩ := fillL_ok (place' := fun i => (⟨pl⟩ : Array (Nat × Nat))[i]?) (fun i q hq => by rw [nthP_eq] at hq; simpa using hq) hl hp (VRL.flat z3) (flat_one z3)
      refine ⟨.agg ⟨out'⟩, ?_, .agg _ _ o3 o2.1 o2.2⟩
      unfold Instr.build
      have hm : (fs.mapM (m := Sem) fun f => do pure (f.offset, ← sizeOf f.type)).run P w = .ok ⟨pl⟩ w := by
        rw [Array.mapM_eq_mapM_toList]
        show (List.mapM (m := Sem) (fun (f : Field) => do pure (f.offset, ← sizeOf f.type)) fs.toList >>= fun l => pure l.toArray).run P w = _
        rw [Sem.run_bind, placesOf_ok hpl w]
        rfl
      simp only [Sem.run_bind, run_zeroValue z1, Result.andThen_ok, run_underlying hu, z2, Sem.run_pure, hm, o1]
    · obtain ⟨k, hk, hb⟩ := osel_ne hb (by simp)
      cases hb
    · cases hb
  | arr z k =>
    rw [hb] at h
    unfold blOf at hb
    obtain ⟨z', hz, hb⟩ := osel_ne hb (by simp)
    split at hb
    · obtain ⟨pl', hpl, hb⟩ := osel_ne hb (by simp)
      cases hb
    · rename_i n e hu
      obtain ⟨k', hk, hb⟩ := osel_ne hb (by simp)
      cases hb
      obtain ⟨l, hl, h⟩ := osel_ne h (by simp)
      cases h
      obtain ⟨zv, z1, z2, z3⟩ := zeroL_ok hz
      obtain ⟨out', o1, o2, o3⟩ := fillL_ok (place' := fun i => some (i * k, k)) (fun i q hq => hq) hl hp (VRL.flat z3) (flat_one z3)
      refine ⟨.agg ⟨out'⟩, ?_, .agg _ _ o3 o2.1 o2.2⟩
      unfold Instr.build
      simp only [Sem.run_bind, run_zeroValue z1, Result.andThen_ok, run_underlying hu, z2, Sem.run_pure, run_sizeOf' hk, o1]
    · cases hb

theorem repL_len (z : List Value) : ∀ n, (repL z n).length = n * z.length
  | 0 => by simp [repL]
  | n + 1 => by rw [repL, List.length_append, repL_len z n, Nat.succ_mul]; omega

theorem repL_get (z : List Value) : ∀ n i, i < n * z.length → (repL z n)[i]? = z[i % z.length]?
  | 0, i, h => by omega
  | n + 1, i, h => by
    rw [repL]
    by_cases hc : i < z.length
    · rw [List.getElem?_append_left hc, Nat.mod_eq_of_lt hc]
    · rw [List.getElem?_append_right (by omega), repL_get z n (i - z.length) (by rw [Nat.succ_mul] at h; omega)]
      rw [Nat.mod_eq_sub_mod (by omega : i ≥ z.length)]

theorem rep_eq (z : List Value) (n : Nat) : (Array.range (n * z.length)).map (fun i => (⟨z⟩ : Array Value)[i % z.length]!) = ⟨repL z n⟩ := by
  apply Array.ext'
  apply List.ext_getElem?
  intro i
  by_cases hi : i < n * z.length
  · rw [repL_get z n i hi]
    have hz : 0 < z.length := by rcases Nat.eq_zero_or_pos z.length with h | h; rw [h] at hi; omega; exact h
    have hm := Nat.mod_lt i hz
    simp [hi, hm]
  · rw [List.getElem?_eq_none (by simp; omega), List.getElem?_eq_none (by rw [repL_len]; omega)]

theorem repL_flat {z : List Value} (h : z.all flat = true) : ∀ n, (repL z n).all flat = true
  | 0 => rfl
  | n + 1 => by rw [repL, List.all_append, h, repL_flat h n]; rfl

theorem mkOf_ok {t : TypeId} {k : Nat} {z : List Value} {b : Bool} (h : mkOf P t = .mk k z b) : ∃ e, P.underlying t = some (.slice e) ∧ tySize P e = some k ∧ zeroL P e = some z ∧ z.length = k ∧ b = smallB P e := by
  unfold mkOf at h
  split at h
  · rename_i e hu
    obtain ⟨k', hk, h⟩ := osel_ne h (by simp)
    obtain ⟨z', hz, h⟩ := osel_ne h (by simp)
    obtain ⟨hb, h⟩ := bsel_ne h (by simp)
    cases h
    exact ⟨e, hu, hk, hz, by have := beq_iff.1 hb; rwa [lenL_eq] at this, rfl⟩
  · cases h

/-- A slice of a new row. -/
theorem newSlice_ok {k n m : Nat} {l l' : List Value} {e : TypeId} {v : Value} (h : allK (rowOf l k true) (fun nm => .slice (some ⟨nm, 0, none⟩) n m) st = .ok v st') (hr : Rel σ st w)
    (hl : VRL σ l l') (h1 : ∀ u, u ∈ l → u.oneCell' = true) (hnm : n ≤ m) :
    Does P (do pure (.value (.slice (some (← newRow e ⟨l'⟩)) n m))) σ st w v st' := by
  obtain ⟨rfl, rfl, hlt⟩ := allK_ok h
  have hll : l'.take l.length = l' := List.take_of_length_le (by rw [hl.1]; exact Nat.le_refl _)
  obtain ⟨σ', s1, s2, s3⟩ := hr.newRow hlt (c := l') (xs := l) (by rw [hll]; exact hl) h1 e k true
  refine ⟨σ', _, .slice (some ⟨w.heap.size, 0, none⟩) n m, .inl ?_, ?_, s2, s3⟩
  · simp [newRow]
  · exact .slice st.next 0 n m m _ s1 hnm (fun _ => rfl) (fun h => by cases h)

theorem buildSlice_ok {t : TypeId} {n : Nat} {ps ps' : List (Nat × Value)} {v : Value} (h : buildSliceA (mkOf P t) n ps st = .ok v st') (hr : Rel σ st w) (hp : PR σ ps ps') :
    Does P (do pure (.value (← Instr.buildSlice t n ⟨ps'⟩))) σ st w v st' := by
  cases hm : mkOf P t with
  | no => rw [hm] at h; cases h
  | mk k z b =>
    rw [hm] at h
    obtain ⟨e, hu, hk, hz, hzl, rfl⟩ := mkOf_ok hm
    obtain ⟨hb, h⟩ := bsel_ne h Re.no_ne
    obtain ⟨l, hl, h⟩ := osel_ne h Re.no_ne
    have hb : n * k ≤ 4096 := ble_iff.1 hb
    obtain ⟨zv, z1, z2, z3⟩ := zeroL_ok hz
    have hf := repL_flat z3 n
    obtain ⟨out', o1, o2, o3⟩ := fillL_ok (place' := fun i => some (i * k, k)) (fun i q hq => hq) hl hp (VRL.flat hf) (flat_one hf)
    obtain ⟨σ', w', v', h1, h2⟩ := newSlice_ok (P := P) (e := e) h hr o2 o3 (Nat.le_refl n)
    refine ⟨σ', w', v', ?_, h2⟩
    have e' : ((do pure (.value (← Instr.buildSlice t n ⟨ps'⟩))) : Sem Next).run P w = ((do pure (.value (.slice (some (← newRow e ⟨out'⟩)) n n))) : Sem Next).run P w := by
      unfold Instr.buildSlice
      have hno : ¬ (n * k > 2 ^ 24) := by omega
      by_cases h0 : n * k = 0
      · have hr0 : repL z n = [] := List.eq_nil_of_length_eq_zero (by rw [repL_len, hzl]; exact h0)
        rw [hr0] at o1
        simp only [Sem.run_bind, run_underlying hu, Result.andThen_ok, run_sizeOf' hk, if_neg hno, if_pos h0, Sem.run_pure, h0]
        have e0 : ∀ f : Nat → Value, (Array.range 0).map f = ⟨[]⟩ := fun f => by simp
        simp only [e0, o1, Sem.run_bind, Result.andThen_ok, Sem.run_pure]
        simp [newRow]
      · simp only [Sem.run_bind, run_underlying hu, Result.andThen_ok, run_sizeOf' hk, if_neg hno, if_neg h0, Sem.run_pure, run_zeroValue z1, z2]
        have hsz : (⟨z⟩ : Array Value).size = z.length := rfl
        rw [hsz, ← hzl, rep_eq, hzl]
        simp only [o1, Sem.run_bind, Result.andThen_ok, Sem.run_pure]
        simp [newRow]
    rw [e']; exact h1
end
end Go.Proofs.YtieclenlldjfjaaGreat.Ev

set_option autoImplicit false
set_option linter.unusedVariables false
set_option linter.unusedSimpArgs false
namespace Go.Proofs.YtieclenlldjfjaaGreat.Ev
open Go
section
variable {P : Program} {σ : Nm} {st st' : St} {w : World}

theorem wrap_small (n : Nat) (h : n < 9223372036854775808) : IntKind.i64.wrap (Int.ofNat n) = Int.ofNat n := by
  simp [IntKind.wrap, IntKind.bits, IntKind.signed]; omega

theorem smallB_ok {e : TypeId} (h : smallB P e = true) {i : TypeInfo} (hi : P.info? e = some i) : i.bytes ≤ 65536 := by
  have := ble_iff.1 h
  simpa [Program.bytesOf, hi] using this

theorem makeSlice_ok {t : TypeId} {l l' c c' v : Value} (h : makeSliceA (mkOf P t) l c st = .ok v st') (hr : Rel σ st w) (hl : VR σ l l') (hc : VR σ c c') :
    Does P (do pure (.value (← Instr.makeSlice t l' c'))) σ st w v st' := by
  unfold makeSliceA at h
  obtain ⟨k1, n, rfl, hh⟩ := natK_ok h Re.no_ne
  clear h
  obtain ⟨k2, m, rfl, h⟩ := natK_ok hh Re.no_ne
  clear hh
  have := int_inv hl; subst this
  have := int_inv hc; subst this
  cases hm : mkOf P t with
  | no => rw [hm] at h; cases h
  | mk k z b =>
    rw [hm] at h
    obtain ⟨e, hu, hk, hz, hzl, rfl⟩ := mkOf_ok hm
    obtain ⟨hb, h⟩ := bsel_ne h Re.no_ne
    obtain ⟨h1, h⟩ := bsel_ne h Re.no_ne
    obtain ⟨h2, h⟩ := bsel_ne h Re.no_ne
    have h1 : n ≤ m := ble_iff.1 h1
    have h2 : m ≤ 4096 := ble_iff.1 h2
    obtain ⟨zv, z1, z2, z3⟩ := zeroL_ok hz
    have hf := repL_flat z3 m
    obtain ⟨i, hi, hik⟩ := tySize_some hk
    have hby := smallB_ok hb hi
    obtain ⟨σ', w', v', g1, g2⟩ := newSlice_ok (P := P) (e := e) h hr (VRL.flat hf) (flat_one hf) h1
    refine ⟨σ', w', v', ?_, g2⟩
    have e' : ((do pure (.value (← Instr.makeSlice t (.int k1 (.ofNat n)) (.int k2 (.ofNat m))))) : Sem Next).run P w = ((do pure (.value (.slice (some (← newRow e ⟨repL z m⟩)) n m))) : Sem Next).run P w := by
      have hti : ∀ w, (typeInfo e).run P w = .ok i w := fun w => by simp [typeInfo, hi]
      have hq : (i.bytes : Int) * (m : Int) ≤ 268435456 := by
        have h : i.bytes * m ≤ 65536 * 4096 := Nat.mul_le_mul hby h2
        have h' : ((i.bytes * m : Nat) : Int) = (i.bytes : Int) * (m : Int) := by simp
        rw [← h']
        omega
      have e48 : (2 : Int) ^ 48 = 281474976710656 := by decide
      have d1 : decide ((m : Int) < 0) = false := decide_eq_false (by omega)
      have d2 : decide ((n : Int) < 0) = false := decide_eq_false (by omega)
      have d3 : decide ((n : Int) > (m : Int)) = false := decide_eq_false (by omega)
      have d4 : decide ((i.bytes : Int) * (m : Int) > 281474976710656) = false := decide_eq_false (by omega)
      have w1 : IntKind.i64.wrap (n : Int) = (n : Int) := wrap_small n (by omega)
      have w2 : IntKind.i64.wrap (m : Int) = (m : Int) := wrap_small m (by omega)
      unfold Instr.makeSlice
      simp only [Sem.run_bind, run_underlying hu, Result.andThen_ok, asInt, asIntOf, Sem.run_pure, hti, Int.ofNat_eq_natCast, w1, w2, e48, d1, d2, d3, d4, Bool.or_false, Bool.false_eq_true, if_false, run_askRoom, run_sizeOf' hk, Int.toNat_natCast]
      by_cases h0 : m * k = 0
      · have hr0 : repL z m = [] := List.eq_nil_of_length_eq_zero (by rw [repL_len, hzl]; exact h0)
        have e0 : ∀ f : Nat → Value, (Array.range 0).map f = ⟨[]⟩ := fun f => by simp
        simp only [if_pos h0, Sem.run_pure, Sem.run_bind, Result.andThen_ok, h0, e0, hr0, if_true]
        simp [newRow]
      · simp only [if_neg h0, Sem.run_pure, Sem.run_bind, Result.andThen_ok, run_zeroValue z1, z2]
        have hsz : (⟨z⟩ : Array Value).size = z.length := rfl
        rw [hsz, ← hzl, rep_eq]
        simp [newRow]
    rw [e']; exact g1

theorem nilK_ok {x x' v : Value} (h : nilK x st = .ok v st') (hx : VR σ x x') :
    st' = st ∧ v = x ∧ ((∃ a, x' = .pointer (some a)) ∨ (∃ f as bs, x' = .func (.func f) as bs) ∨ ∃ l as bs, x' = .func (.yield l) as bs) := by
  unfold nilK at h
  split at h
  · obtain ⟨rfl, rfl⟩ := Re.ok_inj h
    obtain ⟨k, hk, rfl⟩ := ptr_inv hx
    exact ⟨rfl, rfl, .inl ⟨_, rfl⟩⟩
  · obtain ⟨rfl, rfl⟩ := Re.ok_inj h
    cases hx
    exact ⟨rfl, rfl, .inr (.inl ⟨_, _, _, rfl⟩)⟩
  · obtain ⟨rfl, rfl⟩ := Re.ok_inj h
    cases hx
    exact ⟨rfl, rfl, .inr (.inr ⟨_, _, _, rfl⟩)⟩
  · cases h

/-! ## append, copy -/
theorem u8_flat (l : List UInt8) : (l.map fun b => Value.int .u8 b.toNat).all flat = true := by
  rw [List.all_eq_true]; intro x hx; obtain ⟨b, _, rfl⟩ := List.mem_map.1 hx; rfl

/-- What is read ahead of an append or a copy. -/
def Lists (P : Program) (σ : Nm) (w : World) (k n : Nat) (x' : Value) (xs : List Value) : Prop :=
  xs.length = n * k ∧ (∀ u, u ∈ xs → u.oneCell' = true) ∧ ∃ ys, VRL σ xs ys ∧ ∀ d, (Builtin.firstCells k n x').run P { w with drawn := d } = .ok ⟨ys⟩ { w with drawn := d }

theorem row_list {nm : Nat} {kk : Blk} (hkk : σ nm = some kk) {off m : Nat} {d n es : Nat} {ex : Bool} {tr : Bt} (ho : st.obj nm = .cells d n es ex tr) (hr : Rel σ st w) (hm : off + m ≤ n) :
    (Bt.sub tr (half d) off (off + m) []).length = m ∧ (∀ u, u ∈ Bt.sub tr (half d) off (off + m) [] → u.oneCell' = true) ∧
    ∃ ys, VRL σ (Bt.sub tr (half d) off (off + m) []) ys ∧ ∀ dr, (loadCells ⟨kk.b, kk.o + off, none⟩ m).run P { w with drawn := dr } = .ok ⟨ys⟩ { w with drawn := dr } := by
  obtain ⟨ha, h1, h2, h3, h4, h0, c, e, h5, h6, h7, h8⟩ := hr.at hkk ho (by simp)
  rw [Bt.sub_eq h3, List.append_nil, show off + m - off = m by omega]
  have hl := Bt.perf_len h3
  refine ⟨by simp; omega, fun u hu => ?_, (c.drop (kk.o + off)).take m, seg_rel h8 hm, fun dr => load_seg (w := { w with drawn := dr }) h5 (by omega)⟩
  obtain ⟨i, hi⟩ := List.getElem?_of_mem hu
  rw [List.getElem?_take] at hi
  split at hi
  · rw [List.getElem?_drop] at hi
    exact h0 u (List.mem_of_getElem? (i := off + i) (by rw [List.getElem?_take, if_pos (by omega)]; exact hi))
  · cases hi

theorem run_load0 (a : Addr) (w : World) : (loadCells a 0).run P w = .ok #[] w := by
  have := run_loadCells_list (P := P) w a [] (fun j v hj => by simp at hj)
  exact this

theorem listA_ok {k n : Nat} {x x' : Value} {xs : List Value} (h : listA st k x n = some xs) (hr : Rel σ st w) (hx : VR σ x x') : Lists P σ w k n x' xs := by
  unfold listA at h
  split at h
  · obtain ⟨hb, h⟩ := bsel_ne h (by simp)
    cases h
    have := beq_iff.1 hb; subst this
    cases hx
    exact ⟨by simp, by simp, [], .nil, fun d => by simp [Builtin.firstCells]⟩
  · rename_i a n' c'
    cases hb : Nat.beq n 0 with
    | true =>
      rw [hb] at h; cases h
      have := beq_iff.1 hb; subst this
      refine ⟨by simp, by simp, [], .nil, fun d => ?_⟩
      generalize hv : Value.slice (some a) n' c' = u at hx
      cases hx with
      | slice => simp [Builtin.firstCells, run_load0]
      | void => simp [Builtin.firstCells, run_load0]
      | _ => cases hv
    | false =>
      rw [hb] at h
      obtain ⟨d, m, es, ex, tr, ho, h⟩ := cellsK_ok h (by simp)
      obtain ⟨hm, h⟩ := bsel_ne h (by simp)
      cases h
      have hm : a.off + n * k ≤ m := ble_iff.1 hm
      generalize hv : Value.slice (some a) n' c' = u at hx
      cases hx with
      | slice nm off n2 c2 c3 kk hkk h1 h2 h3 =>
        cases hv
        obtain ⟨g1, g2, ys, g3, g4⟩ := row_list (P := P) hkk ho hr hm
        exact ⟨g1, g2, ys, g3, fun dr => by simp only [Builtin.firstCells]; exact g4 dr⟩
      | void a' c2 =>
        simp only [voidS, Value.slice.injEq, Option.some.injEq] at hv
        obtain ⟨rfl, _⟩ := hv
        rw [St.obj_eq, objAt_big (by simp [voidNm])] at ho
        cases ho
      | _ => cases hv
  · rename_i s
    obtain ⟨hb, h⟩ := bsel_ne h (by simp)
    obtain ⟨hb2, h⟩ := bsel_ne h (by simp)
    cases h
    have := beq_iff.1 hb; subst this
    have hb2 := ble_iff.1 hb2
    have := string_inv hx; subst this
    have hf := u8_flat (s.extract 0 n).data.toList
    refine ⟨?_, flat_one hf, _, VRL.flat hf, fun d => ?_⟩
    · rw [List.length_map, Array.length_toList]
      show (s.extract 0 n).size = n * 1
      simp; omega
    · simp only [Builtin.firstCells, Sem.run_pure]
      congr 1
      apply Array.ext'
      simp
  · cases h

theorem lenA_ok {x x' : Value} {n : Nat} (h : lenA x = some n) (hx : VR σ x x') (w : World) : (Builtin.lenOf x').run P w = .ok n w := by
  cases hx <;> first | (cases h; rfl) | cases h

/-- What is appended: a list, or so many zeros. -/
def App (P : Program) (e : TypeId) (k : Nat) (tx : TypeId) (x : Value) (n : Nat) (ys : List Value) (w : World) : Prop :=
  (((∃ e', P.underlying tx = some (.slice e')) ∨ P.underlying tx = some .string) ∧ (∀ w', (Builtin.lenOf x).run P w' = .ok n w') ∧ (∀ d, (Builtin.firstCells k n x).run P { w with drawn := d } = .ok ⟨ys⟩ { w with drawn := d })) ∨
  (∃ kk k2 z zv, P.underlying tx = some (.int kk) ∧ x = .int k2 (.ofNat n) ∧ n ≤ 65536 ∧ zeroOf P e = some zv ∧ zv.cells = ⟨z⟩ ∧ z.length = k ∧ ys = repL z n)

theorem app_room {t tx ty e : TypeId} {i : TypeInfo} (ht : P.underlying t = some (.slice e)) (hi : P.info? e = some i) (hby : i.bytes ≤ 65536) {k sLen sCap n : Nat} (hk : i.size = k) {a : Addr} {x : Value} {ys : List Value} {w' : World}
    (hs : App P e k tx x n ys w) (hroom : sLen + n ≤ sCap) (hst : (storeCells (a.add (sLen * k)) ys).run P w = .ok () w') :
    (Builtin.append_ #[t, tx] ty #[.slice (some a) sLen sCap, x]).run P w = .ok (.slice (some a) (sLen + n) sCap) w' := by
  subst hk
  rcases hs with ⟨hk, hlen, hcells⟩ | ⟨kk, k2, z, zv, hx, rfl, hn, hz, hzc, hzl, rfl⟩
  · have hc0 := hcells w.drawn
    have hw : ({ w with drawn := w.drawn } : World) = w := rfl
    rw [hw] at hc0
    rcases hk with ⟨e', hk⟩ | hk <;> simp [Builtin.append_, run_underlying ht, run_underlying hk, sizeOf, typeInfo, hi, hlen, hroom, hc0, hst]
  · have hb : ¬ (281474976710656 < (n : Int) * (i.bytes : Int)) := by
      have h1 : n * i.bytes ≤ 65536 * 65536 := Nat.mul_le_mul hn hby
      have h2 : ((n * i.bytes : Nat) : Int) ≤ ((65536 * 65536 : Nat) : Int) := by exact_mod_cast h1
      have h3 : ((n * i.bytes : Nat) : Int) = (n : Int) * (i.bytes : Int) := by simp
      omega
    have hw := wrap_small n (by omega)
    have hw' : IntKind.i64.wrap (n : Int) = (n : Int) := hw
    have hzz : ∀ w, (zeroValue e).run P w = .ok zv w := run_zeroValue hz
    have hrep : Builtin.zeroCells ⟨z⟩ n = ⟨repL z n⟩ := by unfold Builtin.zeroCells; exact rep_eq z n
    have hng : ¬ ((n : Int) < 0) := by omega
    by_cases h0 : n * i.size = 0
    · have hr0 : repL z n = [] := List.eq_nil_of_length_eq_zero (by rw [repL_len, hzl]; exact h0)
      rw [hr0] at hst
      simp [Builtin.append_, run_underlying ht, run_underlying hx, sizeOf, typeInfo, hi, asInt, asIntOf, hw', hng, hb, hroom, h0, hst]
    · simp [Builtin.append_, run_underlying ht, run_underlying hx, sizeOf, typeInfo, hi, asInt, asIntOf, hw', hng, hb, hroom, h0, hst, hzz, hzc, hrep]

theorem app_grow {t tx ty e : TypeId} {i : TypeInfo} (ht : P.underlying t = some (.slice e)) (hi : P.info? e = some i) (hby : i.bytes ≤ 65536) {k sLen sCap n : Nat} (hk : i.size = k) {base : Option Addr} {x : Value} {olds ys z : List Value} {zv : Value}
    (hz : zeroOf P e = some zv) (hzc : zv.cells = ⟨z⟩) (hs : App P e k tx x n ys w) (hold : (Builtin.firstCells k sLen (.slice base sLen sCap)).run P w.drew = .ok ⟨olds⟩ w.drew)
    (hg : sCap < sLen + n) (hneed : sLen + n ≤ 1048576) :
    (Builtin.append_ #[t, tx] ty #[.slice base sLen sCap, x]).run P w =
      .ok (.slice (some ⟨w.heap.size, 0, none⟩) (sLen + n) (grownCap w (sLen + n) sCap e)) (w.drew.alloc (.cells ⟨olds ++ ys ++ repL z (grownCap w (sLen + n) sCap e - (sLen + n))⟩ e)) := by
  subst hk
  have hn : ¬ (sLen + n ≤ sCap) := by omega
  have h63' : ¬ (9223372036854775807 < ((sLen : Int) + (n : Int))) := by omega
  have hfit : Builtin.nextslicecap (sLen + n) sCap * i.bytes ≤ 281474976710656 := growslice_fits hg (Nat.le_trans (Nat.mul_le_mul hneed hby) (by decide))
  have h48' : ¬ (281474976710656 < Builtin.nextslicecap (sLen + n) sCap * i.bytes) := by omega
  have hrep : ∀ m, Builtin.zeroCells ⟨z⟩ m = ⟨repL z m⟩ := fun m => by unfold Builtin.zeroCells; exact rep_eq z m
  have hzz : ∀ w, (zeroValue e).run P w = .ok zv w := run_zeroValue hz
  rcases hs with ⟨hk, hlen, hcells⟩ | ⟨kk, k2, z', zv', hx, rfl, hn', hz', hzc', hzl, rfl⟩
  · have hcd : (Builtin.firstCells i.size n x).run P w.drew = .ok ⟨ys⟩ w.drew := hcells _
    rcases hk with ⟨e', hk⟩ | hk <;>
      simp [Builtin.append_, run_underlying ht, run_underlying hk, sizeOf, typeInfo, hi, hlen, hn, h63', h48', Question.forced, hcd, hold, newRow, grownCap, hzz, hzc, hrep]
  · rw [hz] at hz'; cases hz'
    rw [hzc] at hzc'
    have : z = z' := by simpa using hzc'
    subst this
    have hb : ¬ (281474976710656 < (n : Int) * (i.bytes : Int)) := by
      have h1 : n * i.bytes ≤ 65536 * 65536 := Nat.mul_le_mul hn' hby
      have h2 : ((n * i.bytes : Nat) : Int) ≤ ((65536 * 65536 : Nat) : Int) := by exact_mod_cast h1
      have h3 : ((n * i.bytes : Nat) : Int) = (n : Int) * (i.bytes : Int) := by simp
      omega
    have hw' : IntKind.i64.wrap (n : Int) = (n : Int) := wrap_small n (by omega)
    have hng : ¬ ((n : Int) < 0) := by omega
    by_cases h0 : n * i.size = 0
    · have hr0 : repL z n = [] := List.eq_nil_of_length_eq_zero (by rw [repL_len, hzl]; exact h0)
      simp [Builtin.append_, run_underlying ht, run_underlying hx, sizeOf, typeInfo, hi, asInt, asIntOf, hw', hng, hb, hn, h63', h48', Question.forced, h0, hold, newRow, grownCap, hzz, hzc, hrep, hr0]
    · simp [Builtin.append_, run_underlying ht, run_underlying hx, sizeOf, typeInfo, hi, asInt, asIntOf, hw', hng, hb, hn, h63', h48', Question.forced, h0, hold, newRow, grownCap, hzz, hzc, hrep]
end
end Go.Proofs.YtieclenlldjfjaaGreat.Ev

set_option autoImplicit false
set_option linter.unusedVariables false
set_option linter.unusedSimpArgs false
namespace Go.Proofs.YtieclenlldjfjaaGreat.Ev
open Go
section
variable {P : Program} {σ : Nm} {st st' : St} {w : World}

/-- A new name for a block that no name has. -/
theorem Rel.named {o : AObj} {k : Blk} (h : Rel σ st w) (hlt : st.next < 65536) (hb : k.b < w.heap.size) (hfree : ∀ x kx, Alive st x → σ x = some kx → kx.b ≠ k.b)
    (ho : ∀ τ, Sub σ τ → τ st.next = some k → OR τ k w o) :
    ∃ σ', σ' st.next = some k ∧ Rel σ' ⟨putAt st.next st.heap o, st.next + 1⟩ w ∧ Sub σ σ' ∧ (∀ x, x ≠ st.next → σ' x = σ x) ∧ (∀ x, Alive ⟨putAt st.next st.heap o, st.next + 1⟩ x → x ≠ st.next → Alive st x) := by
  let σ' : Nm := fun nm => if nm = st.next then some k else σ nm
  have hs : Sub σ σ' := fun nm kk e => by
    show (if nm = st.next then some k else σ nm) = some kk
    rw [if_neg (fun e' => by subst e'; rw [(h.fresh _ (Nat.le_refl _)).1] at e; cases e)]
    exact e
  have hn : σ' st.next = some k := by show (if st.next = st.next then some k else _) = _; rw [if_pos rfl]
  have hobj : ∀ x, x ≠ st.next → St.obj ⟨putAt st.next st.heap o, st.next + 1⟩ x = st.obj x := by
    intro x hx
    rw [St.obj_mk, St.obj_eq, objAt_put hlt, if_neg hx]
  have halive : ∀ x, Alive ⟨putAt st.next st.heap o, st.next + 1⟩ x → x ≠ st.next → Alive st x := by
    intro x hx he; unfold Alive at hx ⊢; rw [hobj x he] at hx; exact hx
  have hσ : ∀ x, x ≠ st.next → σ' x = σ x := fun x hx => by show (if x = st.next then some k else σ x) = σ x; rw [if_neg hx]
  refine ⟨σ', hn, ⟨fun x hx => ?_, fun x y kx ky hx hy h1 h2 h3 => ?_, fun x hx => ?_, fun x kx hx => ?_, hlt⟩, hs, hσ, halive⟩
  · by_cases e : x = st.next
    · subst e
      refine ⟨k, hn, ?_⟩
      rw [St.obj_mk, objAt_put hlt, if_pos rfl]
      exact ho σ' hs hn
    · obtain ⟨kx, h1, h2⟩ := h.obj x (halive x hx e)
      refine ⟨kx, hs _ _ h1, ?_⟩
      rw [hobj x e]
      exact OR.mono hs rfl h2
  · by_cases ex : x = st.next
    · by_cases ey : y = st.next
      · rw [ex, ey]
      · exfalso
        subst ex
        rw [hn] at h1; cases h1
        rw [hσ y ey] at h2
        exact hfree y ky (halive y hy ey) h2 h3.symm
    · by_cases ey : y = st.next
      · exfalso
        subst ey
        rw [hn] at h2; cases h2
        rw [hσ x ex] at h1
        exact hfree x kx (halive x hx ex) h1 h3
      · rw [hσ x ex] at h1; rw [hσ y ey] at h2
        exact h.apart x y kx ky (halive x hx ex) (halive y hy ey) h1 h2 h3
  · have hx' : st.next + 1 ≤ x := hx
    have e : x ≠ st.next := by omega
    exact ⟨by rw [hσ x e]; exact (h.fresh x (by omega)).1, fun hy => (h.fresh x (by omega)).2 (halive x hy e)⟩
  · by_cases e : x = st.next
    · subst e; rw [hn] at hx; cases hx; exact hb
    · rw [hσ x e] at hx
      exact h.bound x kx hx

theorem setObj_next (nm : Nat) (o : AObj) : (st.setObj nm o).next = st.next := by rw [St.setObj_eq]

/-- The block of a name, changed, under a new name. -/
theorem Rel.adopt {w' : World} (h : Rel σ st w) (hlt : st.next < 65536) {nm : Nat} {k k2 : Blk} (ha : Alive st nm) (hk : σ nm = some k) (hb : k2.b = k.b) {o : AObj}
    (hsize : w'.heap.size = w.heap.size) (hoth : ∀ b, b ≠ k.b → w'.heap[b]? = w.heap[b]?) (ho : ∀ τ, Sub σ τ → τ st.next = some k2 → OR τ k2 w' o)
    (ht : w'.tape = w.tape) (hos : w'.os = w.os) (hout : w'.output = w.output) :
    ∃ σ', σ' st.next = some k2 ∧ Rel σ' ⟨putAt (st.setObj nm .dead).next (st.setObj nm .dead).heap o, (st.setObj nm .dead).next + 1⟩ w' ∧
      Ext σ st w σ' ⟨putAt (st.setObj nm .dead).next (st.setObj nm .dead).heap o, (st.setObj nm .dead).next + 1⟩ w' := by
  obtain ⟨r1, x1⟩ := h.upd (o := .dead) ha hk hsize hoth trivial ht hos hout
  have hnm : nm < 65536 := by
    rcases Nat.lt_or_ge nm 65536 with h' | h'
    · exact h'
    · exact absurd (by rw [St.obj_eq]; exact objAt_big h') ha
  have hdead : ¬ Alive (st.setObj nm .dead) nm := by
    intro hx; apply hx; rw [St.setObj_eq, St.obj_mk, objAt_put hnm, if_pos rfl]
  have hal : ∀ x, Alive (st.setObj nm .dead) x → Alive st x := by
    intro x hx
    by_cases e : x = nm
    · subst e; exact ha
    · unfold Alive at hx ⊢; rw [St.setObj_eq, St.obj_mk, objAt_put hnm, if_neg e] at hx; rw [St.obj_eq]; exact hx
  have hbb := h.bound nm k hk
  have hfree : ∀ x kx, Alive (st.setObj nm .dead) x → σ x = some kx → kx.b ≠ k2.b := by
    intro x kx hx h1 he
    have := h.apart x nm kx k (hal x hx) ha h1 hk (he.trans hb)
    subst this
    exact hdead hx
  have hn := setObj_next (st := st) nm .dead
  obtain ⟨σ', s1, s2, s3, s4, s5⟩ := r1.named (o := o) (k := k2) (by rw [hn]; exact hlt) (by rw [hsize, hb]; exact hbb) hfree (fun τ h1 h2 => ho τ h1 (by rw [← hn]; exact h2))
  refine ⟨σ', by rw [← hn]; exact s1, s2, ⟨s3, by show st.next ≤ (st.setObj nm .dead).next + 1; omega, by rw [hsize]; exact Nat.le_refl _, fun b hb' ⟨x, kx, hx, h1, h2⟩ => ?_, fun b _ hno => hoth b fun e => hno ⟨nm, k, ha, hk, e.symm⟩, ht, hos, hout, fun x hx => s4 x (by rw [hn]; omega)⟩⟩
  by_cases e : x = (st.setObj nm .dead).next
  · subst e
    rw [s1] at h1; cases h1
    exact ⟨nm, k, ha, hk, by rw [← hb, h2]⟩
  · rw [s4 x e] at h1
    exact ⟨x, kx, hal x (s5 x hx e), h1, h2⟩

def DoesV (P : Program) (s : Sem Value) (σ : Nm) (st : St) (w : World) (v : Value) (st' : St) : Prop :=
  ∃ σ' w' v', s.run P w = .ok v' w' ∧ VR σ' v v' ∧ Rel σ' st' w' ∧ Ext σ st w σ' st' w'

theorem DoesV.does {s : Sem Value} {v : Value} (h : DoesV P s σ st w v st') : Does P (do pure (.value (← s))) σ st w v st' := by
  obtain ⟨σ', w', v', h1, h2⟩ := h
  exact ⟨σ', w', v', .inl (by rw [Sem.run_bind, h1]; rfl), h2⟩

theorem app_nil_room {t tx ty e : TypeId} {i : TypeInfo} (ht : P.underlying t = some (.slice e)) (hi : P.info? e = some i) (hby : i.bytes ≤ 65536) {k sLen sCap : Nat} (hk : i.size = k) {x : Value} {ys : List Value}
    (hs : App P e k tx x 0 ys w) (hroom : sLen ≤ sCap) :
    (Builtin.append_ #[t, tx] ty #[.slice none sLen sCap, x]).run P w = .ok (.slice none sLen sCap) w := by
  subst hk
  rcases hs with ⟨hk, hlen, hcells⟩ | ⟨kk, k2, z, zv, hx, rfl, hn, hz, hzc, hzl, rfl⟩
  · have hc0 := hcells w.drawn
    have hw : ({ w with drawn := w.drawn } : World) = w := rfl
    rw [hw] at hc0
    rcases hk with ⟨e', hk⟩ | hk <;> simp [Builtin.append_, run_underlying ht, run_underlying hk, sizeOf, typeInfo, hi, hlen, hroom, hc0]
  · have hw' : IntKind.i64.wrap (0 : Int) = (0 : Int) := wrap_small 0 (by omega)
    simp [Builtin.append_, run_underlying ht, run_underlying hx, sizeOf, typeInfo, hi, asInt, asIntOf, hw', hroom]

theorem oldL_ok {k len : Nat} {nm off : Nat} {old : List Value} {kk : Blk} (hkk : σ nm = some kk) (h : oldL st k (some ⟨nm, off, none⟩) len = some old) (hr : Rel σ st w) (cap : Nat) :
    old.length = len * k ∧ (∀ u, u ∈ old → u.oneCell' = true) ∧
    ∃ olds, VRL σ old olds ∧ (∀ d, (Builtin.firstCells k len (.slice (some ⟨kk.b, kk.o + off, none⟩) len cap)).run P { w with drawn := d } = .ok ⟨olds⟩ { w with drawn := d }) := by
  have h : bsel (Nat.beq len 0) (some []) (cellsK (st.obj nm) none fun d m _ _ tr => bsel (Nat.ble (Nat.add off (Nat.mul len k)) m) (some (Bt.sub tr (half d) off (Nat.add off (Nat.mul len k)) [])) none) = some old := h
  cases hb : Nat.beq len 0 with
  | true =>
    rw [hb] at h; cases h
    have := beq_iff.1 hb; subst this
    exact ⟨by simp, by simp, [], .nil, fun d => by simp [Builtin.firstCells, run_load0]⟩
  | false =>
    rw [hb] at h
    obtain ⟨d, m, es, ex, tr, ho, h⟩ := cellsK_ok h (by simp)
    obtain ⟨hm, h⟩ := bsel_ne h (by simp)
    cases h
    have hm : off + len * k ≤ m := ble_iff.1 hm
    obtain ⟨g1, g2, ys, g3, g4⟩ := row_list (P := P) hkk ho hr hm
    exact ⟨g1, g2, ys, g3, fun dr => by simp only [Builtin.firstCells]; exact g4 dr⟩

/-- A new row, behind a draw, with cells more than are known. -/
theorem grown_ok {k need c : Nat} {xs ys zs : List Value} {e : TypeId} {v : Value} (h : allK (rowOf xs k false) (fun nm => .slice (some ⟨nm, 0, none⟩) need need) st = .ok v st') (hr : Rel σ st w)
    (hx : VRL σ xs ys) (h1 : ∀ u, u ∈ xs → u.oneCell' = true) (hc : need ≤ c) (hlen : (ys ++ zs).length = c * k) :
    ∃ σ', VR σ' v (.slice (some ⟨w.heap.size, 0, none⟩) need c) ∧ Rel σ' st' { w with heap := w.heap.push (.cells ⟨ys ++ zs⟩ e) } ∧ Ext σ st w σ' st' { w with heap := w.heap.push (.cells ⟨ys ++ zs⟩ e) } := by
  obtain ⟨rfl, rfl, hlt⟩ := allK_ok h
  have hll : (ys ++ zs).take xs.length = ys := by rw [hx.1, List.take_left]
  obtain ⟨σ', s1, s2, s3⟩ := hr.newRow hlt (c := ys ++ zs) (xs := xs) (by rw [hll]; exact hx) h1 e k false
  exact ⟨σ', .slice st.next 0 need need c _ s1 (Nat.le_refl _) (fun h => by cases h) (fun _ => ⟨hc, by show 0 + 0 + c * k ≤ (ys ++ zs).length; omega⟩), s2, s3⟩

theorem appendK_ok {t tx ty e : TypeId} {i : TypeInfo} (ht : P.underlying t = some (.slice e)) (hi : P.info? e = some i) (hby : i.bytes ≤ 65536) {k len cap n : Nat} (hk : i.size = k) {base : Option Addr} {s' x' v : Value} {new ys z : List Value} {zv : Value}
    (hz : zeroOf P e = some zv) (hzc : zv.cells = ⟨z⟩) (hzl : z.length = k) (ha : App P e k tx x' n ys w) (hn : VRL σ new ys) (h1 : ∀ u, u ∈ new → u.oneCell' = true) (hnl : new.length = n * k)
    (hr : Rel σ st w) (hs : VR σ (.slice base len cap) s') (h : appendK k base len cap (len + n) new st = .ok v st') :
    DoesV P (Builtin.append_ #[t, tx] ty #[s', x']) σ st w v st' := by
  unfold appendK at h
  obtain ⟨hb, h⟩ := bsel_ne h Re.no_ne
  have hb : len + n ≤ 1048576 := ble_iff.1 hb
  generalize hv : Value.slice base len cap = u at hs
  have hge : ∀ W : World, len + n ≤ grownCap W (len + n) cap e := fun W => grownCap_ge W _ _ e
  cases hs with
  | nilslice =>
    cases hv
    cases hbb : Nat.ble (0 + n) 0 with
    | true =>
      rw [hbb] at h
      have hn0 : n = 0 := by have := ble_iff.1 hbb; omega
      subst hn0
      have h : Re.ok (.slice none (0 + 0) 0) st = .ok v st' := h
      cases h
      exact ⟨σ, w, .slice none 0 0, app_nil_room ht hi hby hk ha (Nat.le_refl 0), .nilslice, hr, .refl σ st w⟩
    | false =>
      rw [hbb] at h
      have hn0 : 0 < n := by
        rcases Nat.eq_zero_or_pos n with rfl | h'
        · cases hbb
        · exact h'
      have h : allK (rowOf ([] ++ new) k false) (fun nm => .slice (some ⟨nm, 0, none⟩) (0 + n) (0 + n)) st = .ok v st' := h
      have hg := app_grow (ty := ty) (sLen := 0) (sCap := 0) (n := n) (base := none) (olds := []) ht hi hby hk hz hzc ha (by simp [Builtin.firstCells]) (by omega) hb
      obtain ⟨σ', g1, g2, g3⟩ := grown_ok (w := w.drew) (e := e) (c := grownCap w (0 + n) 0 e) (zs := repL z (grownCap w (0 + n) 0 e - (0 + n))) h hr.drew (ys := [] ++ ys) (by simpa using hn) (by simpa using h1) (grownCap_ge w _ _ e) (by
        have := grownCap_ge w (0 + n) 0 e
        rw [List.nil_append, List.length_append, ← hn.1, hnl, repL_len, hzl, ← Nat.add_mul]
        congr 1; omega)
      exact ⟨σ', _, _, hg, g1, g2, (Ext.drew σ st w).trans g3⟩
  | slice nm off n2 c2 c' kk hkk hle hx1 hx2 =>
    cases hv
    have hcc : cap ≤ c' := by
      cases hex : kk.ex with
      | true => exact Nat.le_of_eq (hx1 hex).symm
      | false => exact (hx2 hex).1
    cases hbb : Nat.ble (len + n) cap with
    | true =>
      rw [hbb] at h
      have hroom : len + n ≤ cap := ble_iff.1 hbb
      have h : cellsK (st.obj nm) .no (fun d m es ex tr =>
          bsel (Nat.ble (Nat.add off (Nat.mul (len + n) k)) m)
            (.ok (.slice (some ⟨nm, off, none⟩) (len + n) cap) (st.setObj nm (.cells d m es ex (Bt.put tr (half d) (Nat.add off (Nat.mul len k)) new)))) .no) = Re.ok v st' := h
      obtain ⟨d, m, es, ex, tr, ho, h⟩ := cellsK_ok h Re.no_ne
      obtain ⟨hm, h⟩ := bsel_ne h Re.no_ne
      have hm : off + (len + n) * k ≤ m := ble_iff.1 hm
      obtain ⟨rfl, rfl⟩ := Re.ok_inj h
      obtain ⟨w', s1, s2, s3⟩ := hr.over (P := P) hkk ho (off := off + len * k) hn h1 (by rw [hnl, Nat.add_assoc, ← Nat.add_mul]; exact hm) (t' := Bt.put tr (half d) (off + len * k) new) (fun hp => ⟨(Bt.put_perf hp).1, rfl⟩)
      refine ⟨σ, w', _, app_room (sCap := c') ht hi hby hk ha (by omega) (w' := w') ?_, .slice nm off (len + n) cap c' kk hkk hroom hx1 hx2, s2, s3⟩
      rw [add_place, Nat.add_assoc]; exact s1
    | false =>
      rw [hbb] at h
      have hno : cap < len + n := by
        rcases Nat.lt_or_ge cap (len + n) with h' | h'
        · exact h'
        · rw [ble_iff.2 h'] at hbb; cases hbb
      have h : osel (oldL st k (some ⟨nm, off, none⟩) len) .no (fun old =>
          cellsK (st.obj nm) .no fun d m es ex tr =>
            bsel (Nat.beq es k) (allK (rowOf (old ++ new) k false) (fun nm => .slice (some ⟨nm, 0, none⟩) (len + n) (len + n)) (st.setObj nm .dead)) .no) = Re.ok v st' := h
      obtain ⟨old, hold, h⟩ := osel_ne h Re.no_ne
      obtain ⟨d, m, es, ex, tr, ho, h⟩ := cellsK_ok h Re.no_ne
      obtain ⟨hes, h⟩ := bsel_ne h Re.no_ne
      have hes := beq_iff.1 hes
      subst hes
      obtain ⟨o1, o2, olds, o3, o4⟩ := oldL_ok (P := P) hkk hold hr c'
      obtain ⟨halive, g1, g2, g3, g4, g0, c, ec, g5, g6, g7, g8⟩ := hr.at hkk ho (by simp)
      have hone : ∀ u, u ∈ old ++ new → u.oneCell' = true := fun u hu => (List.mem_append.1 hu).elim (o2 u) (h1 u)
      by_cases hroom : len + n ≤ c'
      · -- the model does it in place
        have hex : kk.ex = false := by
          cases hex : kk.ex with
          | false => rfl
          | true => have := hx1 hex; omega
        obtain ⟨_, hN⟩ := hx2 hex
        rw [g1] at hN
        obtain ⟨rfl, rfl, hlt⟩ := allK_ok h
        have hmul : (len + n) * es ≤ c' * es := Nat.mul_le_mul_right _ hroom
        have hsum : len * es + n * es = (len + n) * es := by rw [Nat.add_mul]
        have hyl : ys.length = n * es := by rw [← hn.1, hnl]
        have hy1 : ∀ v, v ∈ ys → v.oneCell' = true := by
          intro v hv
          obtain ⟨j, hj⟩ := List.getElem?_of_mem hv
          have hjl : j < new.length := by
            rcases Nat.lt_or_ge j ys.length with h' | h'
            · rw [hn.1]; exact h'
            · rw [List.getElem?_eq_none h'] at hj; cases hj
          rw [← (hn.2 j new[j] v (by simp [hjl]) hj).one]
          exact h1 _ (List.getElem_mem hjl)
        have hst := run_storeCells_at P kk.b (kk.o + off + len * es) ec ys 0 ⟨c⟩ w g5 (by show kk.o + off + len * es + 0 + ys.length ≤ c.length; omega) hy1
        simp only [Nat.add_zero] at hst
        obtain ⟨s1, s2, s3⟩ := setRow_at g5 (c.take (kk.o + off + len * es) ++ ys ++ c.drop (kk.o + off + len * es + ys.length)).toArray
        have hlen : (c.take (kk.o + off + len * es) ++ ys ++ c.drop (kk.o + off + len * es + ys.length)).length = c.length := by
          simp; omega
        have hold2 : olds = (c.drop (kk.o + off)).take (len * es) := by
          have e1 := o4 w.drawn
          have e2 : (Builtin.firstCells es len (.slice (some ⟨kk.b, kk.o + off, none⟩) len c')).run P w = .ok ⟨(c.drop (kk.o + off)).take (len * es)⟩ w := by
            simp only [Builtin.firstCells]
            exact load_seg g5 (by omega)
          have e3 : ({ w with drawn := w.drawn } : World) = w := rfl
          rw [e3, e2] at e1
          simpa using e1.symm
        obtain ⟨σ', t1, t2, t3⟩ := hr.adopt (w' := w.setRow kk.b (c.take (kk.o + off + len * es) ++ ys ++ c.drop (kk.o + off + len * es + ys.length)).toArray) (o := rowOf (old ++ new) es false)
          (by rw [setObj_next] at hlt; exact hlt) halive hkk (k2 := ⟨kk.b, kk.o + off, kk.N, es, false⟩) rfl s3 s2 (fun τ hs1 hs2 => by
            unfold rowOf
            rw [lenL_eq]
            refine ⟨rfl, rfl, (Bt.ofL_perf _ _).1, dep_le _, by rw [ofL_take]; exact hone, _, ec, s1, by rw [hlen]; exact g6, by show kk.o + off + (old ++ new).length ≤ kk.N; rw [List.length_append]; omega, ?_⟩
            rw [ofL_take]
            have e5 : ((c.take (kk.o + off + len * es) ++ ys ++ c.drop (kk.o + off + len * es + ys.length)).drop (kk.o + off)).take (old ++ new).length = olds ++ ys := by
              have c1 : (c.take (kk.o + off + len * es) ++ ys ++ c.drop (kk.o + off + len * es + ys.length)).drop (kk.o + off) = (c.drop (kk.o + off)).take (len * es) ++ ys ++ c.drop (kk.o + off + len * es + ys.length) := by
                rw [List.append_assoc, List.drop_append_of_le_length (by simp; omega), List.drop_take, List.append_assoc]
                congr 2
                omega
              rw [c1, ← hold2, List.take_append_of_le_length (by simp [← o3.1, ← hn.1]), List.take_of_length_le (by simp [← o3.1, ← hn.1])]
            rw [e5]
            exact (o3.append hn).mono hs1) rfl rfl rfl
        refine ⟨σ', _, .slice (some ⟨kk.b, kk.o + off, none⟩) (len + n) c', app_room (sCap := c') ht hi hby hk ha hroom (w' := w.setRow kk.b (c.take (kk.o + off + len * es) ++ ys ++ c.drop (kk.o + off + len * es + ys.length)).toArray) ?_, ?_, t2, t3⟩
        · rw [add_place]; exact hst
        · rw [setObj_next]
          exact .slice st.next 0 (len + n) (len + n) c' ⟨kk.b, kk.o + off, kk.N, es, false⟩ t1 (Nat.le_refl _) (fun h => by cases h) (fun _ => ⟨hroom, by show kk.o + off + 0 + c' * es ≤ kk.N; omega⟩)
      · have hg := app_grow (ty := ty) (sLen := len) (sCap := c') (n := n) (base := some ⟨kk.b, kk.o + off, none⟩) (olds := olds) ht hi hby hk hz hzc ha (o4 _) (by omega) hb
        obtain ⟨r1, x1⟩ := hr.drew.upd (o := .dead) (w' := w.drew) halive hkk rfl (fun b hb => rfl) trivial rfl rfl rfl
        obtain ⟨σ', q1, q2, q3⟩ := grown_ok (w := w.drew) (e := e) (c := grownCap w (len + n) c' e) (zs := repL z (grownCap w (len + n) c' e - (len + n))) h r1 (ys := olds ++ ys) (o3.append hn) hone (grownCap_ge w _ _ e) (by
          have := grownCap_ge w (len + n) c' e
          rw [List.length_append, List.length_append, ← o3.1, o1, ← hn.1, hnl, repL_len, hzl, ← Nat.add_mul, ← Nat.add_mul]
          congr 1; omega)
        exact ⟨σ', _, _, hg, q1, q2, ((Ext.drew σ st w).trans x1).trans q3⟩
  | void a c' =>
    simp only [voidS, Value.slice.injEq] at hv
    obtain ⟨rfl, rfl, rfl⟩ := hv
    have hdead : st.obj voidNm = .dead := by rw [St.obj_eq]; exact objAt_big (by simp [voidNm])
    exfalso
    cases hbb : Nat.ble (0 + n) 0 with
    | true =>
      rw [hbb] at h
      have h : cellsK (st.obj voidNm) Re.no (fun d m es ex tr => bsel (Nat.ble (Nat.add 0 (Nat.mul (0 + n) k)) m) (.ok (.slice (some ⟨voidNm, 0, none⟩) (0 + n) 0) (st.setObj voidNm (.cells d m es ex (Bt.put tr (half d) (Nat.add 0 (Nat.mul 0 k)) new)))) .no) = Re.ok v st' := h
      rw [hdead] at h
      cases h
    | false =>
      rw [hbb] at h
      have h : growK k (some ⟨voidNm, 0, none⟩) 0 (0 + n) new st = Re.ok v st' := h
      unfold growK at h
      obtain ⟨old, hold, h⟩ := osel_ne (x := oldL st k (some ⟨voidNm, 0, none⟩) 0) h Re.no_ne
      have h : cellsK (st.obj voidNm) Re.no (fun d m es ex tr => bsel (Nat.beq es k) (allK (rowOf (old ++ new) k false) (fun nm => .slice (some ⟨nm, 0, none⟩) (0 + n) (0 + n)) (st.setObj voidNm .dead)) .no) = Re.ok v st' := h
      rw [hdead] at h
      cases h
  | _ => cases hv
end
end Go.Proofs.YtieclenlldjfjaaGreat.Ev

set_option autoImplicit false
set_option linter.unusedVariables false
set_option linter.unusedSimpArgs false
namespace Go.Proofs.YtieclenlldjfjaaGreat.Ev
open Go
section
variable {P : Program} {σ : Nm} {st st' : St} {w : World}

theorem apK_ok {e : TypeId} {f : Nat → List Value → Ap} {r : Ap} (h : apK P e f = r) (hne : r ≠ .no) : ∃ k z i zv, smallB P e = true ∧ P.info? e = some i ∧ i.size = k ∧ i.bytes ≤ 65536 ∧ zeroOf P e = some zv ∧ zv.cells = ⟨z⟩ ∧ z.all flat = true ∧ z.length = k ∧ f k z = r := by
  unfold apK at h
  obtain ⟨hb, h⟩ := bsel_ne h hne.symm
  obtain ⟨k, hk, h⟩ := osel_ne h hne.symm
  obtain ⟨z, hz, h⟩ := osel_ne h hne.symm
  obtain ⟨hl, h⟩ := bsel_ne h hne.symm
  obtain ⟨i, hi, his⟩ := tySize_some hk
  obtain ⟨zv, z1, z2, z3⟩ := zeroL_ok hz
  exact ⟨k, z, i, zv, hb, hi, his, smallB_ok hb hi, z1, z2, z3, by have := beq_iff.1 hl; rwa [lenL_eq] at this, h⟩

theorem ts_two {ts : Array TypeId} {t u : TypeId} (h : ts.toList = [t, u]) : ts = #[t, u] := by
  apply Array.ext'; simpa using h

theorem append_ok {ts : Array TypeId} {ty : TypeId} {s s' x x' v : Value} (h : appendA P ts s x st = .ok v st') (hr : Rel σ st w) (hs : VR σ s s') (hx : VR σ x x') :
    DoesV P (Builtin.append_ ts ty #[s', x']) σ st w v st' := by
  unfold appendA at h
  split at h
  · rename_i base len cap
    cases hap : apOf P ts with
    | no => rw [hap] at h; cases h
    | list k =>
      rw [hap] at h
      obtain ⟨n, hn, h⟩ := osel_ne h Re.no_ne
      obtain ⟨new, hnew, h⟩ := osel_ne h Re.no_ne
      obtain ⟨l1, l2, ys, l3, l4⟩ := listA_ok (P := P) hnew hr hx
      unfold apOf at hap
      split at hap
      · rename_i t xt hts
        have := ts_two hts; subst this
        split at hap
        · obtain ⟨_, _, _, _, _, _, _, _, _, _, _, _, hf⟩ := apK_ok hap (by simp)
          cases hf
        · rename_i e e' hu hux
          obtain ⟨k', z, i, zv, b1, b2, b3, b4, b5, b6, b7, b8, hf⟩ := apK_ok hap (by simp)
          cases hf
          exact appendK_ok hu b2 b4 b3 b5 b6 b8 (.inl ⟨.inl ⟨e', hux⟩, lenA_ok hn hx, l4⟩) l3 l2 l1 hr hs h
        · rename_i e hu hux
          obtain ⟨k', z, i, zv, b1, b2, b3, b4, b5, b6, b7, b8, hf⟩ := apK_ok hap (by simp)
          cases hf
          exact appendK_ok hu b2 b4 b3 b5 b6 b8 (.inl ⟨.inr hux, lenA_ok hn hx, l4⟩) l3 l2 l1 hr hs h
        · cases hap
      · cases hap
    | zeros k z =>
      rw [hap] at h
      obtain ⟨k2, n, rfl, hh⟩ := natK_ok h Re.no_ne
      clear h
      have := int_inv hx; subst this
      obtain ⟨hb, h⟩ := bsel_ne hh Re.no_ne
      have hb : n ≤ 65536 := ble_iff.1 hb
      unfold apOf at hap
      split at hap
      · rename_i t xt hts
        have := ts_two hts; subst this
        split at hap
        · rename_i e kk hu hux
          obtain ⟨k', z', i, zv, b1, b2, b3, b4, b5, b6, b7, b8, hf⟩ := apK_ok hap (by simp)
          cases hf
          have hfl := repL_flat b7 n
          exact appendK_ok hu b2 b4 b3 b5 b6 b8 (.inr ⟨kk, k2, z, zv, hux, rfl, hb, b5, b6, b8, rfl⟩) (VRL.flat hfl) (flat_one hfl) (by rw [repL_len, b8]) hr hs h
        · obtain ⟨_, _, _, _, _, _, _, _, _, _, _, _, hf⟩ := apK_ok hap (by simp)
          cases hf
        · obtain ⟨_, _, _, _, _, _, _, _, _, _, _, _, hf⟩ := apK_ok hap (by simp)
          cases hf
        · cases hap
      · cases hap
  · cases h

theorem minN_eq (a b : Nat) : minN a b = Nat.min a b := by
  unfold minN
  rw [bsel_eq]
  by_cases h : a ≤ b
  · rw [if_pos (ble_iff.2 h)]; exact (Nat.min_eq_left h).symm
  · rw [if_neg (fun h' => h (ble_iff.1 h'))]; exact (Nat.min_eq_right (by omega)).symm

theorem copy_ok {ts : Array TypeId} {ty : TypeId} {s s' x x' v : Value} (h : copyA P ts s x st = .ok v st') (hr : Rel σ st w) (hs : VR σ s s') (hx : VR σ x x') :
    DoesV P (Builtin.copy_ ts ty #[s', x']) σ st w v st' := by
  unfold copyA at h
  split at h
  · rename_i base dl c
    obtain ⟨t, ht, h⟩ := osel_ne h Re.no_ne
    obtain ⟨k, hk, h⟩ := osel_ne h Re.no_ne
    obtain ⟨sl, hsl, h⟩ := osel_ne h Re.no_ne
    obtain ⟨xs, hxs, h⟩ := osel_ne h Re.no_ne
    unfold slElem at hk
    split at hk
    · rename_i e hu
      obtain ⟨l1, l2, ys, l3, l4⟩ := listA_ok (P := P) hxs hr hx
      rw [minN_eq] at h l1 l4
      have hlen := lenA_ok (P := P) hsl hx
      have hw : ({ w with drawn := w.drawn } : World) = w := rfl
      have l5 := l4 w.drawn
      rw [hw] at l5
      have hsz : (sizeOf e).run P w = .ok k w := run_sizeOf' hk w
      generalize hm : Nat.min sl dl = m at h l1 l4 l5
      -- the destination's base, and where the cells go
      have key : ∃ base' dc, s' = .slice base' dl dc ∧ ((m = 0 ∧ v = .int .i64 (.ofNat 0) ∧ st' = st) ∨ ∃ nm off kk, base = some ⟨nm, off, none⟩ ∧ σ nm = some kk ∧ base' = some ⟨kk.b, kk.o + off, none⟩ ∧
          ∃ w', (storeCells ⟨kk.b, kk.o + off, none⟩ ys).run P w = .ok () w' ∧ v = .int .i64 (.ofNat m) ∧ Rel σ st' w' ∧ Ext σ st w σ st' w') := by
        unfold copyTo at h
        cases hb : Nat.beq m 0 with
        | true =>
          rw [hb] at h
          have hm0 := beq_iff.1 hb
          subst hm0
          obtain ⟨rfl, rfl⟩ := Re.ok_inj h
          generalize hv : Value.slice base dl c = u at hs
          cases hs with
          | nilslice => cases hv; exact ⟨none, 0, rfl, .inl ⟨rfl, rfl, rfl⟩⟩
          | slice nm off n c2 c3 kk hkk h1 h2 h3 => cases hv; exact ⟨_, _, rfl, .inl ⟨rfl, rfl, rfl⟩⟩
          | void a c' => simp only [voidS, Value.slice.injEq] at hv; obtain ⟨rfl, rfl, rfl⟩ := hv; exact ⟨_, _, rfl, .inl ⟨rfl, rfl, rfl⟩⟩
          | _ => cases hv
        | false =>
          rw [hb] at h
          obtain ⟨a, rfl, h⟩ := osel_ne h Re.no_ne
          obtain ⟨d, mm, es, ex, tr, ho, h⟩ := cellsK_ok h Re.no_ne
          obtain ⟨hle, h⟩ := bsel_ne h Re.no_ne
          have hle : a.off + m * k ≤ mm := ble_iff.1 hle
          obtain ⟨rfl, rfl⟩ := Re.ok_inj h
          generalize hv : Value.slice (some a) dl c = u at hs
          cases hs with
          | slice nm off n c2 c3 kk hkk h1 h2 h3 =>
            cases hv
            obtain ⟨w', s1, s2, s3⟩ := hr.over (P := P) hkk ho (off := off) l3 l2 (by rw [l1]; exact hle) (t' := Bt.put tr (half d) off xs) (fun hp => ⟨(Bt.put_perf hp).1, rfl⟩)
            exact ⟨_, _, rfl, .inr ⟨nm, off, kk, rfl, hkk, rfl, w', s1, rfl, s2, s3⟩⟩
          | void a' c' =>
            simp only [voidS, Value.slice.injEq, Option.some.injEq] at hv
            obtain ⟨rfl, _⟩ := hv
            rw [St.obj_eq, objAt_big (by simp [voidNm])] at ho
            cases ho
          | _ => cases hv
      obtain ⟨base', dc, rfl, hc⟩ := key
      rcases hc with ⟨rfl, rfl, rfl⟩ | ⟨nm, off, kk, rfl, hkk, rfl, w', s1, rfl, s2, s3⟩
      · have hy : ys = [] := List.eq_nil_of_length_eq_zero (by rw [← l3.1, l1]; simp)
        subst hy
        refine ⟨σ, w, .int .i64 (.ofNat 0), ?_, .int _ _, hr, .refl σ st' w⟩
        cases base' with
        | none => simp [Builtin.copy_, ht, run_underlying hu, hlen, hm, hsz, l5, goInt]
        | some a => simp [Builtin.copy_, ht, run_underlying hu, hlen, hm, hsz, l5, goInt, storeCells]
      · refine ⟨σ, w', .int .i64 (.ofNat m), ?_, .int _ _, s2, s3⟩
        simp [Builtin.copy_, ht, run_underlying hu, hlen, hm, hsz, l5, s1, goInt]
    · cases hk
  · cases h

theorem builtin_ok {b : Builtin} {ts : Array TypeId} {ty : TypeId} {consts : Array Bool} {xs ys : List Value} {v : Value} (h : builtinA P b ts xs st = .ok v st') (hr : Rel σ st w) (hx : VRL σ xs ys) :
    Does P (builtin b ts ty consts ⟨ys⟩) σ st w v st' := by
  unfold builtinA at h
  split at h
  · rename_i s x
    obtain ⟨s', r, rfl, hs, hx⟩ := hx.cons_inv
    obtain ⟨x', r', rfl, hx1, hx⟩ := hx.cons_inv
    have := hx.nil_inv; subst this
    exact (append_ok h hr hs hx1).does
  · rename_i s x
    obtain ⟨s', r, rfl, hs, hx⟩ := hx.cons_inv
    obtain ⟨x', r', rfl, hx1, hx⟩ := hx.cons_inv
    have := hx.nil_inv; subst this
    exact (copy_ok h hr hs hx1).does
  · rename_i x
    obtain ⟨x', r', rfl, hx1, hx⟩ := hx.cons_inv
    have := hx.nil_inv; subst this
    split at h
    · rename_i t ht
      obtain ⟨h, rfl⟩ := reO_ok h
      exact (lenK_ok ht h hr hx1).does hr
    · cases h
  · rename_i x
    obtain ⟨x', r', rfl, hx1, hx⟩ := hx.cons_inv
    have := hx.nil_inv; subst this
    split at h
    · rename_i t ht
      obtain ⟨hb, h⟩ := bsel_ne h Re.no_ne
      obtain ⟨h, rfl⟩ := reO_ok h
      exact (capK_ok ht hb h hr hx1).does hr
    · cases h
  · obtain ⟨h2, rfl⟩ := reO_ok h
    exact (minMax_ok (b := true) (ts := ts) (ty := ty) h2 hx).does hr
  · obtain ⟨h2, rfl⟩ := reO_ok h
    exact (minMax_ok (b := false) (ts := ts) (ty := ty) h2 hx).does hr
  · cases h
end
end Go.Proofs.YtieclenlldjfjaaGreat.Ev

set_option autoImplicit false
set_option linter.unusedVariables false
set_option linter.unusedSimpArgs false
namespace Go.Proofs.YtieclenlldjfjaaGreat.Ev
open Go
section
variable {P : Program} {σ : Nm} {st st' : St} {w : World}

theorem eval_mk {f f' : Ac → St → Re} (h : OpF.mk f' = .mk f) : f' = f := by cases h; rfl

theorem AR.evalL {a : Ac} {act : Act} (h : AR σ a act) : ∀ {xs : List Operand}, (∀ x, x ∈ xs → okOpd x = true) → VRL σ (xs.map (evalA a)) (xs.map act.eval)
  | [], _ => .nil
  | x :: xs, hx => .cons (h.eval (hx x (by simp))) (AR.evalL h fun y hy => hx y (by simp [hy]))

theorem parts_ok {a : Ac} {act : Act} (h : AR σ a act) {ps : List (Nat × Operand)} (hx : ∀ x, x ∈ ps.map (·.2) → okOpd x = true) :
    PR σ (ps.map fun (i, x) => (i, evalA a x)) (ps.map fun (i, x) => (i, act.eval x)) := by
  refine ⟨by simp [List.map_map, Function.comp_def], ?_⟩
  have := AR.evalL h hx
  simpa [List.map_map, Function.comp_def] using this

theorem ores {s : Sem Value} {x : Option Value} {v : Value} (h : reO x st = .ok v st') (hr : Rel σ st w) (hg : ∀ v, x = some v → Gives P s σ w v) : Does P (do pure (.value (← s))) σ st w v st' := by
  obtain ⟨h2, rfl⟩ := reO_ok h
  exact (hg v h2).does hr

theorem sres {s : Sem Unit} {x : Option St} {v : Value} (h : reS x = .ok v st') (hg : ∀ st', x = some st' → ∃ w', s.run P w = .ok () w' ∧ Rel σ st' w' ∧ Ext σ st w σ st' w') : Does P (do s; pure .skip) σ st w v st' := by
  obtain ⟨rfl, hh⟩ := reS_ok h
  obtain ⟨w', h1, h2, h3⟩ := hg st' hh
  exact ⟨σ, w', undef, .inr ⟨by rw [Sem.run_bind, h1]; rfl, rfl⟩, .junk σ, h2, h3⟩

theorem evalL_of {a : Ac} {act : Act} : ∀ {xs : List Operand}, (∀ x, x ∈ xs → VR σ (evalA a x) (act.eval x)) → VRL σ (xs.map (evalA a)) (xs.map act.eval)
  | [], _ => .nil
  | x :: xs, hx => .cons (hx x (by simp)) (evalL_of fun y hy => hx y (by simp [hy]))

theorem parts_of {a : Ac} {act : Act} {ps : List (Nat × Operand)} (hx : ∀ x, x ∈ ps.map (·.2) → VR σ (evalA a x) (act.eval x)) :
    PR σ (ps.map fun (i, x) => (i, evalA a x)) (ps.map fun (i, x) => (i, act.eval x)) := by
  refine ⟨by simp [List.map_map, Function.comp_def], ?_⟩
  have := evalL_of hx
  simpa [List.map_map, Function.comp_def] using this

set_option maxHeartbeats 2000000 in
/-- What an operation does. -/
theorem comp_ok {o : Oper} {f : Ac → St → Re} (hc : compOp P o.op = .mk f) {a : Ac} {act : Act} (hops : ∀ x, x ∈ o.op.operands.toList → VR σ (evalA a x) (act.eval x)) (hr : Rel σ st w) {v : Value} (h : f a st = .ok v st') :
    Does P (execOp act.eval o) σ st w v st' := by
  obtain ⟨dst, op, ty, pos, after, guard⟩ := o
  simp only at hc hops
  cases op with
  | move x =>
    have := eval_mk hc; subst this
    dsimp only [execOp]
    obtain ⟨rfl, rfl⟩ := Re.ok_inj h
    exact ⟨σ, w, act.eval x, .inl rfl, (hops x (by simp [Op.operands])), hr, .refl σ st w⟩
  | assign x =>
    have := eval_mk hc; subst this
    dsimp only [execOp]
    obtain ⟨rfl, rfl⟩ := Re.ok_inj h
    exact ⟨σ, w, act.eval x, .inl rfl, (hops x (by simp [Op.operands])), hr, .refl σ st w⟩
  | pick c x y =>
    have := eval_mk hc; subst this
    dsimp only [execOp]
    have e1 := (hops c (by simp [Op.operands]))
    have e2 := (hops x (by simp [Op.operands]))
    have e3 := (hops y (by simp [Op.operands]))
    obtain ⟨rfl, g⟩ := pickK_ok (P := P) (w := w) h e1 e2 e3
    obtain ⟨v', g1, g2⟩ := g
    refine ⟨σ, w, v', .inl ?_, g2, hr, .refl σ st' w⟩
    simp only [Sem.run_bind] at g1 ⊢
    cases hb : (asBool (act.eval c)).run P w with
    | ok b w2 => rw [hb] at g1; simp only [Result.andThen_ok, Sem.run_pure] at g1 ⊢; cases g1; rfl
    | halt e w2 => rw [hb] at g1; cases g1
  | alloc e =>
    have := eval_mk hc; subst this
    dsimp only [execOp]
    exact alloc_ok h hr
  | box e x =>
    have := eval_mk hc; subst this
    dsimp only [execOp]
    exact box_ok h hr ((hops x (by simp [Op.operands])))
  | build t ps =>
    have := eval_mk hc; subst this
    dsimp only [execOp]
    have hp := parts_of (ps := ps.toList) (fun x hx => hops x (by simpa [Op.operands] using hx))
    refine ores h hr fun v hv => ?_
    have := build_ok (w := w) hv hp
    have e : ps.map (fun (i, x) => (i, act.eval x)) = ⟨ps.toList.map fun (i, x) => (i, act.eval x)⟩ := by apply Array.ext'; simp
    rw [e]; exact this
  | buildSlice t n ps =>
    have := eval_mk hc; subst this
    dsimp only [execOp]
    have hp := parts_of (ps := ps.toList) (fun x hx => hops x (by simpa [Op.operands] using hx))
    have := buildSlice_ok h hr hp
    have e : ps.map (fun (i, x) => (i, act.eval x)) = ⟨ps.toList.map fun (i, x) => (i, act.eval x)⟩ := by apply Array.ext'; simp
    rw [e]; exact this
  | load t x =>
    have := eval_mk hc; subst this
    dsimp only [execOp]
    obtain ⟨rfl, g⟩ := load_ok h hr ((hops x (by simp [Op.operands])))
    exact g.does hr
  | store t x y =>
    have := eval_mk hc; subst this
    dsimp only [execOp]
    exact store_ok h hr ((hops x (by simp [Op.operands]))) ((hops y (by simp [Op.operands])))
  | nilCheck x =>
    have := eval_mk hc; subst this
    dsimp only [execOp]
    have e1 := (hops x (by simp [Op.operands]))
    obtain ⟨rfl, rfl, g⟩ := nilK_ok h e1
    refine ⟨σ, w, act.eval x, .inl ?_, e1, hr, .refl σ st' w⟩
    rcases g with ⟨ad, e⟩ | ⟨f, as, bs, e⟩ | ⟨l, as, bs, e⟩ <;> rw [e] <;> rfl
  | binOp op t x y k =>
    have := eval_mk hc; subst this
    dsimp only [execOp]
    exact ores h hr fun v hv => binK_ok hv ((hops x (by simp [Op.operands]))) ((hops y (by simp [Op.operands]))) x y
  | unOp op t x =>
    have := eval_mk hc; subst this
    dsimp only [execOp]
    exact ores h hr fun v hv => unA_ok hv ((hops x (by simp [Op.operands])))
  | convert s d x =>
    have := eval_mk hc; subst this
    dsimp only [execOp]
    exact ores h hr fun v hv => convK_ok hv hr ((hops x (by simp [Op.operands])))
  | makeInterface t x =>
    have := eval_mk hc; subst this
    dsimp only [execOp]
    exact ores h hr fun v hv => mkIface_ok hv ((hops x (by simp [Op.operands])))
  | makeFunc fn first captured =>
    cases fn with
    | func f =>
      have := eval_mk hc; subst this
      dsimp only [execOp]
      obtain ⟨rfl, rfl⟩ := Re.ok_inj h
      have h1 := evalL_of (xs := first.toList) (fun x hx => hops x (by simp only [Op.operands, Array.toList_append, List.mem_append]; exact .inl hx))
      have h2 := evalL_of (xs := captured.toList) (fun x hx => hops x (by simp only [Op.operands, Array.toList_append, List.mem_append]; exact .inr hx))
      have e1 : first.map act.eval = ⟨first.toList.map act.eval⟩ := by apply Array.ext'; simp
      have e2 : captured.map act.eval = ⟨captured.toList.map act.eval⟩ := by apply Array.ext'; simp
      rw [e1, e2]
      exact ⟨σ, w, _, .inl rfl, .func f _ _ _ _ h1.1 h1.2 h2.1 h2.2, hr, .refl σ st w⟩
    | _ => cases hc
  | makeMap t r =>
    cases r with
    | none =>
      have := eval_mk hc; subst this
      dsimp only [execOp]
      exact makeMap_ok h hr
    | some r => cases hc
  | makeSlice t l c =>
    have := eval_mk hc; subst this
    dsimp only [execOp]
    exact makeSlice_ok h hr ((hops l (by simp [Op.operands]))) ((hops c (by simp [Op.operands])))
  | slice t x lo hi mx =>
    have := eval_mk hc; subst this
    dsimp only [execOp]
    cases mx with
    | some m => cases h
    | none =>
      refine ores h hr fun v hv => sliceK_ok hv hr ((hops x (by simp [Op.operands]))) ?_ ?_
      · cases lo with
        | none => trivial
        | some l => exact (hops l (by simp [Op.operands]))
      · cases hi with
        | none => trivial
        | some l => exact (hops l (by simp [Op.operands]))
  | fieldAddr s x f =>
    have := eval_mk hc; subst this
    dsimp only [execOp]
    exact ores h hr fun v hv => fieldPtr_ok hv ((hops x (by simp [Op.operands])))
  | field t x f =>
    have := eval_mk hc; subst this
    dsimp only [execOp]
    exact ores h hr fun v hv => field_ok hv ((hops x (by simp [Op.operands])))
  | indexAddr t x i =>
    have := eval_mk hc; subst this
    dsimp only [execOp]
    exact ores h hr fun v hv => idxK_ok hv ((hops x (by simp [Op.operands]))) ((hops i (by simp [Op.operands])))
  | index t x i =>
    have := eval_mk hc; subst this
    dsimp only [execOp]
    exact ores h hr fun v hv => indexK_ok hv ((hops x (by simp [Op.operands]))) ((hops i (by simp [Op.operands])))
  | lookup t x i ok =>
    have := eval_mk hc; subst this
    dsimp only [execOp]
    exact ores h hr fun v hv => lookupK_ok hv hr ((hops x (by simp [Op.operands]))) ((hops i (by simp [Op.operands])))
  | mapUpdate t m k x =>
    have := eval_mk hc; subst this
    dsimp only [execOp]
    exact sres h fun st' hs => mapSetK_ok hs hr ((hops m (by simp [Op.operands]))) ((hops k (by simp [Op.operands]))) ((hops x (by simp [Op.operands])))
  | insert t m k x =>
    have := eval_mk hc; subst this
    dsimp only [execOp]
    exact sres h fun st' hs => mapSetK_ok hs hr ((hops m (by simp [Op.operands]))) ((hops k (by simp [Op.operands]))) ((hops x (by simp [Op.operands])))
  | mapEntry t m k =>
    have := eval_mk hc; subst this
    dsimp only [execOp]
    obtain ⟨w', v', h1, h2, h3, h4⟩ := mapEntryK_ok h hr ((hops m (by simp [Op.operands]))) ((hops k (by simp [Op.operands])))
    exact DoesV.does ⟨σ, w', v', h1, h2, h3, h4⟩
  | entryStore t m s x =>
    have := eval_mk hc; subst this
    dsimp only [execOp]
    exact sres h fun st' hs => entryStoreK_ok hs hr ((hops m (by simp [Op.operands]))) ((hops s (by simp [Op.operands]))) ((hops x (by simp [Op.operands])))
  | typeAssert x xt asserted ok =>
    have := eval_mk hc; subst this
    dsimp only [execOp]
    exact ores h hr fun v hv => assertA_ok hv ((hops x (by simp [Op.operands])))
  | extract t i =>
    have := eval_mk hc; subst this
    dsimp only [execOp]
    obtain ⟨rfl, g⟩ := extractK_ok (P := P) (w := w) h ((hops t (by simp [Op.operands])))
    exact g.does hr
  | call c =>
    obtain ⟨callee, args, argTypes⟩ := c
    cases callee with
    | builtin b =>
      have := eval_mk hc; subst this
      dsimp only [execOp]
      have hl := evalL_of (xs := args.toList) (fun x hx => hops x (by simpa [Op.operands, Call.operands] using hx))
      have := builtin_ok (ty := ty) (consts := args.map fun | .const _ => true | _ => false) h hr hl
      have e : args.map act.eval = ⟨args.toList.map act.eval⟩ := by apply Array.ext'; simp
      simp only [resolve, e]
      exact this
    | value f => cases hc
    | invoke x n => cases hc
  | _ => cases hc
end
end Go.Proofs.YtieclenlldjfjaaGreat.Ev

set_option autoImplicit false
set_option linter.unusedVariables false
set_option linter.unusedSimpArgs false
namespace Go.Proofs.YtieclenlldjfjaaGreat.Ev
open Go

/-- The fence: no bound; a round's, or not. -/
abbrev Fr (ro : Option Nat) : Fence := { Fence.wide with round := ro }

def RO (σ : Nm) : Option Nat → Option Nat → Prop
  | none, none => True
  | some l, some b => ∃ k, σ l = some k ∧ k.b = b
  | _, _ => False

theorem RO.mono {σ τ : Nm} (hs : Sub σ τ) {a b : Option Nat} (h : RO σ a b) : RO τ a b := by
  cases a <;> cases b <;> first | exact h | skip
  obtain ⟨k, h1, h2⟩ := h
  exact ⟨k, hs _ _ h1, h2⟩

def exitOf : Xit → Exit
  | .normal => .normal
  | .exit id => .exit id
  | .goto l => .goto l
  | .ret => .ret

/-- What a call's end says. -/
def Ends (σ : Nm) (st : St) (w : World) (v : Value) (st' : St) : Ending → World → Prop := fun e w' => ∃ σ' v', e = .returned v' ∧ VR σ' v v' ∧ Rel σ' st' w' ∧ Ext σ st w σ' st' w'

/-- What is known of calls ahead is so. -/
def OrcOk (P : Program) (O : Orc) : Prop := ∀ (f : FuncId) (args : List Value) (st : St) (v : Value) (st' : St), O f args st = .ok v st' →
  ∀ (σ : Nm) (w : World) (args' : List Value), Rel σ st w → VRL σ args args' → ∀ (n : Nat) (ro : Option Nat), CallsIn (Fr ro) n P f ⟨args'⟩ w (Ends σ st w v st')

/-- What a run of a piece of code says. -/
structure CodeOk (P : Program) (rec : Rec) : Prop where
  code : ∀ (c : Code) (ro : Option Nat) (a : Ac) (st : St) (x : Xit) (a' : Ac) (st' : St), rec c ro a st = .ok x a' st' →
    ∀ (σ : Nm) (w : World) (act : Act) (ro' : Option Nat), Rel σ st w → AR σ a act → RO σ ro ro' → ∀ (n : Nat) (Q : Exit → Act → World → Prop),
      (∀ σ' w' act', Rel σ' st' w' → AR σ' a' act' → Ext σ st w σ' st' w' → Q (exitOf x) act' w') → c.wpIn (Fr ro') n P Q act w
  call : OrcOk P rec.call

section
variable {P : Program} {rec : Rec} {σ : Nm} {st st' : St} {w : World}

theorem setArgs_get : ∀ (xs : List Value) (k : Nat) (t : Regs), k + xs.length ≤ 512 → ∀ i, i < 512 → (regAt i).g (setArgs xs k t) = if k ≤ i ∧ i < k + xs.length then xs.getD (i - k) junk else (regAt i).g t
  | [], k, t, h, i, hi => by
    rw [if_neg (by simp)]
    rfl
  | x :: xs, k, t, h, i, hi => by
    show (regAt i).g (setArgs xs (k + 1) ((regAt k).s x t)) = _
    have hl : (x :: xs).length = xs.length + 1 := rfl
    rw [setArgs_get xs (k + 1) _ (by rw [hl] at h; omega) i hi]
    rw [hl] at h ⊢
    by_cases e : i = k
    · subst e
      rw [if_neg (by omega), if_pos (by omega), regAt_same hi]
      simp
    · rw [regAt_other hi (by omega) e]
      by_cases e2 : k + 1 ≤ i ∧ i < k + 1 + xs.length
      · rw [if_pos e2, if_pos (by omega)]
        have : i - k = (i - (k + 1)) + 1 := by omega
        rw [this]; simp
      · rw [if_neg e2, if_neg (by omega)]

theorem args_ok {args args' : List Value} (h : VRL σ args args') {n : Nat} (hl : args.length ≤ n) (hn : n ≤ 512) :
    AR σ (Ac.ofArgs args n) { tmps := ⟨args'⟩ ++ Array.replicate (n - (⟨args'⟩ : Array Value).size) undef, defers := [] } := by
  refine ⟨⟨hn, ?_, fun i hi => ?_⟩, rfl, fun i nm f h => by simp [Ac.ofArgs] at h⟩
  · have := h.1
    simp [Ac.ofArgs]; omega
  · show VR σ ((regAt i).g (setArgs args 0 regs0)) _
    rw [setArgs_get args 0 regs0 (by omega) i hi]
    by_cases hc : i < args.length
    · rw [if_pos ⟨Nat.zero_le _, by omega⟩]
      obtain ⟨u, hu⟩ : ∃ u, args[i]? = some u := ⟨args[i], by simp [hc]⟩
      obtain ⟨v, hv, hr⟩ := h.get hu
      have h1 : args.getD (i - 0) junk = u := by simp [List.getD_eq_getElem?_getD, hu]
      have hc' : i < args'.length := h.1 ▸ hc
      have h2 : ((⟨args'⟩ : Array Value) ++ Array.replicate (n - (⟨args'⟩ : Array Value).size) undef).getD i undef = v := by
        simp only [Array.getD_eq_getD_getElem?]
        rw [Array.getElem?_append_left (by simpa using hc')]
        simp [hv]
      rw [h1, h2]; exact hr
    · rw [if_neg (by omega), regs0_get hi]
      have h2 : ((⟨args'⟩ : Array Value) ++ Array.replicate (n - (⟨args'⟩ : Array Value).size) undef).getD i undef = undef := by
        simp only [Array.getD_eq_getD_getElem?]
        rw [Array.getElem?_append_right (by have := h.1; simp; omega)]
        rw [Array.getElem?_replicate]
        split <;> rfl
      rw [h2]
      exact .junk σ

theorem resA_ok {a : Ac} {act : Act} (hA : AR σ a act) (hr : Rel σ st w) {r : ResultVar} (hok : okRes r = true) {v : Value} (h : resA P a st r = some v) :
    ∃ v', ((match r with | .tmp t => pure (act.tmps.getD t undef) | .cell a t => do loadVar t (← asAddr (act.tmps.getD a undef))) : Sem Value).run P w = .ok v' w ∧ VR σ v v' := by
  cases r with
  | tmp t =>
    cases h
    have ht : @LT.lt Nat _ t 512 := ble_iff.1 hok
    exact ⟨_, rfl, by rw [Ac.get_eq]; exact hA.1.2.2 t ht⟩
  | cell x t =>
    have ht : @LT.lt Nat _ x 512 := ble_iff.1 hok
    have hx : VR σ (a.get x) (act.tmps.getD x undef) := by rw [Ac.get_eq]; exact hA.1.2.2 x ht
    have h : ptrK (a.get x) none (fun b o => Re.rec (motive := fun _ => Option Value) none (fun v _ => some v) (loadK (tyOf P t) b o st)) = some v := h
    obtain ⟨ad, e, h⟩ := ptrK_ok h (by simp)
    rw [e] at hx
    obtain ⟨k, hk, e2⟩ := ptr_inv hx
    cases hl : loadK (tyOf P t) ad.block ad.off st with
    | no => rw [hl] at h; cases h
    | ok u st2 =>
      rw [hl] at h
      cases h
      obtain ⟨rfl, v', h1, h2⟩ := loadK_ok hl hr hk
      refine ⟨v', ?_, h2⟩
      show (do loadVar t (← asAddr (act.tmps.getD x undef)) : Sem Value).run P _ = _
      rw [e2]
      simp [asAddr, h1]

theorem resL_ok {a : Ac} {g : ResultVar → Sem Value} (hg : ∀ r v, okRes r = true → resA P a st r = some v → ∃ v', (g r).run P w = .ok v' w ∧ VR σ v v') : ∀ {rs : List ResultVar} {vs : List Value}, (∀ r, r ∈ rs → okRes r = true) → resL P a st rs = some vs →
    ∃ vs', (rs.mapM (m := Sem) g).run P w = .ok vs' w ∧ VRL σ vs vs'
  | [], vs, _, h => by cases h; exact ⟨[], rfl, .nil⟩
  | r :: rs, vs, hok, h => by
    have h : (osel (resA P a st r) none fun v => osel (resL P a st rs) none fun vs => some (v :: vs)) = some vs := h
    obtain ⟨v, hv, h⟩ := osel_ne h (by simp)
    obtain ⟨us, hu, h⟩ := osel_ne h (by simp)
    cases h
    obtain ⟨v', h1, h2⟩ := hg r v (hok r (by simp)) hv
    obtain ⟨us', h3, h4⟩ := resL_ok hg (fun q hq => hok q (by simp [hq])) hu
    refine ⟨v' :: us', ?_, .cons h2 h4⟩
    rw [List.mapM_cons]
    simp only [Sem.run_bind, Sem.run_pure, h1, Result.andThen_ok, h3]

theorem results_ok {fn : Func} {a : Ac} {act : Act} (hA : AR σ a act) (hr : Rel σ st w) (hok : fn.results.toList.all okRes = true) {v : Value} (h : resultsA P fn a st = .ok v st') :
    st' = st ∧ ∃ v', (results fn act.tmps).run P w = .ok v' w ∧ VR σ v v' := by
  unfold resultsA at h
  have key : ∀ vs, resL P a st fn.results.toList = some vs → ∃ vs', (results fn act.tmps).run P w = .ok (if h : (⟨vs'⟩ : Array Value).size = 1 then (⟨vs'⟩ : Array Value)[0] else .tuple ⟨vs'⟩) w ∧ VRL σ vs vs' := by
    intro vs hvs
    obtain ⟨vs', h1, h2⟩ := resL_ok (P := P) (fun r v hq hv => resA_ok (P := P) hA hr hq hv) (fun r hq => List.all_eq_true.1 hok r hq) hvs
    refine ⟨vs', ?_, h2⟩
    unfold results
    rw [Array.mapM_eq_mapM_toList]
    show ((List.mapM (m := Sem) _ fn.results.toList >>= fun l => pure l.toArray) >>= _).run P w = _
    rw [Sem.run_bind, Sem.run_bind]
    generalize hX : Sem.run P (List.mapM _ fn.results.toList) w = X
    have hX2 : X = .ok vs' w := hX.symm.trans h1
    rw [hX2]
    rfl
  split at h
  · rename_i u hu
    obtain ⟨rfl, rfl⟩ := Re.ok_inj h
    obtain ⟨vs', h1, h2⟩ := key _ hu
    obtain ⟨b, bs, rfl, h3, h4⟩ := h2.cons_inv
    have := h4.nil_inv; subst this
    exact ⟨rfl, b, h1, h3⟩
  · rename_i vs hne hu
    obtain ⟨rfl, rfl⟩ := Re.ok_inj h
    obtain ⟨vs', h1, h2⟩ := key _ hu
    have hl : ¬ (⟨vs'⟩ : Array Value).size = 1 := by
      intro e
      have e1 : vs.length = 1 := by rw [h2.1]; simpa using e
      cases vs with
      | nil => simp at e1
      | cons u us => cases us with
        | nil => exact hne u rfl
        | cons => simp at e1
    rw [dif_neg hl] at h1
    exact ⟨rfl, _, h1, .tuple _ _ h2.1 h2.2⟩
  · cases h

/-- The way out, past the marks. -/
theorem leave_ok {fn : Func} {tmps : Array Value} {n : Nat} {F : Fence} {R : Ending → World → Prop} : ∀ {ds : List Nat} {fs : List Deferred} {st : St} {w : World} {st' : St}, leaveA ds st = .ok st' → DR σ ds fs → Rel σ st w →
    (∀ w', Rel σ st' w' → Ext σ st w σ st' w' → ∃ v, (results fn tmps).run P w' = .ok v w' ∧ R (.returned v) w') → LeavesInM F n P fn tmps R fs .returning w
  | [], fs, st, w, st', h, hd, hr, hR => by
    cases h
    cases fs with
    | nil => exact hR w hr (.refl σ st w)
    | cons f fs => have := hd.1; simp at this
  | b :: bs, [], st, w, st', h, hd, hr, hR => by have := hd.1; simp at this
  | b :: bs, f :: fs, st, w, st', h, hd, hr, hR => by
    have h : (match st.obj b with | .deferred => leaveA bs (st.setObj b .dead) | _ => Rs.no) = .ok st' := h
    split at h
    · rename_i ho
      obtain ⟨k, hk, rfl⟩ := hd.2 0 b f rfl rfl
      obtain ⟨ha, g1⟩ := hr.at hk ho (by simp)
      have g1 : w.heap[k.b]? = some (.deferred (some [])) := g1
      obtain ⟨r1, x1⟩ := hr.upd (o := .dead) (w' := { w with heap := w.heap.setIfInBounds k.b (.deferred none) }) ha hk (by simp) (fun c hc => by simp [Array.getElem?_setIfInBounds_ne (Ne.symm hc)]) trivial rfl rfl rfl
      refine ⟨by simp, .inl ⟨k.b, { w with heap := w.heap.setIfInBounds k.b (.deferred none) }, rfl, ?_, ?_⟩⟩
      · simp [Instr.takeDeferred, getObj, setObj, Sem.run, g1]
      · exact leave_ok h ⟨by have := hd.1; simpa using this, fun i nm f h1 h2 => hd.2 (i + 1) nm f (by simpa using h1) (by simpa using h2)⟩ r1 (fun w' h1 h2 => hR w' h1 (x1.trans h2))
    · cases h

theorem feOf_ok {f : FuncId} {c : Code} {m : Nat} {fn : Func} (h : feOf P f = .mk c m fn) : P.funcs[f]? = some fn ∧ fn.body = some c ∧ (fn.name == "runtime.NumGoroutine") = false ∧ m = fn.ntmps ∧ fn.ntmps ≤ 512 ∧ fn.results.toList.all okRes = true := by
  unfold feOf at h
  split at h
  · cases h
  · rename_i fn' hf
    split at h
    · cases h
    · rename_i c' hb
      cases hn : (fn'.name == "runtime.NumGoroutine") with
      | true => rw [hn] at h; cases h
      | false =>
        rw [hn] at h
        obtain ⟨hc, h⟩ := bsel_ne (α := Fe) (b := fn'.ntmps.ble 512 && fn'.results.toList.all okRes) (t := .mk c' fn'.ntmps fn') (no := .no) (r := .mk c m fn) h (by simp)
        cases h
        rw [Bool.and_eq_true] at hc
        exact ⟨hf, hb, hn, rfl, ble_iff.1 hc.1, hc.2⟩

theorem callF_ok (hrec : CodeOk P rec) {f : FuncId} {args args' : List Value} {v : Value} (h : callF P rec f args st = .ok v st') (hr : Rel σ st w) (ha : VRL σ args args') (n : Nat) (ro : Option Nat) :
    CallsIn (Fr ro) n P f ⟨args'⟩ w (Ends σ st w v st') := by
  unfold callF at h
  cases hfe : feOf P f with
  | no => rw [hfe] at h; cases h
  | mk c m fn =>
    rw [hfe] at h
    obtain ⟨hf, hb, hname, rfl, hm, hres⟩ := feOf_ok hfe
    have h : Re.rec (motive := fun _ => Re) (bsel (Nat.ble (lenL args) fn.ntmps) (endF P fn (rec c none (Ac.ofArgs args fn.ntmps) st)) .no) (fun v st => .ok v st) (rec.call f args st) = .ok v st' := h
    cases hO : rec.call f args st with
    | ok v1 st1 => rw [hO] at h; cases h; exact hrec.call f args st _ _ hO σ w args' hr ha n ro
    | no =>
    rw [hO] at h
    have h : bsel (Nat.ble (lenL args) fn.ntmps) (endF P fn (rec c none (Ac.ofArgs args fn.ntmps) st)) .no = .ok v st' := h
    obtain ⟨hl, h⟩ := bsel_ne h Re.no_ne
    have hl : args.length ≤ fn.ntmps := by have := ble_iff.1 hl; rwa [lenL_eq] at this
    have h : endF P fn (rec c none (Ac.ofArgs args fn.ntmps) st) = .ok v st' := h
    show CallsIn (Fr none) n P f ⟨args'⟩ w (Ends σ st w v st')
    refine callsIn_of_wp_marks hf hb trivial ?_
    cases hrc : rec c none (Ac.ofArgs args fn.ntmps) st with
    | no => rw [hrc] at h; cases h
    | ok x a st1 =>
      rw [hrc] at h
      have fin : ∀ {st2 : St}, leaveA a.defers st1 = .ok st2 → resultsA P fn a st2 = .ok v st' → ∀ σ' w' act', Rel σ' st1 w' → AR σ' a act' → Ext σ st w σ' st1 w' →
          LeavesInM (Fr none) n P fn act'.tmps (Ends σ st w v st') act'.defers .returning w' := by
        intro st2 hle hra σ' w' act' r1 a1 x1
        refine leave_ok hle a1.2 r1 fun w2 r2 x2 => ?_
        obtain ⟨rfl, v', e1, e2⟩ := results_ok (P := P) a1 r2 hres hra
        exact ⟨v', e1, σ', v', rfl, e2, r2, x1.trans x2⟩
      have hrun : ∀ (Q : Exit → Act → World → Prop), (∀ σ' w' act', Rel σ' st1 w' → AR σ' a act' → Ext σ st w σ' st1 w' → Q (exitOf x) act' w') →
          c.wpIn (Fr none) n P Q { tmps := ⟨args'⟩ ++ Array.replicate (fn.ntmps - (⟨args'⟩ : Array Value).size) undef, defers := [] } w :=
        fun Q hQ => hrec.code c none _ st x a st1 hrc σ w _ none hr (args_ok ha hl hm) trivial n Q hQ
      cases x with
      | normal =>
        have h : Rs.rec (motive := fun _ => Re) .no (fun st => resultsA P fn a st) (leaveA a.defers st1) = .ok v st' := h
        cases hle : leaveA a.defers st1 with
        | no => rw [hle] at h; cases h
        | ok st2 => rw [hle] at h; exact hrun _ (fun σ' w' act' r1 a1 x1 => fin hle h σ' w' act' r1 a1 x1)
      | ret =>
        have h : Rs.rec (motive := fun _ => Re) .no (fun st => resultsA P fn a st) (leaveA a.defers st1) = .ok v st' := h
        cases hle : leaveA a.defers st1 with
        | no => rw [hle] at h; cases h
        | ok st2 => rw [hle] at h; exact hrun _ (fun σ' w' act' r1 a1 x1 => fin hle h σ' w' act' r1 a1 x1)
      | exit id => cases h
      | goto l => cases h
end
end Go.Proofs.YtieclenlldjfjaaGreat.Ev

