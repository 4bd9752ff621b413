import Derived.Test.YtolgomkmilbkgaaGreatV9
import Derived.Deep.AppendSrc
import Derived.RangeFuncLeaves
import Derived.TacticsIn
set_option autoImplicit false
set_option linter.unusedVariables false
set_option linter.unusedSimpArgs false
namespace Go.Proofs.YtolgomkmilbkgaaGreat.Ev
open Go
section
variable {P : Program} {σ : Nm} {st st' : St} {w : World}

theorem mapK_ok {β : Type} {o : AObj} {no : β} {f : List MapEntry → Nat → β} {r : β} (h : mapK o no f = r) (hne : no ≠ r) : ∃ es clock, o = .map es clock ∧ f es clock = r := by
  cases o with
  | map es clock => exact ⟨es, clock, rfl, h⟩
  | _ => exact absurd h hne

theorem mpOf_ok {t : TypeId} {agg : Bool} {ks : List Nat} {z : Value} (h : mpOf P t = .mk agg ks z) : ∃ kt e, P.underlying t = some (.map kt e) ∧ flatKs P 20 kt = some ks ∧ agg = isAggT P kt ∧ zeroV P e = some z := by
  unfold mpOf at h
  split at h
  · rename_i kt e hu
    obtain ⟨ks', hk, h⟩ := osel_ne h (by simp)
    obtain ⟨z', hz, h⟩ := osel_ne h (by simp)
    cases h
    exact ⟨kt, e, hu, hk, rfl, hz⟩
  · cases h

theorem run_getObj_map {r : Nat} {es : Array MapEntry} {clock : Nat} (h : w.heap[r]? = some (.map es clock)) : (getObj r).run P w = .ok (.map es clock) w := by
  simp [getObj, Sem.run, h]

theorem run_setObj_map {r : Nat} {es : Array MapEntry} {clock : Nat} (h : w.heap[r]? = some (.map es clock)) (o : Obj) : (setObj r o).run P w = .ok () { w with heap := w.heap.setIfInBounds r o } := by
  simp [setObj, Sem.run, h]

theorem okV_rel {ok : Bool} {v v' : Value} (h : VR σ v v') (b : Bool) : VR σ (okV ok v b) (if ok then .tuple #[v', .bool b] else v') := by
  cases ok
  · exact h
  · exact VRL.two h (.bool b)

theorem keyCheck {kt : TypeId} {ks : List Nat} (hks : flatKs P 20 kt = some ks) {k k' : Value} (hk : VR σ k k') {xs : List Value} (h : keyCells (isAggT P kt) ks k = some xs) (em : Bool) (w : World) :
    (Instr.checkKey em 10000 kt k').run P w = .ok () w := by
  obtain ⟨xs', _, x2⟩ := keyCells_ok h hk
  rw [isAggT_ok hks x2]
  exact run_checkKey_flat em 20 kt ks hks 10000 (by omega) xs' w x2.1

theorem lookupK_ok {t : TypeId} {x x' k k' v : Value} {ok : Bool} (h : lookupK (mpOf P t) x k ok st = some v) (hr : Rel σ st w) (hx : VR σ x x') (hk : VR σ k k') :
    Gives P (Instr.lookup t x' k' ok) σ w v := by
  cases hm : mpOf P t with
  | no => rw [hm] at h; cases h
  | mk agg ks z =>
    rw [hm] at h
    obtain ⟨kt, e, hu, hks, rfl, hz⟩ := mpOf_ok hm
    have h : (osel (keyCells (isAggT P kt) ks k) none fun _ =>
      match x with
      | .map none => some (okV ok z false)
      | .map (some r) => mapK (st.obj r) none fun es _ => osel (findA (isAggT P kt) ks k es 0) none fun q => osel q (some (okV ok z false)) fun p => some (okV ok p.2.val true)
      | _ => none) = some v := h
    obtain ⟨xs, hxs, h⟩ := osel_ne h (by simp)
    obtain ⟨z1, z2⟩ := zeroV_ok (σ := σ) hz
    have hck := fun em => keyCheck hks hk hxs em w
    cases hx with
    | nilmap =>
      cases h
      refine ⟨_, ?_, okV_rel z2 false⟩
      unfold Instr.lookup
      simp only [Sem.run_bind, run_underlying hu, Result.andThen_ok, Sem.run_pure, hck]
      have : (Instr.findKey kt k' (#[] : Array MapEntry).toList).run P w = .ok none w := run_findKey hks hk (es := []) (es' := []) (r := none) rfl ⟨rfl, fun i e e' he => by simp at he⟩ ⟨xs, hxs⟩
      simp only [this, Result.andThen_ok, Sem.run_bind, z1, Sem.run_pure]
    | map nm kk hkk =>
      obtain ⟨es, clock, ho, h⟩ := mapK_ok h (by simp)
      obtain ⟨q, hq, h⟩ := osel_ne h (by simp)
      obtain ⟨ha, es', g1, g2⟩ := hr.at hkk ho (by simp)
      have hf := run_findKey (w := w) hks hk hq g2 ⟨xs, hxs⟩
      cases q with
      | none =>
        cases h
        refine ⟨_, ?_, okV_rel z2 false⟩
        unfold Instr.lookup
        simp only [Sem.run_bind, run_underlying hu, Result.andThen_ok, Sem.run_pure, run_getObj_map g1, hck]
        simp only [hf, Result.andThen_ok, Sem.run_bind, z1, Sem.run_pure]
      | some p =>
        obtain ⟨j, en⟩ := p
        obtain ⟨en', f1, f2, f3, f4, f5⟩ := hf
        cases h
        have he : ER σ en en' := g2.2 j en en' f1 f2
        refine ⟨_, ?_, okV_rel he.2.1 true⟩
        unfold Instr.lookup
        simp only [Sem.run_bind, run_underlying hu, Result.andThen_ok, Sem.run_pure, run_getObj_map g1, hck]
        simp only [f4, Result.andThen_ok, Sem.run_bind, Sem.run_pure]
    | _ => cases h

theorem setNth_eq (e : MapEntry) : ∀ (es : List MapEntry) (i : Nat), setNth e es i = es.set i e
  | [], i => rfl
  | x :: es, 0 => rfl
  | x :: es, i + 1 => by show x :: setNth e es i = _; rw [setNth_eq e es i]; rfl

theorem ERL.set {es es' : List MapEntry} (h : ERL σ es es') (i : Nat) {e e' : MapEntry} (he : ER σ e e') : ERL σ (es.set i e) (es'.set i e') := by
  refine ⟨by simp [h.1], fun j a b ha hb => ?_⟩
  rw [List.getElem?_set] at ha hb
  by_cases hij : i = j
  · rw [if_pos hij] at ha hb
    split at ha
    · split at hb
      · cases ha; cases hb; exact he
      · cases hb
    · cases ha
  · rw [if_neg hij] at ha hb
    exact h.2 j a b ha hb

theorem ERL.push {es es' : List MapEntry} (h : ERL σ es es') {e e' : MapEntry} (he : ER σ e e') : ERL σ (es ++ [e]) (es' ++ [e']) := by
  refine ⟨by simp [h.1], fun j a b ha hb => ?_⟩
  by_cases hj : j < es.length
  · rw [List.getElem?_append_left hj] at ha
    rw [List.getElem?_append_left (by rw [← h.1]; exact hj)] at hb
    exact h.2 j a b ha hb
  · rw [List.getElem?_append_right (by omega)] at ha
    rw [List.getElem?_append_right (by rw [← h.1]; omega), ← h.1] at hb
    cases hjj : j - es.length with
    | zero => rw [hjj] at ha hb; cases ha; cases hb; exact he
    | succ n => rw [hjj] at ha; cases ha

/-- A map written, in both states. -/
theorem Rel.setMap (hr : Rel σ st w) {nm : Nat} {k : Blk} (hk : σ nm = some k) {es : List MapEntry} {clock : Nat} (ho : st.obj nm = .map es clock) {es1 es2 : List MapEntry} {clock' : Nat} (he : ERL σ es1 es2) :
    Rel σ (st.setObj nm (.map es1 clock')) { w with heap := w.heap.setIfInBounds k.b (.map ⟨es2⟩ clock') } ∧ Ext σ st w σ (st.setObj nm (.map es1 clock')) { w with heap := w.heap.setIfInBounds k.b (.map ⟨es2⟩ clock') } := by
  obtain ⟨ha, es', g1, g2⟩ := hr.at hk ho (by simp)
  have hb := hr.bound nm k hk
  refine hr.upd ha hk (by simp) (fun b hb => by simp [Array.getElem?_setIfInBounds_ne (Ne.symm hb)]) ⟨es2, by simp [hb], he⟩ rfl rfl rfl

theorem mapSetK_ok {t : TypeId} {x x' k k' v v' : Value} (h : mapSetK (mpOf P t) x k v st = some st') (hr : Rel σ st w) (hx : VR σ x x') (hk : VR σ k k') (hv : VR σ v v') :
    ∃ w', (Instr.mapUpdate t x' k' v').run P w = .ok () w' ∧ Rel σ st' w' ∧ Ext σ st w σ st' w' := by
  cases hm : mpOf P t with
  | no => rw [hm] at h; cases h
  | mk agg ks z =>
    rw [hm] at h
    obtain ⟨kt, e, hu, hks, rfl, hz⟩ := mpOf_ok hm
    have h : (osel (keyCells (isAggT P kt) ks k) none fun _ =>
      match x with
      | .map (some r) => mapK (st.obj r) none fun es clock => osel (findA (isAggT P kt) ks k es 0) none fun q =>
          osel q (some (st.setObj r (.map (es ++ [{ key := k, val := v, born := clock }]) (clock + 1)))) fun p => some (st.setObj r (.map (setNth { key := k, val := v, born := p.2.born } es p.1) clock))
      | _ => none) = some st' := h
    obtain ⟨xs, hxs, h⟩ := osel_ne h (by simp)
    have hck := fun em => keyCheck hks hk hxs em w
    cases hx with
    | map nm kk hkk =>
      obtain ⟨es, clock, ho, h⟩ := mapK_ok h (by simp)
      obtain ⟨q, hq, h⟩ := osel_ne h (by simp)
      obtain ⟨ha, es', g1, g2⟩ := hr.at hkk ho (by simp)
      have hf := run_findKey (w := w) hks hk hq g2 ⟨xs, hxs⟩
      cases q with
      | none =>
        cases h
        refine ⟨_, ?_, hr.setMap hkk ho (g2.push (e := { key := k, val := v, born := clock }) (e' := { key := k', val := v', born := clock }) ⟨hk, hv, rfl⟩)⟩
        unfold Instr.mapUpdate
        simp only [Sem.run_bind, run_underlying hu, Result.andThen_ok, run_getObj_map g1, hck, hf]
        rw [run_setObj_map g1]
        simp
      | some p =>
        obtain ⟨j, en⟩ := p
        obtain ⟨en', f1, f2, f3, f4, f5⟩ := hf
        cases h
        have he : ER σ en en' := g2.2 j en en' f1 f2
        rw [setNth_eq]
        refine ⟨_, ?_, hr.setMap hkk ho (g2.set j (e := { key := k, val := v, born := en.born }) (e' := { key := k', val := v', born := en'.born }) ⟨hk, hv, he.2.2⟩)⟩
        unfold Instr.mapUpdate
        simp only [Sem.run_bind, run_underlying hu, Result.andThen_ok, run_getObj_map g1, hck, f4]
        have hkey : ((⟨es'⟩ : Array MapEntry)[j]?.map (·.key)).getD k' = en'.key := by simp [f2]
        simp only [hkey, Instr.keyThatStays, f5, if_true, Sem.run_pure, Result.andThen_ok]
        rw [run_setObj_map g1]
        congr 4
        apply Array.ext'
        apply List.ext_getElem?
        intro i
        simp only [Array.toList_modify, List.getElem?_modify, List.getElem?_set]
        by_cases hij : j = i
        · subst hij
          simp [f2]
          have := (List.getElem?_eq_some_iff.1 f2).1
          simp [this]
        · simp [hij]
    | _ => cases h
end
end Go.Proofs.YtolgomkmilbkgaaGreat.Ev

set_option autoImplicit false
set_option linter.unusedVariables false
set_option linter.unusedSimpArgs false
namespace Go.Proofs.YtolgomkmilbkgaaGreat.Ev
open Go
section
variable {P : Program} {σ : Nm} {st st' : St} {w : World}

theorem mapEntryK_ok {t : TypeId} {x x' k k' v : Value} (h : mapEntryK (mpOf P t) x k st = .ok v st') (hr : Rel σ st w) (hx : VR σ x x') (hk : VR σ k k') :
    ∃ w' v', (Instr.mapEntry t x' k').run P w = .ok v' w' ∧ VR σ v v' ∧ Rel σ st' w' ∧ Ext σ st w σ st' w' := by
  cases hm : mpOf P t with
  | no => rw [hm] at h; cases h
  | mk agg ks z =>
    rw [hm] at h
    obtain ⟨kt, e, hu, hks, rfl, hz⟩ := mpOf_ok hm
    have h : (osel (keyCells (isAggT P kt) ks k) .no fun _ =>
      match (generalizing := false) x with
      | .map (some r) => mapK (st.obj r) .no fun es clock => osel (findA (isAggT P kt) ks k es 0) .no fun q =>
          osel q (.ok (.tuple ⟨[z, .int .i64 (.ofNat clock)]⟩) (st.setObj r (.map (es ++ [{ key := k, val := z, born := clock }]) (clock + 1))))
            fun p => .ok (.tuple ⟨[p.2.val, .int .i64 (.ofNat p.2.born)]⟩) (st.setObj r (.map (setNth { key := k, val := p.2.val, born := p.2.born } es p.1) clock))
      | _ => .no) = Re.ok v st' := h
    obtain ⟨xs, hxs, h⟩ := osel_ne h Re.no_ne
    obtain ⟨z1, z2⟩ := zeroV_ok (σ := σ) hz
    have hck := fun em => keyCheck hks hk hxs em w
    cases hx with
    | map nm kk hkk =>
      obtain ⟨es, clock, ho, h⟩ := mapK_ok h Re.no_ne
      obtain ⟨q, hq, h⟩ := osel_ne h Re.no_ne
      obtain ⟨ha, es', g1, g2⟩ := hr.at hkk ho (by simp)
      have hf := run_findKey (w := w) hks hk hq g2 ⟨xs, hxs⟩
      cases q with
      | none =>
        obtain ⟨rfl, rfl⟩ := Re.ok_inj h
        refine ⟨_, _, ?_, VRL.two z2 (.int .i64 clock), hr.setMap hkk ho (g2.push (e := { key := k, val := z, born := clock }) (e' := { key := k', val := z, born := clock }) ⟨hk, z2, rfl⟩)⟩
        unfold Instr.mapEntry
        simp only [Sem.run_bind, run_underlying hu, Result.andThen_ok, run_getObj_map g1, hck, hf, z1]
        rw [run_setObj_map g1]
        simp [goInt]
      | some p =>
        obtain ⟨j, en⟩ := p
        obtain ⟨en', f1, f2, f3, f4, f5⟩ := hf
        obtain ⟨rfl, rfl⟩ := Re.ok_inj h
        have he : ER σ en en' := g2.2 j en en' f1 f2
        rw [setNth_eq]
        refine ⟨_, _, ?_, VRL.two he.2.1 (by rw [he.2.2]; exact VR.int (σ := σ) .i64 (Int.ofNat en'.born)), hr.setMap hkk ho (g2.set j (e := { key := k, val := en.val, born := en.born }) (e' := { key := k', val := en'.val, born := en'.born }) ⟨hk, he.2.1, he.2.2⟩)⟩
        unfold Instr.mapEntry
        simp only [Sem.run_bind, run_underlying hu, Result.andThen_ok, run_getObj_map g1, hck, f4]
        have hkey : ((⟨es'⟩ : Array MapEntry)[j]?.map (·.key)).getD k' = en'.key := by simp [f2]
        have hborn : ((⟨es'⟩ : Array MapEntry)[j]?.map (·.born)).getD 0 = en'.born := by simp [f2]
        simp only [hkey, hborn, Instr.keyThatStays, f5, if_true, Sem.run_pure, Result.andThen_ok]
        rw [run_setObj_map g1]
        have : (⟨es'⟩ : Array MapEntry).modify j (fun e => { e with key := k' }) = ⟨es'.set j { key := k', val := en'.val, born := en'.born }⟩ := by
          apply Array.ext'
          apply List.ext_getElem?
          intro i
          simp only [Array.toList_modify, List.getElem?_modify, List.getElem?_set]
          by_cases hij : j = i
          · subst hij
            obtain ⟨hj, hje⟩ := List.getElem?_eq_some_iff.1 f2
            simp [hj, hje]
          · simp [hij]
        rw [this]
        simp [goInt, f2, he.2.2]
    | _ => cases h

theorem bornAt_ok {n : Int} {v v' : Value} (hv : VR σ v v') : ∀ {es es' es2 : List MapEntry}, bornAt n v es = some es2 → ERL σ es es' →
    ∃ i, es'.findIdx? (fun e => (e.born : Int) == n) = some i ∧ ERL σ es2 (es'.modify i fun e => { e with val := v' })
  | [], es', es2, h, _ => by cases h
  | e :: es, [], es2, h, hl => by have := hl.1; simp at this
  | e :: es, e' :: es', es2, h, hl => by
    have h : bsel (iEq (e.born : Int) n) (some ({ e with val := v } :: es)) ((bornAt n v es).map (e :: ·)) = some es2 := h
    have he : ER σ e e' := hl.2 0 e e' rfl rfl
    have hls : ERL σ es es' := ⟨by have := hl.1; simpa using this, fun i a b ha hb => hl.2 (i + 1) a b (by simpa using ha) (by simpa using hb)⟩
    have hbb := he.2.2
    rw [iEq_eq, bsel_eq, hbb] at h
    by_cases hb : ((e'.born : Int) == n) = true
    · rw [if_pos hb] at h
      cases h
      refine ⟨0, by rw [List.findIdx?_cons, hb]; rfl, by simp [hls.1], fun i a b ha hb => ?_⟩
      cases i with
      | zero => simp at ha hb; subst ha; subst hb; exact ⟨he.1, hv, rfl⟩
      | succ i => exact hls.2 i a b (by simpa using ha) (by simpa using hb)
    · rw [if_neg hb] at h
      cases hr : bornAt n v es with
      | none => rw [hr] at h; cases h
      | some es3 =>
        rw [hr] at h
        cases h
        obtain ⟨i, h1, h2⟩ := bornAt_ok hv hr hls
        refine ⟨i + 1, by rw [List.findIdx?_cons, Bool.eq_false_iff.2 hb]; simp [h1], by simp [h2.1], fun j a b ha hb => ?_⟩
        cases j with
        | zero => simp at ha hb; subst ha; subst hb; exact he
        | succ j => exact h2.2 j a b (by simpa using ha) (by simpa using hb)

theorem entryStoreK_ok {t : TypeId} {m m' s s' v v' : Value} (h : entryStoreK m s v st = some st') (hr : Rel σ st w) (hm : VR σ m m') (hs : VR σ s s') (hv : VR σ v v') :
    ∃ w', (Instr.entryStore t m' s' v').run P w = .ok () w' ∧ Rel σ st' w' ∧ Ext σ st w σ st' w' := by
  unfold entryStoreK at h
  split at h
  · rename_i r _ n
    cases hm with
    | map nm kk hkk =>
      have := int_inv hs
      subst this
      obtain ⟨es, clock, ho, h⟩ := mapK_ok h (by simp)
      obtain ⟨es2, hb, h⟩ := osel_ne h (by simp)
      cases h
      obtain ⟨ha, es', g1, g2⟩ := hr.at hkk ho (by simp)
      obtain ⟨i, h1, h2⟩ := bornAt_ok hv hb g2
      refine ⟨_, ?_, hr.setMap hkk ho h2⟩
      unfold Instr.entryStore
      simp only [Sem.run_bind, run_getObj_map g1, Result.andThen_ok, asInt, asIntOf, Sem.run_pure, List.findIdx?_toArray, h1]
      rw [run_setObj_map g1]
      simp
  · cases h

/-- A new object of no cells. -/
theorem makeMap_ok {t : TypeId} {v : Value} (h : allK (.map [] 0) (fun nm => .map (some nm)) st = .ok v st') (hr : Rel σ st w) :
    Does P (do pure (.value (← Instr.makeMap t none))) σ st w v st' := by
  obtain ⟨rfl, rfl⟩ := allK_ok h
  obtain ⟨σ', s1, s2, s3⟩ := hr.new (o := .map [] 0) (ob := .map #[] 0) (k := ⟨w.heap.size, 0, 0, 0, false⟩) rfl fun τ w' hs ht hw => ⟨[], hw, rfl, fun i e e' he => by simp at he⟩
  exact ⟨σ', _, _, .inl (by simp [Instr.makeMap, newObj]; rfl), .map _ _ s1, s2, s3⟩
end
end Go.Proofs.YtolgomkmilbkgaaGreat.Ev

set_option autoImplicit false
set_option linter.unusedVariables false
set_option linter.unusedSimpArgs false
namespace Go.Proofs.YtolgomkmilbkgaaGreat.Ev
open Go
section
variable {P : Program} {σ : Nm} {st st' : St} {w : World}

def overL (xs : List Value) (k : Nat) (ys : List Value) : List Value := xs.take k ++ ys ++ xs.drop (k + ys.length)

theorem overL_len {xs ys : List Value} {k : Nat} (h : k + ys.length ≤ xs.length) : (overL xs k ys).length = xs.length := by
  unfold overL; simp; omega

theorem spliceL_eq : ∀ {xs ys zs : List Value} {k : Nat}, k + ys.length ≤ xs.length → spliceL xs k ys = some zs → zs = overL xs k ys
  | xs, [], zs, k, _, h => by
    have : spliceL xs k [] = some xs := by cases xs <;> rfl
    rw [this] at h; cases h
    unfold overL; simp
  | [], y :: ys, zs, k, hk, h => by simp at hk
  | x :: xs, y :: ys, zs, 0, hk, h => by
    have h : (spliceL xs 0 ys).map (y :: ·) = some zs := h
    cases hr : spliceL xs 0 ys with
    | none => rw [hr] at h; cases h
    | some u =>
      rw [hr] at h; cases h
      rw [spliceL_eq (by simp at hk ⊢; omega) hr]
      simp [overL]
  | x :: xs, y :: ys, zs, k + 1, hk, h => by
    have h : (spliceL xs k (y :: ys)).map (x :: ·) = some zs := h
    cases hr : spliceL xs k (y :: ys) with
    | none => rw [hr] at h; cases h
    | some u =>
      rw [hr] at h; cases h
      rw [spliceL_eq (by simp at hk ⊢; omega) hr]
      simp [overL, show k + 1 + (ys.length + 1) = (k + (ys.length + 1)) + 1 by omega]

theorem fold_over : ∀ (ys : List Value) (off j : Nat) (cells : Array Value), off + j + ys.length ≤ cells.size →
    (ys.zipIdx j).foldl (fun cs (q : Value × Nat) => cs.setIfInBounds (off + q.2) q.1) cells = ⟨overL cells.toList (off + j) ys⟩
  | [], off, j, cells, h => by simp [overL]
  | y :: ys, off, j, cells, h => by
    rw [List.zipIdx_cons, List.foldl_cons, fold_over ys off (j + 1) _ (by simp at h ⊢; omega)]
    congr 1
    have hlt : off + j < cells.toList.length := by simp at h ⊢; omega
    simp only [overL, Array.toList_setIfInBounds, List.length_cons]
    have e1 : (cells.toList.set (off + j) y).take (off + (j + 1)) = cells.toList.take (off + j) ++ [y] := by
      rw [List.set_eq_take_append_cons_drop, if_pos hlt, List.take_append, List.take_of_length_le (by simp; omega)]
      congr 1
      have : off + (j + 1) - (List.take (off + j) cells.toList).length = 1 := by simp at hlt ⊢; omega
      rw [this]; rfl
    have e2 : (cells.toList.set (off + j) y).drop (off + (j + 1) + ys.length) = cells.toList.drop (off + j + (ys.length + 1)) := by
      rw [List.drop_set]
      rw [if_pos (by omega)]
      congr 1; omega
    rw [e1, e2]
    simp

theorem VRL.over {xs xs' ys ys' : List Value} (h : VRL σ xs xs') (k : Nat) (h' : VRL σ ys ys') : VRL σ (overL xs k ys) (overL xs' k ys') := by
  unfold overL
  rw [← h'.1]
  exact ((h.take k).append h').append (h.drop _)

/-- Parts, one by one. -/
def PR (σ : Nm) (ps ps' : List (Nat × Value)) : Prop := ps.map (·.1) = ps'.map (·.1) ∧ VRL σ (ps.map (·.2)) (ps'.map (·.2))

theorem fillL_ok {place place' : Nat → Option (Nat × Nat)} (hp : ∀ i q, place i = some q → place' i = some q) : ∀ {ps ps' : List (Nat × Value)} {cells cells' out : List Value},
    fillL place cells ps = some out → PR σ ps ps' → VRL σ cells cells' → (∀ u, u ∈ cells → u.oneCell' = true) →
    ∃ out', Instr.fill place' ⟨cells'⟩ ps' = some ⟨out'⟩ ∧ VRL σ out out' ∧ (∀ u, u ∈ out → u.oneCell' = true)
  | [], [], cells, cells', out, h, _, hc, h1 => by
    cases h
    exact ⟨cells', rfl, hc, h1⟩
  | [], _ :: _, cells, cells', out, h, hps, hc, h1 => by have := hps.1; simp at this
  | _ :: _, [], cells, cells', out, h, hps, hc, h1 => by have := hps.1; simp at this
  | (i, v) :: ps, (i', v') :: ps', cells, cells', out, h, hps, hc, h1 => by
    have e1 := hps.1
    simp only [List.map_cons, List.cons.injEq] at e1
    obtain ⟨rfl, e1⟩ := e1
    obtain ⟨b, bs, e2, hv, hvs⟩ := hps.2.cons_inv
    cases e2
    have h : (osel (place i) none fun q => osel (cellsO v) none fun ys => bsel (Nat.beq (lenL ys) q.2) (bsel (Nat.ble (Nat.add q.1 q.2) (lenL cells)) (
      osel (spliceL cells q.1 ys) none fun cells' => fillL place cells' ps) none) none) = some out := h
    obtain ⟨q, hq, h⟩ := osel_ne h (by simp)
    obtain ⟨ys, hy, h⟩ := osel_ne h (by simp)
    obtain ⟨hb, h⟩ := bsel_ne h (by simp)
    obtain ⟨hb2, h⟩ := bsel_ne h (by simp)
    obtain ⟨zs, hz, h⟩ := osel_ne h (by simp)
    obtain ⟨g1, g2⟩ := cellsO_ok hy hv
    have hb : ys.length = q.2 := by have := beq_iff.1 hb; rwa [lenL_eq] at this
    have hb2 : q.1 + q.2 ≤ cells.length := by have := ble_iff.1 hb2; rwa [lenL_eq] at this
    have hz := spliceL_eq (by omega) hz
    subst hz
    have hl := g1.1
    have hcl := hc.1
    obtain ⟨out', o1, o2, o3⟩ := fillL_ok hp (cells' := overL cells' q.1 v'.cells.toList) h ⟨e1, hvs⟩ (hc.over q.1 g1) (fun u hu => by
      unfold overL at hu
      simp only [List.mem_append] at hu
      rcases hu with (hu | hu) | hu
      · exact h1 u (List.mem_of_mem_take hu)
      · exact g2 u hu
      · exact h1 u (List.mem_of_mem_drop hu))
    refine ⟨out', ?_, o2, o3⟩
    show (match place' i with
      | none => none
      | some (off, size) =>
        if v'.cells.size ≠ size || off + v'.cells.size > (⟨cells'⟩ : Array Value).size then none
        else Instr.fill place' (v'.cells.zipIdx.foldl (fun cs (c, j) => cs.setIfInBounds (off + j) c) ⟨cells'⟩) ps') = _
    rw [hp i q hq]
    obtain ⟨off, size⟩ := q
    simp only at hb hb2 o1 ⊢
    have hsz : v'.cells.size = size := by rw [← Array.length_toList, ← hl, hb]
    have hno : ¬ (off + size > cells'.length) := by omega
    rw [hsz]
    simp only [ne_eq, not_true, decide_false, Bool.false_or, List.size_toArray, decide_eq_true_eq, hno, if_false, gt_iff_lt]
    rw [if_neg (by simp)]
    rw [← o1]
    congr 1
    have := fold_over v'.cells.toList off 0 ⟨cells'⟩ (by simp only [Array.length_toList, hsz, List.size_toArray]; show off + 0 + size ≤ cells'.length; omega)
    rw [← Array.foldl_toList, Array.toList_zipIdx]
    exact this

theorem nthP_eq (xs : List (Nat × Nat)) : ∀ i, nthP xs i = xs[i]? := by
  induction xs with
  | nil => intro i; rfl
  | cons x xs ih => intro i; cases i with | zero => rfl | succ i => exact ih i

theorem placesOf_ok : ∀ {fs : List Field} {pl : List (Nat × Nat)}, placesOf P fs = some pl → ∀ w, (fs.mapM (m := Sem) fun f => do pure (f.offset, ← sizeOf f.type)).run P w = .ok pl w
  | [], pl, h, w => by cases h; rfl
  | f :: fs, pl, h, w => by
    have h : (osel (tySize P f.type) none fun k => osel (placesOf P fs) none fun l => some ((f.offset, k) :: l)) = some pl := h
    obtain ⟨k, hk, h⟩ := osel_ne h (by simp)
    obtain ⟨l, hl, h⟩ := osel_ne h (by simp)
    cases h
    have ih := placesOf_ok hl w
    rw [List.mapM_cons]
    simp only [Sem.run_bind, run_sizeOf' hk, Result.andThen_ok, Sem.run_pure, ih]

theorem build_ok {t : TypeId} {ps ps' : List (Nat × Value)} {v : Value} (h : buildA (blOf P t) ps = some v) (hp : PR σ ps ps') : Gives P (Instr.build t ⟨ps'⟩) σ w v := by
  cases hb : blOf P t with
  | no => rw [hb] at h; cases h
  | str z pl =>
    rw [hb] at h
    unfold blOf at hb
    obtain ⟨z', hz, hb⟩ := osel_ne hb (by simp)
    split at hb
    · rename_i fs hu
      obtain ⟨pl', hpl, hb⟩ := osel_ne hb (by simp)
      cases hb
      obtain ⟨l, hl, h⟩ := osel_ne h (by simp)
      cases h
      obtain ⟨zv, z1, z2, z3⟩ := zeroL_ok hz
      obtain ⟨out', o1, o2, o3⟩ := fillL_ok (place' := fun i => (⟨pl⟩ : Array (Nat × Nat))[i]?) (fun i q hq => by rw [nthP_eq] at hq; simpa using hq) hl hp (VRL.flat z3) (flat_one z3)
      refine ⟨.agg ⟨out'⟩, ?_, .agg _ _ o3 o2.1 o2.2⟩
      unfold Instr.build
      have hm : (fs.mapM (m := Sem) fun f => do pure (f.offset, ← sizeOf f.type)).run P w = .ok ⟨pl⟩ w := by
        rw [Array.mapM_eq_mapM_toList]
        show (List.mapM (m := Sem) (fun (f : Field) => do pure (f.offset, ← sizeOf f.type)) fs.toList >>= fun l => pure l.toArray).run P w = _
        rw [Sem.run_bind, placesOf_ok hpl w]
        rfl
      simp only [Sem.run_bind, run_zeroValue z1, Result.andThen_ok, run_underlying hu, z2, Sem.run_pure, hm, o1]
    · obtain ⟨k, hk, hb⟩ := osel_ne hb (by simp)
      cases hb
    · cases hb
  | arr z k =>
    rw [hb] at h
    unfold blOf at hb
    obtain ⟨z', hz, hb⟩ := osel_ne hb (by simp)
    split at hb
    · obtain ⟨pl', hpl, hb⟩ := osel_ne hb (by simp)
      cases hb
    · rename_i n e hu
      obtain ⟨k', hk, hb⟩ := osel_ne hb (by simp)
      cases hb
      obtain ⟨l, hl, h⟩ := osel_ne h (by simp)
      cases h
      obtain ⟨zv, z1, z2, z3⟩ := zeroL_ok hz
      obtain ⟨out', o1, o2, o3⟩ := fillL_ok (place' := fun i => some (i * k, k)) (fun i q hq => hq) hl hp (VRL.flat z3) (flat_one z3)
      refine ⟨.agg ⟨out'⟩, ?_, .agg _ _ o3 o2.1 o2.2⟩
      unfold Instr.build
      simp only [Sem.run_bind, run_zeroValue z1, Result.andThen_ok, run_underlying hu, z2, Sem.run_pure, run_sizeOf' hk, o1]
    · cases hb

theorem repL_len (z : List Value) : ∀ n, (repL z n).length = n * z.length
  | 0 => by simp [repL]
  | n + 1 => by rw [repL, List.length_append, repL_len z n, Nat.succ_mul]; omega

theorem repL_get (z : List Value) : ∀ n i, i < n * z.length → (repL z n)[i]? = z[i % z.length]?
  | 0, i, h => by omega
  | n + 1, i, h => by
    rw [repL]
    by_cases hc : i < z.length
    · rw [List.getElem?_append_left hc, Nat.mod_eq_of_lt hc]
    · rw [List.getElem?_append_right (by omega), repL_get z n (i - z.length) (by rw [Nat.succ_mul] at h; omega)]
      rw [Nat.mod_eq_sub_mod (by omega : i ≥ z.length)]

theorem rep_eq (z : List Value) (n : Nat) : (Array.range (n * z.length)).map (fun i => (⟨z⟩ : Array Value)[i % z.length]!) = ⟨repL z n⟩ := by
  apply Array.ext'
  apply List.ext_getElem?
  intro i
  by_cases hi : i < n * z.length
  · rw [repL_get z n i hi]
    have hz : 0 < z.length := by rcases Nat.eq_zero_or_pos z.length with h | h; rw [h] at hi; omega; exact h
    have hm := Nat.mod_lt i hz
    simp [hi, hm]
  · rw [List.getElem?_eq_none (by simp; omega), List.getElem?_eq_none (by rw [repL_len]; omega)]

theorem repL_flat {z : List Value} (h : z.all flat = true) : ∀ n, (repL z n).all flat = true
  | 0 => rfl
  | n + 1 => by rw [repL, List.all_append, h, repL_flat h n]; rfl

theorem mkOf_ok {t : TypeId} {k : Nat} {z : List Value} {b : Bool} (h : mkOf P t = .mk k z b) : ∃ e, P.underlying t = some (.slice e) ∧ tySize P e = some k ∧ zeroL P e = some z ∧ z.length = k ∧ b = smallB P e := by
  unfold mkOf at h
  split at h
  · rename_i e hu
    obtain ⟨k', hk, h⟩ := osel_ne h (by simp)
    obtain ⟨z', hz, h⟩ := osel_ne h (by simp)
    obtain ⟨hb, h⟩ := bsel_ne h (by simp)
    cases h
    exact ⟨e, hu, hk, hz, by have := beq_iff.1 hb; rwa [lenL_eq] at this, rfl⟩
  · cases h

/-- A slice of a new row. -/
theorem newSlice_ok {k n m : Nat} {l l' : List Value} {e : TypeId} {v : Value} (h : allK (rowOf l k true) (fun nm => .slice (some ⟨nm, 0, none⟩) n m) st = .ok v st') (hr : Rel σ st w)
    (hl : VRL σ l l') (h1 : ∀ u, u ∈ l → u.oneCell' = true) (hnm : n ≤ m) :
    Does P (do pure (.value (.slice (some (← newRow e ⟨l'⟩)) n m))) σ st w v st' := by
  obtain ⟨rfl, rfl⟩ := allK_ok h
  have hll : l'.take l.length = l' := List.take_of_length_le (by rw [hl.1]; exact Nat.le_refl _)
  obtain ⟨σ', s1, s2, s3⟩ := hr.newRow (c := l') (xs := l) (by rw [hll]; exact hl) h1 e k true
  refine ⟨σ', _, .slice (some ⟨w.heap.size, 0, none⟩) n m, .inl ?_, ?_, s2, s3⟩
  · simp [newRow]
  · exact .slice st.next 0 n m m _ s1 hnm (fun _ => rfl) (fun h => by cases h)

theorem buildSlice_ok {t : TypeId} {n : Nat} {ps ps' : List (Nat × Value)} {v : Value} (h : buildSliceA (mkOf P t) n ps st = .ok v st') (hr : Rel σ st w) (hp : PR σ ps ps') :
    Does P (do pure (.value (← Instr.buildSlice t n ⟨ps'⟩))) σ st w v st' := by
  cases hm : mkOf P t with
  | no => rw [hm] at h; cases h
  | mk k z b =>
    rw [hm] at h
    obtain ⟨e, hu, hk, hz, hzl, rfl⟩ := mkOf_ok hm
    obtain ⟨hb, h⟩ := bsel_ne h Re.no_ne
    obtain ⟨l, hl, h⟩ := osel_ne h Re.no_ne
    have hb : n * k ≤ 4096 := ble_iff.1 hb
    obtain ⟨zv, z1, z2, z3⟩ := zeroL_ok hz
    have hf := repL_flat z3 n
    obtain ⟨out', o1, o2, o3⟩ := fillL_ok (place' := fun i => some (i * k, k)) (fun i q hq => hq) hl hp (VRL.flat hf) (flat_one hf)
    obtain ⟨σ', w', v', h1, h2⟩ := newSlice_ok (P := P) (e := e) h hr o2 o3 (Nat.le_refl n)
    refine ⟨σ', w', v', ?_, h2⟩
    have e' : ((do pure (.value (← Instr.buildSlice t n ⟨ps'⟩))) : Sem Next).run P w = ((do pure (.value (.slice (some (← newRow e ⟨out'⟩)) n n))) : Sem Next).run P w := by
      unfold Instr.buildSlice
      have hno : ¬ (n * k > 2 ^ 24) := by omega
      by_cases h0 : n * k = 0
      · have hr0 : repL z n = [] := List.eq_nil_of_length_eq_zero (by rw [repL_len, hzl]; exact h0)
        rw [hr0] at o1
        simp only [Sem.run_bind, run_underlying hu, Result.andThen_ok, run_sizeOf' hk, if_neg hno, if_pos h0, Sem.run_pure, h0]
        have e0 : ∀ f : Nat → Value, (Array.range 0).map f = ⟨[]⟩ := fun f => by simp
        simp only [e0, o1, Sem.run_bind, Result.andThen_ok, Sem.run_pure]
        simp [newRow]
      · simp only [Sem.run_bind, run_underlying hu, Result.andThen_ok, run_sizeOf' hk, if_neg hno, if_neg h0, Sem.run_pure, run_zeroValue z1, z2]
        have hsz : (⟨z⟩ : Array Value).size = z.length := rfl
        rw [hsz, ← hzl, rep_eq, hzl]
        simp only [o1, Sem.run_bind, Result.andThen_ok, Sem.run_pure]
        simp [newRow]
    rw [e']; exact h1
end
end Go.Proofs.YtolgomkmilbkgaaGreat.Ev

set_option autoImplicit false
set_option linter.unusedVariables false
set_option linter.unusedSimpArgs false
namespace Go.Proofs.YtolgomkmilbkgaaGreat.Ev
open Go
section
variable {P : Program} {σ : Nm} {st st' : St} {w : World}

theorem wrap_small (n : Nat) (h : n < 9223372036854775808) : IntKind.i64.wrap (Int.ofNat n) = Int.ofNat n := by
  simp [IntKind.wrap, IntKind.bits, IntKind.signed]; omega

theorem smallB_ok {e : TypeId} (h : smallB P e = true) {i : TypeInfo} (hi : P.info? e = some i) : i.bytes ≤ 65536 := by
  have := ble_iff.1 h
  simpa [Program.bytesOf, hi] using this

theorem makeSlice_ok {t : TypeId} {l l' c c' v : Value} (h : makeSliceA (mkOf P t) l c st = .ok v st') (hr : Rel σ st w) (hl : VR σ l l') (hc : VR σ c c') :
    Does P (do pure (.value (← Instr.makeSlice t l' c'))) σ st w v st' := by
  unfold makeSliceA at h
  obtain ⟨k1, n, rfl, hh⟩ := natK_ok h Re.no_ne
  clear h
  obtain ⟨k2, m, rfl, h⟩ := natK_ok hh Re.no_ne
  clear hh
  have := int_inv hl; subst this
  have := int_inv hc; subst this
  cases hm : mkOf P t with
  | no => rw [hm] at h; cases h
  | mk k z b =>
    rw [hm] at h
    obtain ⟨e, hu, hk, hz, hzl, rfl⟩ := mkOf_ok hm
    obtain ⟨hb, h⟩ := bsel_ne h Re.no_ne
    obtain ⟨h1, h⟩ := bsel_ne h Re.no_ne
    obtain ⟨h2, h⟩ := bsel_ne h Re.no_ne
    have h1 : n ≤ m := ble_iff.1 h1
    have h2 : m ≤ 4096 := ble_iff.1 h2
    obtain ⟨zv, z1, z2, z3⟩ := zeroL_ok hz
    have hf := repL_flat z3 m
    obtain ⟨i, hi, hik⟩ := tySize_some hk
    have hby := smallB_ok hb hi
    obtain ⟨σ', w', v', g1, g2⟩ := newSlice_ok (P := P) (e := e) h hr (VRL.flat hf) (flat_one hf) h1
    refine ⟨σ', w', v', ?_, g2⟩
    have e' : ((do pure (.value (← Instr.makeSlice t (.int k1 (.ofNat n)) (.int k2 (.ofNat m))))) : Sem Next).run P w = ((do pure (.value (.slice (some (← newRow e ⟨repL z m⟩)) n m))) : Sem Next).run P w := by
      have hti : ∀ w, (typeInfo e).run P w = .ok i w := fun w => by simp [typeInfo, hi]
      have hq : (i.bytes : Int) * (m : Int) ≤ 268435456 := by
        have h : i.bytes * m ≤ 65536 * 4096 := Nat.mul_le_mul hby h2
        have h' : ((i.bytes * m : Nat) : Int) = (i.bytes : Int) * (m : Int) := by simp
        rw [← h']
        omega
      have e48 : (2 : Int) ^ 48 = 281474976710656 := by decide
      have d1 : decide ((m : Int) < 0) = false := decide_eq_false (by omega)
      have d2 : decide ((n : Int) < 0) = false := decide_eq_false (by omega)
      have d3 : decide ((n : Int) > (m : Int)) = false := decide_eq_false (by omega)
      have d4 : decide ((i.bytes : Int) * (m : Int) > 281474976710656) = false := decide_eq_false (by omega)
      have w1 : IntKind.i64.wrap (n : Int) = (n : Int) := wrap_small n (by omega)
      have w2 : IntKind.i64.wrap (m : Int) = (m : Int) := wrap_small m (by omega)
      unfold Instr.makeSlice
      simp only [Sem.run_bind, run_underlying hu, Result.andThen_ok, asInt, asIntOf, Sem.run_pure, hti, Int.ofNat_eq_natCast, w1, w2, e48, d1, d2, d3, d4, Bool.or_false, Bool.false_eq_true, if_false, run_askRoom, run_sizeOf' hk, Int.toNat_natCast]
      by_cases h0 : m * k = 0
      · have hr0 : repL z m = [] := List.eq_nil_of_length_eq_zero (by rw [repL_len, hzl]; exact h0)
        have e0 : ∀ f : Nat → Value, (Array.range 0).map f = ⟨[]⟩ := fun f => by simp
        simp only [if_pos h0, Sem.run_pure, Sem.run_bind, Result.andThen_ok, h0, e0, hr0, if_true]
        simp [newRow]
      · simp only [if_neg h0, Sem.run_pure, Sem.run_bind, Result.andThen_ok, run_zeroValue z1, z2]
        have hsz : (⟨z⟩ : Array Value).size = z.length := rfl
        rw [hsz, ← hzl, rep_eq]
        simp [newRow]
    rw [e']; exact g1

theorem nilK_ok {x x' v : Value} (h : nilK x st = .ok v st') (hx : VR σ x x') :
    st' = st ∧ v = x ∧ ((∃ a, x' = .pointer (some a)) ∨ (∃ f as bs, x' = .func (.func f) as bs) ∨ ∃ l as bs, x' = .func (.yield l) as bs) := by
  unfold nilK at h
  split at h
  · obtain ⟨rfl, rfl⟩ := Re.ok_inj h
    obtain ⟨k, hk, rfl⟩ := ptr_inv hx
    exact ⟨rfl, rfl, .inl ⟨_, rfl⟩⟩
  · obtain ⟨rfl, rfl⟩ := Re.ok_inj h
    cases hx
    exact ⟨rfl, rfl, .inr (.inl ⟨_, _, _, rfl⟩)⟩
  · obtain ⟨rfl, rfl⟩ := Re.ok_inj h
    cases hx
    exact ⟨rfl, rfl, .inr (.inr ⟨_, _, _, rfl⟩)⟩
  · obtain ⟨rfl, rfl⟩ := Re.ok_inj h
    cases hx
    exact ⟨rfl, rfl, .inl ⟨_, rfl⟩⟩
  · cases h

/-! ## append, copy -/
theorem u8_flat (l : List UInt8) : (l.map fun b => Value.int .u8 b.toNat).all flat = true := by
  rw [List.all_eq_true]; intro x hx; obtain ⟨b, _, rfl⟩ := List.mem_map.1 hx; rfl

/-- What is read ahead of an append or a copy. -/
def Lists (P : Program) (σ : Nm) (w : World) (k n : Nat) (x' : Value) (xs : List Value) : Prop :=
  xs.length = n * k ∧ (∀ u, u ∈ xs → u.oneCell' = true) ∧ ∃ ys, VRL σ xs ys ∧ ∀ d, (Builtin.firstCells k n x').run P { w with drawn := d } = .ok ⟨ys⟩ { w with drawn := d }

theorem row_list {nm : Nat} {kk : Blk} (hkk : σ nm = some kk) {off m : Nat} {d n es : Nat} {ex : Bool} {tr : Bt} (ho : st.obj nm = .cells d n es ex tr) (hr : Rel σ st w) (hm : off + m ≤ n) :
    (Bt.sub tr (half d) off (off + m) []).length = m ∧ (∀ u, u ∈ Bt.sub tr (half d) off (off + m) [] → u.oneCell' = true) ∧
    ∃ ys, VRL σ (Bt.sub tr (half d) off (off + m) []) ys ∧ ∀ dr, (loadCells ⟨kk.b, kk.o + off, none⟩ m).run P { w with drawn := dr } = .ok ⟨ys⟩ { w with drawn := dr } := by
  obtain ⟨ha, h1, h2, h3, h4, h0, c, e, h5, h6, h7, h8⟩ := hr.at hkk ho (by simp)
  rw [Bt.sub_eq h3, List.append_nil, show off + m - off = m by omega]
  have hl := Bt.perf_len h3
  refine ⟨by simp; omega, fun u hu => ?_, (c.drop (kk.o + off)).take m, seg_rel h8 hm, fun dr => load_seg (w := { w with drawn := dr }) h5 (by omega)⟩
  obtain ⟨i, hi⟩ := List.getElem?_of_mem hu
  rw [List.getElem?_take] at hi
  split at hi
  · rw [List.getElem?_drop] at hi
    exact h0 u (List.mem_of_getElem? (i := off + i) (by rw [List.getElem?_take, if_pos (by omega)]; exact hi))
  · cases hi

theorem run_load0 (a : Addr) (w : World) : (loadCells a 0).run P w = .ok #[] w := by
  have := run_loadCells_list (P := P) w a [] (fun j v hj => by simp at hj)
  exact this

theorem listA_ok {k n : Nat} {x x' : Value} {xs : List Value} (h : listA st k x n = some xs) (hr : Rel σ st w) (hx : VR σ x x') : Lists P σ w k n x' xs := by
  unfold listA at h
  split at h
  · obtain ⟨hb, h⟩ := bsel_ne h (by simp)
    cases h
    have := beq_iff.1 hb; subst this
    cases hx
    exact ⟨by simp, by simp, [], .nil, fun d => by simp [Builtin.firstCells]⟩
  · rename_i a n' c'
    cases hb : Nat.beq n 0 with
    | true =>
      rw [hb] at h; cases h
      have := beq_iff.1 hb; subst this
      refine ⟨by simp, by simp, [], .nil, fun d => ?_⟩
      generalize hv : Value.slice (some a) n' c' = u at hx
      cases hx with
      | slice => simp [Builtin.firstCells, run_load0]
      | _ => cases hv
    | false =>
      rw [hb] at h
      obtain ⟨d, m, es, ex, tr, ho, h⟩ := cellsK_ok h (by simp)
      obtain ⟨hm, h⟩ := bsel_ne h (by simp)
      cases h
      have hm : a.off + n * k ≤ m := ble_iff.1 hm
      generalize hv : Value.slice (some a) n' c' = u at hx
      cases hx with
      | slice nm off n2 c2 c3 kk hkk h1 h2 h3 =>
        cases hv
        obtain ⟨g1, g2, ys, g3, g4⟩ := row_list (P := P) hkk ho hr hm
        exact ⟨g1, g2, ys, g3, fun dr => by simp only [Builtin.firstCells]; exact g4 dr⟩
      | _ => cases hv
  · rename_i s
    obtain ⟨hb, h⟩ := bsel_ne h (by simp)
    obtain ⟨hb2, h⟩ := bsel_ne h (by simp)
    cases h
    have := beq_iff.1 hb; subst this
    have hb2 := ble_iff.1 hb2
    have := string_inv hx; subst this
    have hf := u8_flat (s.extract 0 n).data.toList
    refine ⟨?_, flat_one hf, _, VRL.flat hf, fun d => ?_⟩
    · rw [List.length_map, Array.length_toList]
      show (s.extract 0 n).size = n * 1
      simp; omega
    · simp only [Builtin.firstCells, Sem.run_pure]
      congr 1
      apply Array.ext'
      simp
  · rename_i n' path f cs first
    obtain ⟨hb, h⟩ := bsel_ne h (by simp)
    have hb : n * k ≤ cs.toList.length := by have := ble_iff.1 hb; rwa [lenL_eq] at this
    rw [takeL_eq] at h
    cases h
    cases hx with
    | fnil a c' =>
      have e0 : n * k = 0 := by simpa using hb
      show Lists P σ w k n _ (List.take (n * k) [])
      rw [List.take_nil]
      refine ⟨by simp [e0], by simp, [], .nil, fun d => ?_⟩
      cases a with
      | none => simp [Builtin.firstCells]
      | some ad => simp [Builtin.firstCells, e0, run_load0]
    | fsl m c' b o cs ys c g1 g2 g3 g4 g5 g6 g7 g8 =>
      have hb : n * k ≤ cs.length := hb
      show Lists P σ w k n _ (cs.take (n * k))
      obtain ⟨⟨ee, he⟩, _⟩ := hr.fro b c g3
      have hvr : VRL σ cs ys := ⟨g6, g7⟩
      refine ⟨by rw [List.length_take]; omega, fun u hu => g5 u (List.mem_of_mem_take hu), ys.take (n * k), hvr.take _, fun dr => ?_⟩
      simp only [Builtin.firstCells]
      rw [load_seg (w := { w with drawn := dr }) he (by omega), g8, List.take_take, Nat.min_eq_left hb]
  · cases h

theorem lenA_ok {x x' : Value} {n : Nat} (h : lenA x = some n) (hx : VR σ x x') (w : World) : (Builtin.lenOf x').run P w = .ok n w := by
  cases hx <;> first | (cases h; rfl) | cases h

/-- What is appended: a list, or so many zeros. -/
def App (P : Program) (e : TypeId) (k : Nat) (tx : TypeId) (x : Value) (n : Nat) (ys : List Value) (w : World) : Prop :=
  (((∃ e', P.underlying tx = some (.slice e')) ∨ P.underlying tx = some .string) ∧ (∀ w', (Builtin.lenOf x).run P w' = .ok n w') ∧ (∀ d, (Builtin.firstCells k n x).run P { w with drawn := d } = .ok ⟨ys⟩ { w with drawn := d })) ∨
  (∃ kk k2 z zv, P.underlying tx = some (.int kk) ∧ x = .int k2 (.ofNat n) ∧ n ≤ 65536 ∧ zeroOf P e = some zv ∧ zv.cells = ⟨z⟩ ∧ z.length = k ∧ ys = repL z n)

theorem app_room {t tx ty e : TypeId} {i : TypeInfo} (ht : P.underlying t = some (.slice e)) (hi : P.info? e = some i) (hby : i.bytes ≤ 65536) {k sLen sCap n : Nat} (hk : i.size = k) {a : Addr} {x : Value} {ys : List Value} {w' : World}
    (hs : App P e k tx x n ys w) (hroom : sLen + n ≤ sCap) (hst : (storeCells (a.add (sLen * k)) ys).run P w = .ok () w') :
    (Builtin.append_ #[t, tx] ty #[.slice (some a) sLen sCap, x]).run P w = .ok (.slice (some a) (sLen + n) sCap) w' := by
  subst hk
  rcases hs with ⟨hk, hlen, hcells⟩ | ⟨kk, k2, z, zv, hx, rfl, hn, hz, hzc, hzl, rfl⟩
  · have hc0 := hcells w.drawn
    have hw : ({ w with drawn := w.drawn } : World) = w := rfl
    rw [hw] at hc0
    rcases hk with ⟨e', hk⟩ | hk <;> simp [Builtin.append_, run_underlying ht, run_underlying hk, sizeOf, typeInfo, hi, hlen, hroom, hc0, hst]
  · have hb : ¬ (281474976710656 < (n : Int) * (i.bytes : Int)) := by
      have h1 : n * i.bytes ≤ 65536 * 65536 := Nat.mul_le_mul hn hby
      have h2 : ((n * i.bytes : Nat) : Int) ≤ ((65536 * 65536 : Nat) : Int) := by exact_mod_cast h1
      have h3 : ((n * i.bytes : Nat) : Int) = (n : Int) * (i.bytes : Int) := by simp
      omega
    have hw := wrap_small n (by omega)
    have hw' : IntKind.i64.wrap (n : Int) = (n : Int) := hw
    have hzz : ∀ w, (zeroValue e).run P w = .ok zv w := run_zeroValue hz
    have hrep : Builtin.zeroCells ⟨z⟩ n = ⟨repL z n⟩ := by unfold Builtin.zeroCells; exact rep_eq z n
    have hng : ¬ ((n : Int) < 0) := by omega
    by_cases h0 : n * i.size = 0
    · have hr0 : repL z n = [] := List.eq_nil_of_length_eq_zero (by rw [repL_len, hzl]; exact h0)
      rw [hr0] at hst
      simp [Builtin.append_, run_underlying ht, run_underlying hx, sizeOf, typeInfo, hi, asInt, asIntOf, hw', hng, hb, hroom, h0, hst]
    · simp [Builtin.append_, run_underlying ht, run_underlying hx, sizeOf, typeInfo, hi, asInt, asIntOf, hw', hng, hb, hroom, h0, hst, hzz, hzc, hrep]

theorem app_grow {t tx ty e : TypeId} {i : TypeInfo} (ht : P.underlying t = some (.slice e)) (hi : P.info? e = some i) (hby : i.bytes ≤ 65536) {k sLen sCap n : Nat} (hk : i.size = k) {base : Option Addr} {x : Value} {olds ys z : List Value} {zv : Value}
    (hz : zeroOf P e = some zv) (hzc : zv.cells = ⟨z⟩) (hs : App P e k tx x n ys w) (hold : (Builtin.firstCells k sLen (.slice base sLen sCap)).run P w.drew = .ok ⟨olds⟩ w.drew)
    (hg : sCap < sLen + n) (hneed : sLen + n ≤ 1048576) :
    (Builtin.append_ #[t, tx] ty #[.slice base sLen sCap, x]).run P w =
      .ok (.slice (some ⟨w.heap.size, 0, none⟩) (sLen + n) (grownCap w (sLen + n) sCap e)) (w.drew.alloc (.cells ⟨olds ++ ys ++ repL z (grownCap w (sLen + n) sCap e - (sLen + n))⟩ e)) := by
  subst hk
  have hn : ¬ (sLen + n ≤ sCap) := by omega
  have h63' : ¬ (9223372036854775807 < ((sLen : Int) + (n : Int))) := by omega
  have hfit : Builtin.nextslicecap (sLen + n) sCap * i.bytes ≤ 281474976710656 := growslice_fits hg (Nat.le_trans (Nat.mul_le_mul hneed hby) (by decide))
  have h48' : ¬ (281474976710656 < Builtin.nextslicecap (sLen + n) sCap * i.bytes) := by omega
  have hrep : ∀ m, Builtin.zeroCells ⟨z⟩ m = ⟨repL z m⟩ := fun m => by unfold Builtin.zeroCells; exact rep_eq z m
  have hzz : ∀ w, (zeroValue e).run P w = .ok zv w := run_zeroValue hz
  rcases hs with ⟨hk, hlen, hcells⟩ | ⟨kk, k2, z', zv', hx, rfl, hn', hz', hzc', hzl, rfl⟩
  · have hcd : (Builtin.firstCells i.size n x).run P w.drew = .ok ⟨ys⟩ w.drew := hcells _
    rcases hk with ⟨e', hk⟩ | hk <;>
      simp [Builtin.append_, run_underlying ht, run_underlying hk, sizeOf, typeInfo, hi, hlen, hn, h63', h48', Question.forced, hcd, hold, newRow, grownCap, hzz, hzc, hrep]
  · rw [hz] at hz'; cases hz'
    rw [hzc] at hzc'
    have : z = z' := by simpa using hzc'
    subst this
    have hb : ¬ (281474976710656 < (n : Int) * (i.bytes : Int)) := by
      have h1 : n * i.bytes ≤ 65536 * 65536 := Nat.mul_le_mul hn' hby
      have h2 : ((n * i.bytes : Nat) : Int) ≤ ((65536 * 65536 : Nat) : Int) := by exact_mod_cast h1
      have h3 : ((n * i.bytes : Nat) : Int) = (n : Int) * (i.bytes : Int) := by simp
      omega
    have hw' : IntKind.i64.wrap (n : Int) = (n : Int) := wrap_small n (by omega)
    have hng : ¬ ((n : Int) < 0) := by omega
    by_cases h0 : n * i.size = 0
    · have hr0 : repL z n = [] := List.eq_nil_of_length_eq_zero (by rw [repL_len, hzl]; exact h0)
      simp [Builtin.append_, run_underlying ht, run_underlying hx, sizeOf, typeInfo, hi, asInt, asIntOf, hw', hng, hb, hn, h63', h48', Question.forced, h0, hold, newRow, grownCap, hzz, hzc, hrep, hr0]
    · simp [Builtin.append_, run_underlying ht, run_underlying hx, sizeOf, typeInfo, hi, asInt, asIntOf, hw', hng, hb, hn, h63', h48', Question.forced, h0, hold, newRow, grownCap, hzz, hzc, hrep]
end
end Go.Proofs.YtolgomkmilbkgaaGreat.Ev

set_option autoImplicit false
set_option linter.unusedVariables false
set_option linter.unusedSimpArgs false
namespace Go.Proofs.YtolgomkmilbkgaaGreat.Ev
open Go
section
variable {P : Program} {σ : Nm} {st st' : St} {w : World}

/-- A new name for a block that no name has. -/
theorem Rel.named {o : AObj} {k : Blk} (h : Rel σ st w) (hb : k.b < w.heap.size) (hfree : ∀ x kx, Alive st x → σ x = some kx → kx.b ≠ k.b) (hfz : ∀ c, σ.fz k.b ≠ some c)
    (ho : ∀ τ, Sub σ τ → τ st.next = some k → OR τ k w o) (hk0 : k.ex = true → k.o = 0 := by intro _; rfl) :
    ∃ σ', σ' st.next = some k ∧ σ'.fz = σ.fz ∧ Rel σ' ⟨putAt st.next st.heap o, st.next + 1⟩ w ∧ Sub σ σ' ∧ (∀ x, x ≠ st.next → σ' x = σ x) ∧ (∀ x, Alive ⟨putAt st.next st.heap o, st.next + 1⟩ x → x ≠ st.next → Alive st x) := by
  let σ' : Nm := ⟨fun nm => if nm = st.next then some k else σ nm, σ.fz⟩
  have hs : Sub σ σ' := ⟨fun nm kk e => by
    show (if nm = st.next then some k else σ nm) = some kk
    rw [if_neg (fun e' => by subst e'; rw [(h.fresh _ (Nat.le_refl _)).1] at e; cases e)]
    exact e, fun _ _ e => e⟩
  have hn : σ' st.next = some k := by show (if st.next = st.next then some k else _) = _; rw [if_pos rfl]
  have hobj : ∀ x, x ≠ st.next → St.obj ⟨putAt st.next st.heap o, st.next + 1⟩ x = st.obj x := by
    intro x hx
    rw [St.obj_mk, St.obj_eq, objAt_put, if_neg hx]
  have halive : ∀ x, Alive ⟨putAt st.next st.heap o, st.next + 1⟩ x → x ≠ st.next → Alive st x := by
    intro x hx he; unfold Alive at hx ⊢; rw [hobj x he] at hx; exact hx
  have hσ : ∀ x, x ≠ st.next → σ' x = σ x := fun x hx => by show (if x = st.next then some k else σ x) = σ x; rw [if_neg hx]
  refine ⟨σ', hn, rfl, ⟨fun x hx => ?_, fun x y kx ky hx hy h1 h2 h3 => ?_, fun x hx => ?_, fun x kx hx => ?_, fun b c hbc => ⟨(h.fro b c hbc).1, fun x kx hx hs' => ?_⟩⟩, hs, hσ, halive⟩
  · by_cases e : x = st.next
    · subst e
      refine ⟨k, hn, ?_⟩
      rw [St.obj_mk, objAt_put, if_pos rfl]
      exact ho σ' hs hn
    · obtain ⟨kx, h1, h2⟩ := h.obj x (halive x hx e)
      refine ⟨kx, hs _ _ h1, ?_⟩
      rw [hobj x e]
      exact OR.mono hs rfl h2
  · by_cases ex : x = st.next
    · by_cases ey : y = st.next
      · rw [ex, ey]
      · exfalso
        subst ex
        rw [hn] at h1; cases h1
        rw [hσ y ey] at h2
        exact hfree y ky (halive y hy ey) h2 h3.symm
    · by_cases ey : y = st.next
      · exfalso
        subst ey
        rw [hn] at h2; cases h2
        rw [hσ x ex] at h1
        exact hfree x kx (halive x hx ex) h1 h3
      · rw [hσ x ex] at h1; rw [hσ y ey] at h2
        exact h.apart x y kx ky (halive x hx ex) (halive y hy ey) h1 h2 h3
  · have hx' : st.next + 1 ≤ x := hx
    have e : x ≠ st.next := by omega
    exact ⟨by rw [hσ x e]; exact (h.fresh x (by omega)).1, fun hy => (h.fresh x (by omega)).2 (halive x hy e)⟩
  · by_cases e : x = st.next
    · subst e; rw [hn] at hx; cases hx; exact ⟨hb, hk0⟩
    · rw [hσ x e] at hx
      exact h.bnd x kx hx
  · by_cases e : x = st.next
    · subst e; rw [hn] at hs'; cases hs'
      intro hkb
      subst hkb
      exact hfz c hbc
    · rw [hσ x e] at hs'
      exact (h.fro b c hbc).2 x kx (halive x hx e) hs'

theorem setObj_next (nm : Nat) (o : AObj) : (st.setObj nm o).next = st.next := by rw [St.setObj_eq]

/-- The block of a name, changed, under a new name. -/
theorem Rel.adopt {w' : World} (h : Rel σ st w) {nm : Nat} {k k2 : Blk} (ha : Alive st nm) (hk : σ nm = some k) (hb : k2.b = k.b) {o : AObj}
    (hsize : w'.heap.size = w.heap.size) (hoth : ∀ b, b ≠ k.b → w'.heap[b]? = w.heap[b]?) (ho : ∀ τ, Sub σ τ → τ st.next = some k2 → OR τ k2 w' o)
    (ht : w'.tape = w.tape) (hos : w'.os = w.os) (hout : w'.output = w.output) (hk0 : k2.ex = true → k2.o = 0 := by intro h; cases h) :
    ∃ σ', σ' st.next = some k2 ∧ Rel σ' ⟨putAt (st.setObj nm .dead).next (st.setObj nm .dead).heap o, (st.setObj nm .dead).next + 1⟩ w' ∧
      Ext σ st w σ' ⟨putAt (st.setObj nm .dead).next (st.setObj nm .dead).heap o, (st.setObj nm .dead).next + 1⟩ w' := by
  obtain ⟨r1, x1⟩ := h.upd (o := .dead) ha hk hsize hoth trivial ht hos hout
  have hdead : ¬ Alive (st.setObj nm .dead) nm := by
    intro hx; apply hx; rw [St.setObj_eq, St.obj_mk, objAt_put, if_pos rfl]
  have hal : ∀ x, Alive (st.setObj nm .dead) x → Alive st x := by
    intro x hx
    by_cases e : x = nm
    · subst e; exact ha
    · unfold Alive at hx ⊢; rw [St.setObj_eq, St.obj_mk, objAt_put, if_neg e] at hx; rw [St.obj_eq]; exact hx
  have hbb := h.bound nm k hk
  have hfree : ∀ x kx, Alive (st.setObj nm .dead) x → σ x = some kx → kx.b ≠ k2.b := by
    intro x kx hx h1 he
    have := h.apart x nm kx k (hal x hx) ha h1 hk (he.trans hb)
    subst this
    exact hdead hx
  have hn := setObj_next (st := st) nm .dead
  obtain ⟨σ', s1, s1f, s2, s3, s4, s5⟩ := r1.named (o := o) (k := k2) (by rw [hsize, hb]; exact hbb) hfree (fun c hc => (h.fro _ c hc).2 nm k ha hk hb.symm) (fun τ h1 h2 => ho τ h1 (by rw [← hn]; exact h2)) hk0
  refine ⟨σ', by rw [← hn]; exact s1, s2, ⟨s3, by show st.next ≤ (st.setObj nm .dead).next + 1; omega, by rw [hsize]; exact Nat.le_refl _, fun b hb' ⟨x, kx, hx, h1, h2⟩ => ?_, fun b _ hno => hoth b fun e => hno ⟨nm, k, ha, hk, e.symm⟩, ht, hos, hout, fun x hx => s4 x (by rw [hn]; omega), fun b c _ hc => by rw [s1f] at hc; exact hc⟩⟩
  by_cases e : x = (st.setObj nm .dead).next
  · subst e
    rw [s1] at h1; cases h1
    exact ⟨nm, k, ha, hk, by rw [← hb, h2]⟩
  · rw [s4 x e] at h1
    exact ⟨x, kx, hal x (s5 x hx e), h1, h2⟩

def DoesV (P : Program) (s : Sem Value) (σ : Nm) (st : St) (w : World) (v : Value) (st' : St) : Prop :=
  ∃ σ' w' v', s.run P w = .ok v' w' ∧ VR σ' v v' ∧ Rel σ' st' w' ∧ Ext σ st w σ' st' w'

theorem DoesV.does {s : Sem Value} {v : Value} (h : DoesV P s σ st w v st') : Does P (do pure (.value (← s))) σ st w v st' := by
  obtain ⟨σ', w', v', h1, h2⟩ := h
  exact ⟨σ', w', v', .inl (by rw [Sem.run_bind, h1]; rfl), h2⟩

theorem app_nil_room {t tx ty e : TypeId} {i : TypeInfo} (ht : P.underlying t = some (.slice e)) (hi : P.info? e = some i) (hby : i.bytes ≤ 65536) {k sLen sCap : Nat} (hk : i.size = k) {x : Value} {ys : List Value}
    (hs : App P e k tx x 0 ys w) (hroom : sLen ≤ sCap) :
    (Builtin.append_ #[t, tx] ty #[.slice none sLen sCap, x]).run P w = .ok (.slice none sLen sCap) w := by
  subst hk
  rcases hs with ⟨hk, hlen, hcells⟩ | ⟨kk, k2, z, zv, hx, rfl, hn, hz, hzc, hzl, rfl⟩
  · have hc0 := hcells w.drawn
    have hw : ({ w with drawn := w.drawn } : World) = w := rfl
    rw [hw] at hc0
    rcases hk with ⟨e', hk⟩ | hk <;> simp [Builtin.append_, run_underlying ht, run_underlying hk, sizeOf, typeInfo, hi, hlen, hroom, hc0]
  · have hw' : IntKind.i64.wrap (0 : Int) = (0 : Int) := wrap_small 0 (by omega)
    simp [Builtin.append_, run_underlying ht, run_underlying hx, sizeOf, typeInfo, hi, asInt, asIntOf, hw', hroom]

theorem oldL_ok {k len : Nat} {nm off : Nat} {old : List Value} {kk : Blk} (hkk : σ nm = some kk) (h : oldL st k (some ⟨nm, off, none⟩) len = some old) (hr : Rel σ st w) (cap : Nat) :
    old.length = len * k ∧ (∀ u, u ∈ old → u.oneCell' = true) ∧
    ∃ olds, VRL σ old olds ∧ (∀ d, (Builtin.firstCells k len (.slice (some ⟨kk.b, kk.o + off, none⟩) len cap)).run P { w with drawn := d } = .ok ⟨olds⟩ { w with drawn := d }) := by
  have h : bsel (Nat.beq len 0) (some []) (cellsK (st.obj nm) none fun d m _ _ tr => bsel (Nat.ble (Nat.add off (Nat.mul len k)) m) (some (Bt.sub tr (half d) off (Nat.add off (Nat.mul len k)) [])) none) = some old := h
  cases hb : Nat.beq len 0 with
  | true =>
    rw [hb] at h; cases h
    have := beq_iff.1 hb; subst this
    exact ⟨by simp, by simp, [], .nil, fun d => by simp [Builtin.firstCells, run_load0]⟩
  | false =>
    rw [hb] at h
    obtain ⟨d, m, es, ex, tr, ho, h⟩ := cellsK_ok h (by simp)
    obtain ⟨hm, h⟩ := bsel_ne h (by simp)
    cases h
    have hm : off + len * k ≤ m := ble_iff.1 hm
    obtain ⟨g1, g2, ys, g3, g4⟩ := row_list (P := P) hkk ho hr hm
    exact ⟨g1, g2, ys, g3, fun dr => by simp only [Builtin.firstCells]; exact g4 dr⟩

/-- A new row, behind a draw, with cells more than are known. -/
theorem grown_ok {k need c : Nat} {xs ys zs : List Value} {e : TypeId} {v : Value} (h : allK (rowOf xs k false) (fun nm => .slice (some ⟨nm, 0, none⟩) need need) st = .ok v st') (hr : Rel σ st w)
    (hx : VRL σ xs ys) (h1 : ∀ u, u ∈ xs → u.oneCell' = true) (hc : need ≤ c) (hlen : (ys ++ zs).length = c * k) :
    ∃ σ', VR σ' v (.slice (some ⟨w.heap.size, 0, none⟩) need c) ∧ Rel σ' st' { w with heap := w.heap.push (.cells ⟨ys ++ zs⟩ e) } ∧ Ext σ st w σ' st' { w with heap := w.heap.push (.cells ⟨ys ++ zs⟩ e) } := by
  obtain ⟨rfl, rfl⟩ := allK_ok h
  have hll : (ys ++ zs).take xs.length = ys := by rw [hx.1, List.take_left]
  obtain ⟨σ', s1, s2, s3⟩ := hr.newRow (c := ys ++ zs) (xs := xs) (by rw [hll]; exact hx) h1 e k false
  exact ⟨σ', .slice st.next 0 need need c _ s1 (Nat.le_refl _) (fun h => by cases h) (fun _ => ⟨hc, by show 0 + 0 + c * k ≤ (ys ++ zs).length; omega⟩), s2, s3⟩

theorem appendK_ok {t tx ty e : TypeId} {i : TypeInfo} (ht : P.underlying t = some (.slice e)) (hi : P.info? e = some i) (hby : i.bytes ≤ 65536) {k len cap n : Nat} (hk : i.size = k) {base : Option Addr} {s' x' v : Value} {new ys z : List Value} {zv : Value}
    (hz : zeroOf P e = some zv) (hzc : zv.cells = ⟨z⟩) (hzl : z.length = k) (ha : App P e k tx x' n ys w) (hn : VRL σ new ys) (h1 : ∀ u, u ∈ new → u.oneCell' = true) (hnl : new.length = n * k)
    (hr : Rel σ st w) (hs : VR σ (.slice base len cap) s') (h : appendK k base len cap (len + n) new st = .ok v st') :
    DoesV P (Builtin.append_ #[t, tx] ty #[s', x']) σ st w v st' := by
  unfold appendK at h
  obtain ⟨hb, h⟩ := bsel_ne h Re.no_ne
  have hb : len + n ≤ 1048576 := ble_iff.1 hb
  generalize hv : Value.slice base len cap = u at hs
  have hge : ∀ W : World, len + n ≤ grownCap W (len + n) cap e := fun W => grownCap_ge W _ _ e
  cases hs with
  | nilslice =>
    cases hv
    cases hbb : Nat.ble (0 + n) 0 with
    | true =>
      rw [hbb] at h
      have hn0 : n = 0 := by have := ble_iff.1 hbb; omega
      subst hn0
      have h : Re.ok (.slice none (0 + 0) 0) st = .ok v st' := h
      cases h
      exact ⟨σ, w, .slice none 0 0, app_nil_room ht hi hby hk ha (Nat.le_refl 0), .nilslice, hr, .refl σ st w⟩
    | false =>
      rw [hbb] at h
      have hn0 : 0 < n := by
        rcases Nat.eq_zero_or_pos n with rfl | h'
        · cases hbb
        · exact h'
      have h : allK (rowOf ([] ++ new) k false) (fun nm => .slice (some ⟨nm, 0, none⟩) (0 + n) (0 + n)) st = .ok v st' := h
      have hg := app_grow (ty := ty) (sLen := 0) (sCap := 0) (n := n) (base := none) (olds := []) ht hi hby hk hz hzc ha (by simp [Builtin.firstCells]) (by omega) hb
      obtain ⟨σ', g1, g2, g3⟩ := grown_ok (w := w.drew) (e := e) (c := grownCap w (0 + n) 0 e) (zs := repL z (grownCap w (0 + n) 0 e - (0 + n))) h hr.drew (ys := [] ++ ys) (by simpa using hn) (by simpa using h1) (grownCap_ge w _ _ e) (by
        have := grownCap_ge w (0 + n) 0 e
        rw [List.nil_append, List.length_append, ← hn.1, hnl, repL_len, hzl, ← Nat.add_mul]
        congr 1; omega)
      exact ⟨σ', _, _, hg, g1, g2, (Ext.drew σ st w).trans g3⟩
  | slice nm off n2 c2 c' kk hkk hle hx1 hx2 =>
    cases hv
    have hcc : cap ≤ c' := by
      cases hex : kk.ex with
      | true => exact Nat.le_of_eq (hx1 hex).symm
      | false => exact (hx2 hex).1
    cases hbb : Nat.ble (len + n) cap with
    | true =>
      rw [hbb] at h
      have hroom : len + n ≤ cap := ble_iff.1 hbb
      have h : cellsK (st.obj nm) .no (fun d m es ex tr =>
          bsel (Nat.ble (Nat.add off (Nat.mul (len + n) k)) m)
            (.ok (.slice (some ⟨nm, off, none⟩) (len + n) cap) (st.setObj nm (.cells d m es ex (Bt.put tr (half d) (Nat.add off (Nat.mul len k)) new)))) .no) = Re.ok v st' := h
      obtain ⟨d, m, es, ex, tr, ho, h⟩ := cellsK_ok h Re.no_ne
      obtain ⟨hm, h⟩ := bsel_ne h Re.no_ne
      have hm : off + (len + n) * k ≤ m := ble_iff.1 hm
      obtain ⟨rfl, rfl⟩ := Re.ok_inj h
      obtain ⟨w', s1, s2, s3⟩ := hr.over (P := P) hkk ho (off := off + len * k) hn h1 (by rw [hnl, Nat.add_assoc, ← Nat.add_mul]; exact hm) (t' := Bt.put tr (half d) (off + len * k) new) (fun hp => ⟨(Bt.put_perf hp).1, rfl⟩)
      refine ⟨σ, w', _, app_room (sCap := c') ht hi hby hk ha (by omega) (w' := w') ?_, .slice nm off (len + n) cap c' kk hkk hroom hx1 hx2, s2, s3⟩
      rw [add_place, Nat.add_assoc]; exact s1
    | false =>
      rw [hbb] at h
      have hno : cap < len + n := by
        rcases Nat.lt_or_ge cap (len + n) with h' | h'
        · exact h'
        · rw [ble_iff.2 h'] at hbb; cases hbb
      have h : osel (oldL st k (some ⟨nm, off, none⟩) len) .no (fun old =>
          cellsK (st.obj nm) .no fun d m es ex tr =>
            bsel (Nat.beq es k) (allK (rowOf (old ++ new) k false) (fun nm => .slice (some ⟨nm, 0, none⟩) (len + n) (len + n)) (st.setObj nm .dead)) .no) = Re.ok v st' := h
      obtain ⟨old, hold, h⟩ := osel_ne h Re.no_ne
      obtain ⟨d, m, es, ex, tr, ho, h⟩ := cellsK_ok h Re.no_ne
      obtain ⟨hes, h⟩ := bsel_ne h Re.no_ne
      have hes := beq_iff.1 hes
      subst hes
      obtain ⟨o1, o2, olds, o3, o4⟩ := oldL_ok (P := P) hkk hold hr c'
      obtain ⟨halive, g1, g2, g3, g4, g0, c, ec, g5, g6, g7, g8⟩ := hr.at hkk ho (by simp)
      have hone : ∀ u, u ∈ old ++ new → u.oneCell' = true := fun u hu => (List.mem_append.1 hu).elim (o2 u) (h1 u)
      by_cases hroom : len + n ≤ c'
      · -- the model does it in place
        have hex : kk.ex = false := by
          cases hex : kk.ex with
          | false => rfl
          | true => have := hx1 hex; omega
        obtain ⟨_, hN⟩ := hx2 hex
        rw [g1] at hN
        obtain ⟨rfl, rfl⟩ := allK_ok h
        have hmul : (len + n) * es ≤ c' * es := Nat.mul_le_mul_right _ hroom
        have hsum : len * es + n * es = (len + n) * es := by rw [Nat.add_mul]
        have hyl : ys.length = n * es := by rw [← hn.1, hnl]
        have hy1 : ∀ v, v ∈ ys → v.oneCell' = true := by
          intro v hv
          obtain ⟨j, hj⟩ := List.getElem?_of_mem hv
          have hjl : j < new.length := by
            rcases Nat.lt_or_ge j ys.length with h' | h'
            · rw [hn.1]; exact h'
            · rw [List.getElem?_eq_none h'] at hj; cases hj
          rw [← (hn.2 j new[j] v (by simp [hjl]) hj).one]
          exact h1 _ (List.getElem_mem hjl)
        have hst := run_storeCells_at P kk.b (kk.o + off + len * es) ec ys 0 ⟨c⟩ w g5 (by show kk.o + off + len * es + 0 + ys.length ≤ c.length; omega) hy1
        simp only [Nat.add_zero] at hst
        obtain ⟨s1, s2, s3⟩ := setRow_at g5 (c.take (kk.o + off + len * es) ++ ys ++ c.drop (kk.o + off + len * es + ys.length)).toArray
        have hlen : (c.take (kk.o + off + len * es) ++ ys ++ c.drop (kk.o + off + len * es + ys.length)).length = c.length := by
          simp; omega
        have hold2 : olds = (c.drop (kk.o + off)).take (len * es) := by
          have e1 := o4 w.drawn
          have e2 : (Builtin.firstCells es len (.slice (some ⟨kk.b, kk.o + off, none⟩) len c')).run P w = .ok ⟨(c.drop (kk.o + off)).take (len * es)⟩ w := by
            simp only [Builtin.firstCells]
            exact load_seg g5 (by omega)
          have e3 : ({ w with drawn := w.drawn } : World) = w := rfl
          rw [e3, e2] at e1
          simpa using e1.symm
        obtain ⟨σ', t1, t2, t3⟩ := hr.adopt (w' := w.setRow kk.b (c.take (kk.o + off + len * es) ++ ys ++ c.drop (kk.o + off + len * es + ys.length)).toArray) (o := rowOf (old ++ new) es false)
          halive hkk (k2 := ⟨kk.b, kk.o + off, kk.N, es, false⟩) rfl s3 s2 (fun τ hs1 hs2 => by
            unfold rowOf
            rw [lenL_eq]
            refine ⟨rfl, rfl, (Bt.ofL_perf _ _).1, dep_le _, by rw [ofL_take]; exact hone, _, ec, s1, by rw [hlen]; exact g6, by show kk.o + off + (old ++ new).length ≤ kk.N; rw [List.length_append]; omega, ?_⟩
            rw [ofL_take]
            have e5 : ((c.take (kk.o + off + len * es) ++ ys ++ c.drop (kk.o + off + len * es + ys.length)).drop (kk.o + off)).take (old ++ new).length = olds ++ ys := by
              have c1 : (c.take (kk.o + off + len * es) ++ ys ++ c.drop (kk.o + off + len * es + ys.length)).drop (kk.o + off) = (c.drop (kk.o + off)).take (len * es) ++ ys ++ c.drop (kk.o + off + len * es + ys.length) := by
                rw [List.append_assoc, List.drop_append_of_le_length (by simp; omega), List.drop_take, List.append_assoc]
                congr 2
                omega
              rw [c1, ← hold2, List.take_append_of_le_length (by simp [← o3.1, ← hn.1]), List.take_of_length_le (by simp [← o3.1, ← hn.1])]
            rw [e5]
            exact (o3.append hn).mono hs1) rfl rfl rfl
        refine ⟨σ', _, .slice (some ⟨kk.b, kk.o + off, none⟩) (len + n) c', app_room (sCap := c') ht hi hby hk ha hroom (w' := w.setRow kk.b (c.take (kk.o + off + len * es) ++ ys ++ c.drop (kk.o + off + len * es + ys.length)).toArray) ?_, ?_, t2, t3⟩
        · rw [add_place]; exact hst
        · rw [setObj_next]
          exact .slice st.next 0 (len + n) (len + n) c' ⟨kk.b, kk.o + off, kk.N, es, false⟩ t1 (Nat.le_refl _) (fun h => by cases h) (fun _ => ⟨hroom, by show kk.o + off + 0 + c' * es ≤ kk.N; omega⟩)
      · have hg := app_grow (ty := ty) (sLen := len) (sCap := c') (n := n) (base := some ⟨kk.b, kk.o + off, none⟩) (olds := olds) ht hi hby hk hz hzc ha (o4 _) (by omega) hb
        obtain ⟨r1, x1⟩ := hr.drew.upd (o := .dead) (w' := w.drew) halive hkk rfl (fun b hb => rfl) trivial rfl rfl rfl
        obtain ⟨σ', q1, q2, q3⟩ := grown_ok (w := w.drew) (e := e) (c := grownCap w (len + n) c' e) (zs := repL z (grownCap w (len + n) c' e - (len + n))) h r1 (ys := olds ++ ys) (o3.append hn) hone (grownCap_ge w _ _ e) (by
          have := grownCap_ge w (len + n) c' e
          rw [List.length_append, List.length_append, ← o3.1, o1, ← hn.1, hnl, repL_len, hzl, ← Nat.add_mul, ← Nat.add_mul]
          congr 1; omega)
        exact ⟨σ', _, _, hg, q1, q2, ((Ext.drew σ st w).trans x1).trans q3⟩
  | _ => cases hv
end
end Go.Proofs.YtolgomkmilbkgaaGreat.Ev

set_option autoImplicit false
set_option linter.unusedVariables false
set_option linter.unusedSimpArgs false
namespace Go.Proofs.YtolgomkmilbkgaaGreat.Ev
open Go
section
variable {P : Program} {σ : Nm} {st st' : St} {w : World}

theorem apK_ok {e : TypeId} {f : Nat → List Value → Ap} {r : Ap} (h : apK P e f = r) (hne : r ≠ .no) : ∃ k z i zv, smallB P e = true ∧ P.info? e = some i ∧ i.size = k ∧ i.bytes ≤ 65536 ∧ zeroOf P e = some zv ∧ zv.cells = ⟨z⟩ ∧ z.all flat = true ∧ z.length = k ∧ f k z = r := by
  unfold apK at h
  obtain ⟨hb, h⟩ := bsel_ne h hne.symm
  obtain ⟨k, hk, h⟩ := osel_ne h hne.symm
  obtain ⟨z, hz, h⟩ := osel_ne h hne.symm
  obtain ⟨hl, h⟩ := bsel_ne h hne.symm
  obtain ⟨i, hi, his⟩ := tySize_some hk
  obtain ⟨zv, z1, z2, z3⟩ := zeroL_ok hz
  exact ⟨k, z, i, zv, hb, hi, his, smallB_ok hb hi, z1, z2, z3, by have := beq_iff.1 hl; rwa [lenL_eq] at this, h⟩

theorem ts_two {ts : Array TypeId} {t u : TypeId} (h : ts.toList = [t, u]) : ts = #[t, u] := by
  apply Array.ext'; simpa using h

theorem append_ok {ts : Array TypeId} {ty : TypeId} {s s' x x' v : Value} (h : appendA P ts s x st = .ok v st') (hr : Rel σ st w) (hs : VR σ s s') (hx : VR σ x x') :
    DoesV P (Builtin.append_ ts ty #[s', x']) σ st w v st' := by
  unfold appendA at h
  split at h
  · rename_i base len cap
    cases hap : apOf P ts with
    | no => rw [hap] at h; cases h
    | list k =>
      rw [hap] at h
      obtain ⟨n, hn, h⟩ := osel_ne h Re.no_ne
      obtain ⟨new, hnew, h⟩ := osel_ne h Re.no_ne
      obtain ⟨l1, l2, ys, l3, l4⟩ := listA_ok (P := P) hnew hr hx
      unfold apOf at hap
      split at hap
      · rename_i t xt hts
        have := ts_two hts; subst this
        split at hap
        · obtain ⟨_, _, _, _, _, _, _, _, _, _, _, _, hf⟩ := apK_ok hap (by simp)
          cases hf
        · rename_i e e' hu hux
          obtain ⟨k', z, i, zv, b1, b2, b3, b4, b5, b6, b7, b8, hf⟩ := apK_ok hap (by simp)
          cases hf
          exact appendK_ok hu b2 b4 b3 b5 b6 b8 (.inl ⟨.inl ⟨e', hux⟩, lenA_ok hn hx, l4⟩) l3 l2 l1 hr hs h
        · rename_i e hu hux
          obtain ⟨k', z, i, zv, b1, b2, b3, b4, b5, b6, b7, b8, hf⟩ := apK_ok hap (by simp)
          cases hf
          exact appendK_ok hu b2 b4 b3 b5 b6 b8 (.inl ⟨.inr hux, lenA_ok hn hx, l4⟩) l3 l2 l1 hr hs h
        · cases hap
      · cases hap
    | zeros k z =>
      rw [hap] at h
      obtain ⟨k2, n, rfl, hh⟩ := natK_ok h Re.no_ne
      clear h
      have := int_inv hx; subst this
      obtain ⟨hb, h⟩ := bsel_ne hh Re.no_ne
      have hb : n ≤ 65536 := ble_iff.1 hb
      unfold apOf at hap
      split at hap
      · rename_i t xt hts
        have := ts_two hts; subst this
        split at hap
        · rename_i e kk hu hux
          obtain ⟨k', z', i, zv, b1, b2, b3, b4, b5, b6, b7, b8, hf⟩ := apK_ok hap (by simp)
          cases hf
          have hfl := repL_flat b7 n
          exact appendK_ok hu b2 b4 b3 b5 b6 b8 (.inr ⟨kk, k2, z, zv, hux, rfl, hb, b5, b6, b8, rfl⟩) (VRL.flat hfl) (flat_one hfl) (by rw [repL_len, b8]) hr hs h
        · obtain ⟨_, _, _, _, _, _, _, _, _, _, _, _, hf⟩ := apK_ok hap (by simp)
          cases hf
        · obtain ⟨_, _, _, _, _, _, _, _, _, _, _, _, hf⟩ := apK_ok hap (by simp)
          cases hf
        · cases hap
      · cases hap
  · cases h

theorem minN_eq (a b : Nat) : minN a b = Nat.min a b := by
  unfold minN
  rw [bsel_eq]
  by_cases h : a ≤ b
  · rw [if_pos (ble_iff.2 h)]; exact (Nat.min_eq_left h).symm
  · rw [if_neg (fun h' => h (ble_iff.1 h'))]; exact (Nat.min_eq_right (by omega)).symm

theorem copy_ok {ts : Array TypeId} {ty : TypeId} {s s' x x' v : Value} (h : copyA P ts s x st = .ok v st') (hr : Rel σ st w) (hs : VR σ s s') (hx : VR σ x x') :
    DoesV P (Builtin.copy_ ts ty #[s', x']) σ st w v st' := by
  unfold copyA at h
  split at h
  · rename_i base dl c
    obtain ⟨t, ht, h⟩ := osel_ne h Re.no_ne
    obtain ⟨k, hk, h⟩ := osel_ne h Re.no_ne
    obtain ⟨sl, hsl, h⟩ := osel_ne h Re.no_ne
    obtain ⟨xs, hxs, h⟩ := osel_ne h Re.no_ne
    unfold slElem at hk
    split at hk
    · rename_i e hu
      obtain ⟨l1, l2, ys, l3, l4⟩ := listA_ok (P := P) hxs hr hx
      rw [minN_eq] at h l1 l4
      have hlen := lenA_ok (P := P) hsl hx
      have hw : ({ w with drawn := w.drawn } : World) = w := rfl
      have l5 := l4 w.drawn
      rw [hw] at l5
      have hsz : (sizeOf e).run P w = .ok k w := run_sizeOf' hk w
      generalize hm : Nat.min sl dl = m at h l1 l4 l5
      -- the destination's base, and where the cells go
      have key : ∃ base' dc, s' = .slice base' dl dc ∧ ((m = 0 ∧ v = .int .i64 (.ofNat 0) ∧ st' = st) ∨ ∃ nm off kk, base = some ⟨nm, off, none⟩ ∧ σ nm = some kk ∧ base' = some ⟨kk.b, kk.o + off, none⟩ ∧
          ∃ w', (storeCells ⟨kk.b, kk.o + off, none⟩ ys).run P w = .ok () w' ∧ v = .int .i64 (.ofNat m) ∧ Rel σ st' w' ∧ Ext σ st w σ st' w') := by
        unfold copyTo at h
        cases hb : Nat.beq m 0 with
        | true =>
          rw [hb] at h
          have hm0 := beq_iff.1 hb
          subst hm0
          obtain ⟨rfl, rfl⟩ := Re.ok_inj h
          generalize hv : Value.slice base dl c = u at hs
          cases hs with
          | nilslice => cases hv; exact ⟨none, 0, rfl, .inl ⟨rfl, rfl, rfl⟩⟩
          | slice nm off n c2 c3 kk hkk h1 h2 h3 => cases hv; exact ⟨_, _, rfl, .inl ⟨rfl, rfl, rfl⟩⟩
          | _ => cases hv
        | false =>
          rw [hb] at h
          obtain ⟨a, rfl, h⟩ := osel_ne h Re.no_ne
          obtain ⟨d, mm, es, ex, tr, ho, h⟩ := cellsK_ok h Re.no_ne
          obtain ⟨hle, h⟩ := bsel_ne h Re.no_ne
          have hle : a.off + m * k ≤ mm := ble_iff.1 hle
          obtain ⟨rfl, rfl⟩ := Re.ok_inj h
          generalize hv : Value.slice (some a) dl c = u at hs
          cases hs with
          | slice nm off n c2 c3 kk hkk h1 h2 h3 =>
            cases hv
            obtain ⟨w', s1, s2, s3⟩ := hr.over (P := P) hkk ho (off := off) l3 l2 (by rw [l1]; exact hle) (t' := Bt.put tr (half d) off xs) (fun hp => ⟨(Bt.put_perf hp).1, rfl⟩)
            exact ⟨_, _, rfl, .inr ⟨nm, off, kk, rfl, hkk, rfl, w', s1, rfl, s2, s3⟩⟩
          | _ => cases hv
      obtain ⟨base', dc, rfl, hc⟩ := key
      rcases hc with ⟨rfl, rfl, rfl⟩ | ⟨nm, off, kk, rfl, hkk, rfl, w', s1, rfl, s2, s3⟩
      · have hy : ys = [] := List.eq_nil_of_length_eq_zero (by rw [← l3.1, l1]; simp)
        subst hy
        refine ⟨σ, w, .int .i64 (.ofNat 0), ?_, .int _ _, hr, .refl σ st' w⟩
        cases base' with
        | none => simp [Builtin.copy_, ht, run_underlying hu, hlen, hm, hsz, l5, goInt]
        | some a => simp [Builtin.copy_, ht, run_underlying hu, hlen, hm, hsz, l5, goInt, storeCells]
      · refine ⟨σ, w', .int .i64 (.ofNat m), ?_, .int _ _, s2, s3⟩
        simp [Builtin.copy_, ht, run_underlying hu, hlen, hm, hsz, l5, s1, goInt]
    · cases hk
  · cases h

theorem builtin_ok {b : Builtin} {ts : Array TypeId} {ty : TypeId} {consts : Array Bool} {xs ys : List Value} {v : Value} (h : builtinA P b ts xs st = .ok v st') (hr : Rel σ st w) (hx : VRL σ xs ys) :
    Does P (builtin b ts ty consts ⟨ys⟩) σ st w v st' := by
  unfold builtinA at h
  split at h
  · rename_i s x
    obtain ⟨s', r, rfl, hs, hx⟩ := hx.cons_inv
    obtain ⟨x', r', rfl, hx1, hx⟩ := hx.cons_inv
    have := hx.nil_inv; subst this
    exact (append_ok h hr hs hx1).does
  · rename_i s x
    obtain ⟨s', r, rfl, hs, hx⟩ := hx.cons_inv
    obtain ⟨x', r', rfl, hx1, hx⟩ := hx.cons_inv
    have := hx.nil_inv; subst this
    exact (copy_ok h hr hs hx1).does
  · rename_i x
    obtain ⟨x', r', rfl, hx1, hx⟩ := hx.cons_inv
    have := hx.nil_inv; subst this
    split at h
    · rename_i t ht
      obtain ⟨h, rfl⟩ := reO_ok h
      exact (lenK_ok ht h hr hx1).does hr
    · cases h
  · rename_i x
    obtain ⟨x', r', rfl, hx1, hx⟩ := hx.cons_inv
    have := hx.nil_inv; subst this
    split at h
    · rename_i t ht
      obtain ⟨hb, h⟩ := bsel_ne h Re.no_ne
      obtain ⟨h, rfl⟩ := reO_ok h
      exact (capK_ok ht hb h hr hx1).does hr
    · cases h
  · obtain ⟨h2, rfl⟩ := reO_ok h
    exact (minMax_ok (b := true) (ts := ts) (ty := ty) h2 hx).does hr
  · obtain ⟨h2, rfl⟩ := reO_ok h
    exact (minMax_ok (b := false) (ts := ts) (ty := ty) h2 hx).does hr
  · cases h
end
end Go.Proofs.YtolgomkmilbkgaaGreat.Ev

set_option autoImplicit false
set_option linter.unusedVariables false
set_option linter.unusedSimpArgs false
namespace Go.Proofs.YtolgomkmilbkgaaGreat.Ev
open Go
section
variable {P : Program} {σ : Nm} {st st' : St} {w : World}

theorem eval_mk {f f' : Ac → St → Re} (h : OpF.mk f' = .mk f) : f' = f := by cases h; rfl

theorem AR.evalL {a : Ac} {act : Act} (h : AR σ a act) : ∀ {xs : List Operand}, (∀ x, x ∈ xs → okOpd x = true) → VRL σ (xs.map (evalA a)) (xs.map act.eval)
  | [], _ => .nil
  | x :: xs, hx => .cons (h.eval (hx x (by simp))) (AR.evalL h fun y hy => hx y (by simp [hy]))

theorem parts_ok {a : Ac} {act : Act} (h : AR σ a act) {ps : List (Nat × Operand)} (hx : ∀ x, x ∈ ps.map (·.2) → okOpd x = true) :
    PR σ (ps.map fun (i, x) => (i, evalA a x)) (ps.map fun (i, x) => (i, act.eval x)) := by
  refine ⟨by simp [List.map_map, Function.comp_def], ?_⟩
  have := AR.evalL h hx
  simpa [List.map_map, Function.comp_def] using this

theorem ores {s : Sem Value} {x : Option Value} {v : Value} (h : reO x st = .ok v st') (hr : Rel σ st w) (hg : ∀ v, x = some v → Gives P s σ w v) : Does P (do pure (.value (← s))) σ st w v st' := by
  obtain ⟨h2, rfl⟩ := reO_ok h
  exact (hg v h2).does hr

theorem sres {s : Sem Unit} {x : Option St} {v : Value} (h : reS x = .ok v st') (hg : ∀ st', x = some st' → ∃ w', s.run P w = .ok () w' ∧ Rel σ st' w' ∧ Ext σ st w σ st' w') : Does P (do s; pure .skip) σ st w v st' := by
  obtain ⟨rfl, hh⟩ := reS_ok h
  obtain ⟨w', h1, h2, h3⟩ := hg st' hh
  exact ⟨σ, w', undef, .inr ⟨by rw [Sem.run_bind, h1]; rfl, rfl⟩, .junk σ, h2, h3⟩

theorem evalL_of {a : Ac} {act : Act} : ∀ {xs : List Operand}, (∀ x, x ∈ xs → VR σ (evalA a x) (act.eval x)) → VRL σ (xs.map (evalA a)) (xs.map act.eval)
  | [], _ => .nil
  | x :: xs, hx => .cons (hx x (by simp)) (evalL_of fun y hy => hx y (by simp [hy]))

theorem parts_of {a : Ac} {act : Act} {ps : List (Nat × Operand)} (hx : ∀ x, x ∈ ps.map (·.2) → VR σ (evalA a x) (act.eval x)) :
    PR σ (ps.map fun (i, x) => (i, evalA a x)) (ps.map fun (i, x) => (i, act.eval x)) := by
  refine ⟨by simp [List.map_map, Function.comp_def], ?_⟩
  have := evalL_of hx
  simpa [List.map_map, Function.comp_def] using this

set_option maxHeartbeats 2000000 in
/-- What an operation does. -/
theorem comp_ok {o : Oper} {f : Ac → St → Re} (hc : compOp P o.op = .mk f) {a : Ac} {act : Act} (hops : ∀ x, x ∈ o.op.operands.toList → VR σ (evalA a x) (act.eval x)) (hr : Rel σ st w) {v : Value} (h : f a st = .ok v st') :
    Does P (execOp act.eval o) σ st w v st' := by
  obtain ⟨dst, op, ty, pos, after, guard⟩ := o
  simp only at hc hops
  cases op with
  | move x =>
    have := eval_mk hc; subst this
    dsimp only [execOp]
    obtain ⟨rfl, rfl⟩ := Re.ok_inj h
    exact ⟨σ, w, act.eval x, .inl rfl, (hops x (by simp [Op.operands])), hr, .refl σ st w⟩
  | assign x =>
    have := eval_mk hc; subst this
    dsimp only [execOp]
    obtain ⟨rfl, rfl⟩ := Re.ok_inj h
    exact ⟨σ, w, act.eval x, .inl rfl, (hops x (by simp [Op.operands])), hr, .refl σ st w⟩
  | pick c x y =>
    have := eval_mk hc; subst this
    dsimp only [execOp]
    have e1 := (hops c (by simp [Op.operands]))
    have e2 := (hops x (by simp [Op.operands]))
    have e3 := (hops y (by simp [Op.operands]))
    obtain ⟨rfl, g⟩ := pickK_ok (P := P) (w := w) h e1 e2 e3
    obtain ⟨v', g1, g2⟩ := g
    refine ⟨σ, w, v', .inl ?_, g2, hr, .refl σ st' w⟩
    simp only [Sem.run_bind] at g1 ⊢
    cases hb : (asBool (act.eval c)).run P w with
    | ok b w2 => rw [hb] at g1; simp only [Result.andThen_ok, Sem.run_pure] at g1 ⊢; cases g1; rfl
    | halt e w2 => rw [hb] at g1; cases g1
  | alloc e =>
    have := eval_mk hc; subst this
    dsimp only [execOp]
    exact alloc_ok h hr
  | box e x =>
    have := eval_mk hc; subst this
    dsimp only [execOp]
    exact box_ok h hr ((hops x (by simp [Op.operands])))
  | build t ps =>
    have := eval_mk hc; subst this
    dsimp only [execOp]
    have hp := parts_of (ps := ps.toList) (fun x hx => hops x (by simpa [Op.operands] using hx))
    refine ores h hr fun v hv => ?_
    have := build_ok (w := w) hv hp
    have e : ps.map (fun (i, x) => (i, act.eval x)) = ⟨ps.toList.map fun (i, x) => (i, act.eval x)⟩ := by apply Array.ext'; simp
    rw [e]; exact this
  | buildSlice t n ps =>
    have := eval_mk hc; subst this
    dsimp only [execOp]
    have hp := parts_of (ps := ps.toList) (fun x hx => hops x (by simpa [Op.operands] using hx))
    have := buildSlice_ok h hr hp
    have e : ps.map (fun (i, x) => (i, act.eval x)) = ⟨ps.toList.map fun (i, x) => (i, act.eval x)⟩ := by apply Array.ext'; simp
    rw [e]; exact this
  | load t x =>
    have := eval_mk hc; subst this
    dsimp only [execOp]
    obtain ⟨rfl, g⟩ := load_ok h hr ((hops x (by simp [Op.operands])))
    exact g.does hr
  | store t x y =>
    have := eval_mk hc; subst this
    dsimp only [execOp]
    exact store_ok h hr ((hops x (by simp [Op.operands]))) ((hops y (by simp [Op.operands])))
  | nilCheck x =>
    have := eval_mk hc; subst this
    dsimp only [execOp]
    have e1 := (hops x (by simp [Op.operands]))
    obtain ⟨rfl, rfl, g⟩ := nilK_ok h e1
    refine ⟨σ, w, act.eval x, .inl ?_, e1, hr, .refl σ st' w⟩
    rcases g with ⟨ad, e⟩ | ⟨f, as, bs, e⟩ | ⟨l, as, bs, e⟩ <;> rw [e] <;> rfl
  | binOp op t x y k =>
    have := eval_mk hc; subst this
    dsimp only [execOp]
    exact ores h hr fun v hv => binK_ok hv ((hops x (by simp [Op.operands]))) ((hops y (by simp [Op.operands]))) x y
  | unOp op t x =>
    have := eval_mk hc; subst this
    dsimp only [execOp]
    exact ores h hr fun v hv => unA_ok hv ((hops x (by simp [Op.operands])))
  | convert s d x =>
    have := eval_mk hc; subst this
    dsimp only [execOp]
    exact ores h hr fun v hv => convK_ok hv hr ((hops x (by simp [Op.operands])))
  | makeInterface t x =>
    have := eval_mk hc; subst this
    dsimp only [execOp]
    exact ores h hr fun v hv => mkIface_ok hv ((hops x (by simp [Op.operands])))
  | makeFunc fn first captured =>
    cases fn with
    | func f =>
      have := eval_mk hc; subst this
      dsimp only [execOp]
      obtain ⟨rfl, rfl⟩ := Re.ok_inj h
      have h1 := evalL_of (xs := first.toList) (fun x hx => hops x (by simp only [Op.operands, Array.toList_append, List.mem_append]; exact .inl hx))
      have h2 := evalL_of (xs := captured.toList) (fun x hx => hops x (by simp only [Op.operands, Array.toList_append, List.mem_append]; exact .inr hx))
      have e1 : first.map act.eval = ⟨first.toList.map act.eval⟩ := by apply Array.ext'; simp
      have e2 : captured.map act.eval = ⟨captured.toList.map act.eval⟩ := by apply Array.ext'; simp
      rw [e1, e2]
      exact ⟨σ, w, _, .inl rfl, .func f _ _ _ _ h1.1 h1.2 h2.1 h2.2, hr, .refl σ st w⟩
    | _ => cases hc
  | makeMap t r =>
    cases r with
    | none =>
      have := eval_mk hc; subst this
      dsimp only [execOp]
      exact makeMap_ok h hr
    | some r => cases hc
  | makeSlice t l c =>
    have := eval_mk hc; subst this
    dsimp only [execOp]
    exact makeSlice_ok h hr ((hops l (by simp [Op.operands]))) ((hops c (by simp [Op.operands])))
  | slice t x lo hi mx =>
    have := eval_mk hc; subst this
    dsimp only [execOp]
    cases mx with
    | some m => cases h
    | none =>
      refine ores h hr fun v hv => sliceK_ok hv hr ((hops x (by simp [Op.operands]))) ?_ ?_
      · cases lo with
        | none => trivial
        | some l => exact (hops l (by simp [Op.operands]))
      · cases hi with
        | none => trivial
        | some l => exact (hops l (by simp [Op.operands]))
  | fieldAddr s x f =>
    have := eval_mk hc; subst this
    dsimp only [execOp]
    exact ores h hr fun v hv => fieldPtr_ok hv ((hops x (by simp [Op.operands])))
  | field t x f =>
    have := eval_mk hc; subst this
    dsimp only [execOp]
    exact ores h hr fun v hv => field_ok hv ((hops x (by simp [Op.operands])))
  | indexAddr t x i =>
    have := eval_mk hc; subst this
    dsimp only [execOp]
    exact ores h hr fun v hv => idxK_ok hv ((hops x (by simp [Op.operands]))) ((hops i (by simp [Op.operands])))
  | index t x i =>
    have := eval_mk hc; subst this
    dsimp only [execOp]
    exact ores h hr fun v hv => indexK_ok hv ((hops x (by simp [Op.operands]))) ((hops i (by simp [Op.operands])))
  | lookup t x i ok =>
    have := eval_mk hc; subst this
    dsimp only [execOp]
    exact ores h hr fun v hv => lookupK_ok hv hr ((hops x (by simp [Op.operands]))) ((hops i (by simp [Op.operands])))
  | mapUpdate t m k x =>
    have := eval_mk hc; subst this
    dsimp only [execOp]
    exact sres h fun st' hs => mapSetK_ok hs hr ((hops m (by simp [Op.operands]))) ((hops k (by simp [Op.operands]))) ((hops x (by simp [Op.operands])))
  | insert t m k x =>
    have := eval_mk hc; subst this
    dsimp only [execOp]
    exact sres h fun st' hs => mapSetK_ok hs hr ((hops m (by simp [Op.operands]))) ((hops k (by simp [Op.operands]))) ((hops x (by simp [Op.operands])))
  | mapEntry t m k =>
    have := eval_mk hc; subst this
    dsimp only [execOp]
    obtain ⟨w', v', h1, h2, h3, h4⟩ := mapEntryK_ok h hr ((hops m (by simp [Op.operands]))) ((hops k (by simp [Op.operands])))
    exact DoesV.does ⟨σ, w', v', h1, h2, h3, h4⟩
  | entryStore t m s x =>
    have := eval_mk hc; subst this
    dsimp only [execOp]
    exact sres h fun st' hs => entryStoreK_ok hs hr ((hops m (by simp [Op.operands]))) ((hops s (by simp [Op.operands]))) ((hops x (by simp [Op.operands])))
  | typeAssert x xt asserted ok =>
    have := eval_mk hc; subst this
    dsimp only [execOp]
    exact ores h hr fun v hv => assertA_ok hv ((hops x (by simp [Op.operands])))
  | extract t i =>
    have := eval_mk hc; subst this
    dsimp only [execOp]
    obtain ⟨rfl, g⟩ := extractK_ok (P := P) (w := w) h ((hops t (by simp [Op.operands])))
    exact g.does hr
  | call c =>
    obtain ⟨callee, args, argTypes⟩ := c
    cases callee with
    | builtin b =>
      have := eval_mk hc; subst this
      dsimp only [execOp]
      have hl := evalL_of (xs := args.toList) (fun x hx => hops x (by simpa [Op.operands, Call.operands] using hx))
      have := builtin_ok (ty := ty) (consts := args.map fun | .const _ => true | _ => false) h hr hl
      have e : args.map act.eval = ⟨args.toList.map act.eval⟩ := by apply Array.ext'; simp
      simp only [resolve, e]
      exact this
    | value f => cases hc
    | invoke x n => cases hc
  | _ => cases hc
end
end Go.Proofs.YtolgomkmilbkgaaGreat.Ev

set_option autoImplicit false
set_option linter.unusedVariables false
set_option linter.unusedSimpArgs false
namespace Go.Proofs.YtolgomkmilbkgaaGreat.Ev
open Go

/-- The fence: no bound; a round's, or not. -/
abbrev Fr (ro : Option Nat) : Fence := { Fence.wide with round := ro }

def RO (σ : Nm) : Option Nat → Option Nat → Prop
  | none, none => True
  | some l, some b => ∃ k, σ l = some k ∧ k.b = b
  | _, _ => False

theorem RO.mono {σ τ : Nm} (hs : Sub σ τ) {a b : Option Nat} (h : RO σ a b) : RO τ a b := by
  cases a <;> cases b <;> first | exact h | skip
  obtain ⟨k, h1, h2⟩ := h
  exact ⟨k, hs _ _ h1, h2⟩

def exitOf : Xit → Exit
  | .normal => .normal
  | .exit id => .exit id
  | .goto l => .goto l
  | .ret => .ret

/-- What a call's end says. -/
def Ends (σ : Nm) (st : St) (w : World) (v : Value) (st' : St) : Ending → World → Prop := fun e w' => ∃ σ' v', e = .returned v' ∧ VR σ' v v' ∧ Rel σ' st' w' ∧ Ext σ st w σ' st' w'

/-! ## Memory that nobody writes any more -/
abbrev Fz := Nat → Option (List Value)
def FzOk (φ : Fz) (w : World) : Prop := ∀ b c, φ b = some c → ∃ e : TypeId × (Nat × Nat), w.heap[b]? = some (.cells ⟨c⟩ e.1 e.2)
def Nm.pur (φ : Fz) : Nm := ⟨fun _ => none, φ⟩

theorem pur_sub (f : Nat → Option Blk) (φ : Fz) : Sub (.pur φ) ⟨f, φ⟩ := by
  refine ⟨fun nm k h => ?_, fun _ _ h => h⟩
  have h : (none : Option Blk) = some k := h
  cases h

/-- What a call with values without names leaves. -/
def PurEnds (φ : Fz) (w : World) (v : Value) : Ending → World → Prop := fun e w' => ∃ φ' v', e = .returned v' ∧ VR (.pur φ') v v' ∧ (∀ b c, φ b = some c → φ' b = some c) ∧
  (∀ b c, φ' b = some c → φ b = some c ∨ w.heap.size ≤ b) ∧ FzOk φ' w' ∧ w.heap.size ≤ w'.heap.size ∧ (∀ b, b < w.heap.size → w'.heap[b]? = w.heap[b]?) ∧ w'.tape = w.tape ∧ w'.os = w.os ∧ w'.output = w.output

/-- A call with values without names, in every world. -/
def PurOk (P : Program) (f : FuncId) (args : List Value) (v : Value) : Prop := ∀ (φ : Fz) (w : World) (args' : List Value), FzOk φ w → VRL (.pur φ) args args' → ∀ (n : Nat) (ro : Option Nat), CallsIn (Fr ro) n P f ⟨args'⟩ w (PurEnds φ w v)

/-- What is known of calls ahead is so. -/
structure OrcOk (P : Program) (O : Orc) : Prop where
  call : ∀ (f : FuncId) (args : List Value) (st : St) (v : Value) (st' : St), O.call f args st = .ok v st' →
    ∀ (σ : Nm) (w : World) (args' : List Value), Rel σ st w → VRL σ args args' → ∀ (n : Nat) (ro : Option Nat), CallsIn (Fr ro) n P f ⟨args'⟩ w (Ends σ st w v st')
  pur : ∀ (f : FuncId) (p : Pf), O.pur f = some p → ∀ args v, p.g args = some v → PurOk P f args v

theorem mapO_ok {f : Value → Option Value} : ∀ {xs ys : List Value}, mapO f xs = some ys → ys.length = xs.length ∧ ∀ (i : Nat) (x : Value), xs[i]? = some x → ∃ y, ys[i]? = some y ∧ f x = some y
  | [], ys, h => by cases h; exact ⟨rfl, fun i x h => by simp at h⟩
  | x :: xs, ys, h => by
    have h : (osel (f x) none fun y => osel (mapO f xs) none fun ys => some (y :: ys)) = some ys := h
    obtain ⟨y, hy, h⟩ := osel_ne h (by simp)
    obtain ⟨zs, hz, h⟩ := osel_ne h (by simp)
    cases h
    obtain ⟨h1, h2⟩ := mapO_ok hz
    refine ⟨by simp [h1], fun i u hu => ?_⟩
    cases i with
    | zero => simp at hu; subst hu; exact ⟨y, rfl, hy⟩
    | succ i => simpa using h2 i u (by simpa using hu)

/-- A list told without names. -/
theorem mapO_rel {f : Value → Option Value} {σ τ : Nm} {xs us ys : List Value} (h : mapO f xs = some us) (hx : VRL σ xs ys)
    (hf : ∀ (i : Nat) (x u y : Value), xs[i]? = some x → f x = some u → VR σ x y → VR τ u y) : VRL τ us ys ∧ (∀ u, u ∈ us → (∀ x, x ∈ xs → x.oneCell' = true) → u.oneCell' = true) := by
  obtain ⟨h1, h2⟩ := mapO_ok h
  have key : ∀ (i : Nat) (u y : Value), us[i]? = some u → ys[i]? = some y → ∃ x, xs[i]? = some x ∧ VR σ x y ∧ VR τ u y := by
    intro i u y hu hy
    have hi : i < xs.length := by rw [← h1]; exact (List.getElem?_eq_some_iff.1 hu).1
    have hxi : xs[i]? = some xs[i] := by simp [hi]
    obtain ⟨u', e1, e2⟩ := h2 i _ hxi
    rw [hu] at e1; cases e1
    have := hx.2 i _ y hxi hy
    exact ⟨_, hxi, this, hf i _ u y hxi e2 this⟩
  refine ⟨⟨h1.trans hx.1, fun i u y hu hy => (key i u y hu hy).choose_spec.2.2⟩, fun u hu hone => ?_⟩
  obtain ⟨i, hi⟩ := List.getElem?_of_mem hu
  have hi2 : i < ys.length := by rw [← hx.1, ← h1]; exact (List.getElem?_eq_some_iff.1 hi).1
  obtain ⟨x, e1, e2, e3⟩ := key i u ys[i] hi (by simp [hi2])
  rw [e3.one, ← e2.one]
  exact hone x (List.mem_of_getElem? e1)

/-- A value told without names stands for the same. -/
theorem snap_ok {σ : Nm} {st : St} {w : World} (hr : Rel σ st w) {φ : Fz} (hfz : ∀ b c, σ.fz b = some c → φ b = some c) {keep : Bool} : ∀ (d : Nat) {v u v' : Value}, snapV keep st d v = some u → VR σ v v' →
    (pureV d v = true ∨ ∀ nm k c e, Alive st nm → σ nm = some k → w.heap[k.b]? = some (.cells ⟨c⟩ e (0, 0)) → φ k.b = some c) → VR (.pur φ) u v'
  | 0, v, u, v', h, hv, _ => by
    have h : bsel (flat v) (some v) none = some u := h
    obtain ⟨hb, h⟩ := bsel_ne h (by simp)
    cases h
    have e : v' = v := by cases hv <;> first | rfl | (simp [flat] at hb)
    subst e
    exact VR.flat hb
  | d + 1, v, u, v', h, hv, hp => by
    have lst : ∀ {xs us ys : List Value}, mapO (snapV keep st d) xs = some us → VRL σ xs ys → (xs.all (pureV d) = true ∨ ∀ nm k c e, Alive st nm → σ nm = some k → w.heap[k.b]? = some (.cells ⟨c⟩ e (0, 0)) → φ k.b = some c) →
        VRL (.pur φ) us ys ∧ (∀ u, u ∈ us → (∀ x, x ∈ xs → x.oneCell' = true) → u.oneCell' = true) := by
      intro xs us ys h1 h2 h3
      refine mapO_rel h1 h2 fun i x u y hx hu hxy => snap_ok hr hfz d hu hxy ?_
      rcases h3 with h3 | h3
      · exact .inl (List.all_eq_true.1 h3 x (List.mem_of_getElem? hx))
      · exact .inr h3
    unfold snapV at h
    cases hv with
    | bool b => cases h; exact .bool b
    | int k n => cases h; exact .int k n
    | string s => cases h; exact .string s
    | nilptr => cases h; exact .nilptr
    | nilmap => cases h; exact .nilmap
    | nilFunc => cases h; exact .nilFunc
    | nilIface => cases h; exact .nilIface
    | map nm k hk => cases h
    | yield l k hk => cases h
    | nilslice =>
      cases h
      cases keep
      · exact .fnil none 0
      · exact .nilslice
    | ptr nm off k hk =>
      have hp : ∀ nm k c e, Alive st nm → σ nm = some k → w.heap[k.b]? = some (.cells ⟨c⟩ e (0, 0)) → φ k.b = some c := by
        rcases hp with hp | hp
        · cases hp
        · exact hp
      obtain ⟨dd, n, es, ex, tr, ho, h⟩ := cellsK_ok h (by simp)
      obtain ⟨cs, hcs, h⟩ := osel_ne h (by simp)
      cases h
      obtain ⟨ha, h1, h2, h3, h4, h0, c, e, h5, h6, h7, h8⟩ := hr.at hk ho (by simp)
      rw [Bt.sub_eq h3, List.append_nil, List.drop_zero, Nat.sub_zero] at hcs
      have hlen := Bt.perf_len h3
      obtain ⟨q1, q2⟩ := lst hcs h8 (.inr hp)
      have hcl : cs.length = n := by rw [(mapO_ok hcs).1]; simp; omega
      exact .fpt off k.b k.o cs _ c (hp nm k c e ha hk h5) (by omega) (fun u hu => q2 u hu h0) q1.1 q1.2 (by rw [hcl])
    | slice nm off n c0 c' k hk g1 g2 g3 =>
      cases hb : Nat.beq n 0 with
      | true =>
        have h : bsel (Nat.beq n 0) (some voidS) _ = some u := h
        rw [hb] at h
        cases h
        have := beq_iff.1 hb; subst this
        exact .fnil _ c'
      | false =>
        have h : bsel (Nat.beq n 0) (some voidS) (cellsK (st.obj nm) none fun dd m es _ tr =>
          bsel (Nat.ble (Nat.add off (Nat.mul n es)) m) (osel (mapO (snapV keep st d) (Bt.sub tr (half dd) off (Nat.add off (Nat.mul n es)) [])) none fun cs => some (fsl n cs)) none) = some u := h
        rw [hb, bsel_false] at h
        have hn : 0 < n := by
          rcases Nat.eq_zero_or_pos n with e | e
          · subst e; cases hb
          · exact e
        have hp : ∀ nm k c e, Alive st nm → σ nm = some k → w.heap[k.b]? = some (.cells ⟨c⟩ e (0, 0)) → φ k.b = some c := by
          rcases hp with hp | hp
          · cases n with
            | zero => omega
            | succ n => cases hp
          · exact hp
        obtain ⟨dd, m, es, ex, tr, ho, h⟩ := cellsK_ok h (by simp)
        obtain ⟨hm, h⟩ := bsel_ne h (by simp)
        obtain ⟨cs, hcs, h⟩ := osel_ne h (by simp)
        cases h
        have hm : off + n * es ≤ m := ble_iff.1 hm
        obtain ⟨ha, h1, h2, h3, h4, h0, c, e, h5, h6, h7, h8⟩ := hr.at hk ho (by simp)
        rw [Bt.sub_eq h3, List.append_nil] at hcs
        have e1 : Nat.add off (Nat.mul n es) - off = n * es := by show off + n * es - off = n * es; omega
        rw [e1] at hcs
        have hlen := Bt.perf_len h3
        have hseg := seg_rel h8 (off := off) (m := n * es) hm
        obtain ⟨q1, q2⟩ := lst hcs hseg (.inr hp)
        have hcl : cs.length = n * es := by rw [(mapO_ok hcs).1]; simp; omega
        have hcc : n ≤ c' := by
          cases hex : k.ex with
          | true => rw [g2 hex]; exact g1
          | false => exact Nat.le_trans g1 (g3 hex).1
        refine .fsl n c' k.b (k.o + off) cs _ c hn hcc (hp nm k c e ha hk h5) (by omega) (fun u hu => q2 u hu fun x hx => ?_) q1.1 q1.2 (by rw [hcl])
        obtain ⟨i, hi⟩ := List.getElem?_of_mem hx
        rw [List.getElem?_take] at hi
        split at hi
        · rw [List.getElem?_drop] at hi
          exact h0 x (List.mem_of_getElem? (i := off + i) (by rw [List.getElem?_take, if_pos (by omega)]; exact hi))
        · cases hi
    | func f as as' bs bs' g1 g2 g3 g4 =>
      obtain ⟨us, hus, h⟩ := osel_ne h (by simp)
      obtain ⟨ws, hws, h⟩ := osel_ne h (by simp)
      cases h
      have hp1 : as.all (pureV d) = true ∨ _ := hp.imp (fun hp => (bsel_ne (α := Bool) (b := as.all (pureV d)) (t := bs.all (pureV d)) (no := false) (r := true) hp (by simp)).1) id
      have hp2 : bs.all (pureV d) = true ∨ _ := hp.imp (fun hp => (bsel_ne (α := Bool) (b := as.all (pureV d)) (t := bs.all (pureV d)) (no := false) (r := true) hp (by simp)).2) id
      obtain ⟨q1, _⟩ := lst hus ⟨g1, g2⟩ hp1
      obtain ⟨q2, _⟩ := lst hws ⟨g3, g4⟩ hp2
      exact .func f us as' ws bs' q1.1 q1.2 q2.1 q2.2
    | fsl n c' b o cs ys c g1 g2 g3 g4 g5 g6 g7 g8 =>
      obtain ⟨us, hus, h⟩ := osel_ne h (by simp)
      cases h
      obtain ⟨q1, q2⟩ := lst hus ⟨g6, g7⟩ hp
      have hl : us.length = cs.length := (mapO_ok hus).1
      exact .fsl n c' b o us ys c g1 g2 (hfz _ _ g3) (by omega) (fun u hu => q2 u hu g5) q1.1 q1.2 (by rw [hl]; exact g8)
    | fnil a c' => cases h; exact .fnil a c'
    | fpt off b o cs ys c g3 g4 g5 g6 g7 g8 =>
      obtain ⟨us, hus, h⟩ := osel_ne h (by simp)
      cases h
      obtain ⟨q1, q2⟩ := lst hus ⟨g6, g7⟩ hp
      have hl : us.length = cs.length := (mapO_ok hus).1
      exact .fpt off b o us ys c (hfz _ _ g3) (by omega) (fun u hu => q2 u hu g5) q1.1 q1.2 (by rw [hl]; exact g8)
    | iface t x y hxy =>
      obtain ⟨u', hu, h⟩ := osel_ne h (by simp)
      cases h
      exact .iface t u' y (snap_ok hr hfz d hu hxy hp)
    | agg as as' g0 g1 g2 =>
      obtain ⟨us, hus, h⟩ := osel_ne h (by simp)
      cases h
      obtain ⟨q1, q2⟩ := lst hus ⟨g1, g2⟩ hp
      exact .agg us as' (fun u hu => q2 u hu g0) q1.1 q1.2
    | tuple as as' g1 g2 =>
      obtain ⟨us, hus, h⟩ := osel_ne h (by simp)
      cases h
      obtain ⟨q1, _⟩ := lst hus ⟨g1, g2⟩ hp
      exact .tuple us as' q1.1 q1.2

/-- All that a world's rows hold. -/
def fzAll (w : World) : Fz := fun b => match w.heap[b]? with | some (.cells c e f) => some c.toList | _ => none
theorem fzAll_eq {w : World} {b : Nat} {c : List Value} {e : TypeId} {f : Nat × Nat} (h : w.heap[b]? = some (.cells ⟨c⟩ e f)) : fzAll w b = some c := by unfold fzAll; rw [h]
theorem fzAll_ok (w : World) : FzOk (fzAll w) w := by
  intro b c h
  unfold fzAll at h
  split at h
  · rename_i c' e f he
    cases h
    exact ⟨(e, f), he⟩
  · cases h

theorem Rel.fzok {σ : Nm} {st : St} {w : World} (h : Rel σ st w) : FzOk σ.fz w := fun b c hb => (h.fro b c hb).1

/-- The world grows. -/
theorem Rel.grow {σ : Nm} {st : St} {w w' : World} (h : Rel σ st w) (hs : w.heap.size ≤ w'.heap.size) (hb : ∀ b, b < w.heap.size → w'.heap[b]? = w.heap[b]?) {φ : Fz} (h1 : ∀ b c, σ.fz b = some c → φ b = some c)
    (h2 : ∀ b c, φ b = some c → σ.fz b = some c ∨ w.heap.size ≤ b) (h3 : FzOk φ w') : Rel ⟨σ.nm, φ⟩ st w' := by
  have hsub : Sub σ ⟨σ.nm, φ⟩ := ⟨fun _ _ h => h, h1⟩
  refine ⟨fun nm ha => ?_, fun nm nm' k k' ha ha' e e' => h.apart nm nm' k k' ha ha' e e', fun nm hn => h.fresh nm hn, fun nm k e => ⟨Nat.lt_of_lt_of_le (h.bound nm k e) hs, (h.bnd nm k e).2⟩, fun b c hbc => ⟨h3 b c hbc, fun nm k ha e he => ?_⟩⟩
  · obtain ⟨k, e1, e2⟩ := h.obj nm ha
    exact ⟨k, e1, OR.mono hsub (hb _ (h.bound nm k e1)) e2⟩
  · rcases h2 b c hbc with h4 | h4
    · exact (h.fro b c h4).2 nm k ha e he
    · have := h.bound nm k e
      omega

theorem flat_same {τ : Nm} {v v' : Value} (hf : flat v = true) (h : VR τ v v') : v' = v := by
  cases h <;> first | rfl | (simp [flat] at hf)
theorem flat2_ok {τ σ : Nm} {v v' : Value} (hf : flat2 v = true) (h : VR τ v v') : v' = v ∧ VR σ v v := by
  by_cases ht : ∃ cs, v = .tuple cs
  · obtain ⟨⟨cs⟩, rfl⟩ := ht
    have hf : cs.all flat = true := hf
    have hc : ∀ (i : Nat) (u : Value), cs[i]? = some u → flat u = true := fun i u hu => List.all_eq_true.1 hf u (List.mem_of_getElem? hu)
    obtain ⟨as', rfl, h1, h2⟩ : ∃ as', v' = .tuple ⟨as'⟩ ∧ cs.length = as'.length ∧ ∀ (i : Nat) (u x : Value), cs[i]? = some u → as'[i]? = some x → VR τ u x := by
      cases h with
      | tuple as as' h1 h2 => exact ⟨as', rfl, h1, h2⟩
    have : as' = cs := by
      apply List.ext_getElem?
      intro i
      by_cases hi : i < cs.length
      · have e1 : cs[i]? = some cs[i] := by simp [hi]
        have e2 : as'[i]? = some as'[i] := by simp [← h1, hi]
        rw [e1, e2, flat_same (hc i _ e1) (h2 i _ _ e1 e2)]
      · rw [List.getElem?_eq_none (by omega), List.getElem?_eq_none (by omega)]
    subst this
    exact ⟨rfl, .tuple as' as' rfl fun i u x hu hx => by rw [hu] at hx; cases hx; exact VR.flat (hc i u hu)⟩
  · have hfl : flat v = true := by
      unfold flat2 at hf
      split at hf
      · exact absurd ⟨_, rfl⟩ ht
      · exact hf
    exact ⟨flat_same hfl h, VR.flat hfl⟩
theorem purS_ok {P : Program} {f : FuncId} {p : Pf} (hp : ∀ args v, p.g args = some v → PurOk P f args v) {σ : Nm} {st : St} {w : World} {args args' : List Value} {v : Value} (h : purS p args st = some v) (hr : Rel σ st w) (ha : VRL σ args args') (n : Nat) (ro : Option Nat) :
    CallsIn (Fr ro) n P f ⟨args'⟩ w (Ends σ st w v st) := by
  unfold purS at h
  obtain ⟨xs, hxs, h⟩ := osel_ne h (by simp)
  obtain ⟨v1, hv1, h⟩ := osel_ne h (by simp)
  obtain ⟨hb, h⟩ := bsel_ne h (by simp)
  cases h
  have hext : ∀ (τ : Nm) (w' : World), Sub σ τ → (∀ nm, τ nm = σ nm) → w.heap.size ≤ w'.heap.size → (∀ b, b < w.heap.size → w'.heap[b]? = w.heap[b]?) → w'.tape = w.tape → w'.os = w.os → w'.output = w.output → (∀ b c, τ.fz b = some c → σ.fz b = some c ∨ w.heap.size ≤ b) → Ext σ st w τ st w' :=
    fun τ w' h1 h2 h3 h4 h5 h6 h7 h8 => ⟨h1, Nat.le_refl _, h3, fun b _ ⟨nm, k, q1, q2, q3⟩ => ⟨nm, k, q1, by rw [← h2]; exact q2, q3⟩, fun b hb _ => h4 b hb, h5, h6, h7, fun nm _ => h2 nm, fun b c hb hc => (h8 b c hc).resolve_right (by omega)⟩
  cases hpure : args.all (pureV snapD) with
  | true =>
    have hx : VRL (.pur σ.fz) xs args' := (mapO_rel hxs ha fun i x u y hx hu hxy => snap_ok hr (fun _ _ h => h) snapD hu hxy (.inl (List.all_eq_true.1 hpure x (List.mem_of_getElem? hx)))).1
    refine CallsIn.mono (hp xs v hv1 σ.fz w args' hr.fzok hx n ro) fun e w' ⟨φ', v', h1, h2, h3, h4, h5, h6, h7, h8, h9, h10⟩ => ?_
    refine ⟨⟨σ.nm, φ'⟩, v', h1, h2.mono (pur_sub σ.nm φ'), hr.grow h6 h7 h3 h4 h5, hext _ _ ⟨fun _ _ h => h, h3⟩ (fun _ => rfl) h6 h7 h8 h9 h10 h4⟩
  | false =>
    rw [hpure] at hb
    have hflat : flat2 v = true := hb
    have hx : VRL (.pur (fzAll w)) xs args' := (mapO_rel hxs ha fun i x u y hx hu hxy => snap_ok hr (fun b c h => let ⟨e, he⟩ := hr.fzok b c h; fzAll_eq he) snapD hu hxy (.inr fun nm k c e _ _ h => fzAll_eq h)).1
    refine CallsIn.mono (hp xs v hv1 _ w args' (fzAll_ok w) hx n ro) fun e w' ⟨φ', v', h1, h2, h3, h4, h5, h6, h7, h8, h9, h10⟩ => ?_
    obtain ⟨e, hv⟩ := flat2_ok (σ := σ) hflat h2
    subst e
    have hfz : FzOk σ.fz w' := fun b c hb => by
      obtain ⟨e, he⟩ := hr.fzok b c hb
      have hbl : b < w.heap.size := by
        rcases Nat.lt_or_ge b w.heap.size with h | h
        · exact h
        · rw [Array.getElem?_eq_none h] at he; cases he
      exact ⟨e, (h7 b hbl).trans he⟩
    exact ⟨σ, v', h1, hv, hr.grow h6 h7 (fun _ _ h => h) (fun _ _ h => .inl h) hfz, hext σ w' (.refl σ) (fun _ => rfl) h6 h7 h8 h9 h10 (fun _ _ h => .inl h)⟩

/-- What a run of a piece of code says. -/
structure CodeOk (P : Program) (rec : Rec) : Prop where
  code : ∀ (c : Code) (ro : Option Nat) (a : Ac) (st : St) (x : Xit) (a' : Ac) (st' : St), rec c ro a st = .ok x a' st' →
    ∀ (σ : Nm) (w : World) (act : Act) (ro' : Option Nat), Rel σ st w → AR σ a act → RO σ ro ro' → ∀ (n : Nat) (Q : Exit → Act → World → Prop),
      (∀ σ' w' act', Rel σ' st' w' → AR σ' a' act' → Ext σ st w σ' st' w' → Q (exitOf x) act' w') → c.wpIn (Fr ro') n P Q act w
  orc : OrcOk P ⟨rec.call, rec.pur⟩

section
variable {P : Program} {rec : Rec} {σ : Nm} {st st' : St} {w : World}

theorem setArgs_get : ∀ (xs : List Value) (k : Nat) (t : Regs), k + xs.length ≤ 512 → ∀ i, i < 512 → (regAt i).g (setArgs xs k t) = if k ≤ i ∧ i < k + xs.length then xs.getD (i - k) junk else (regAt i).g t
  | [], k, t, h, i, hi => by
    rw [if_neg (by simp)]
    rfl
  | x :: xs, k, t, h, i, hi => by
    show (regAt i).g (setArgs xs (k + 1) ((regAt k).s x t)) = _
    have hl : (x :: xs).length = xs.length + 1 := rfl
    rw [setArgs_get xs (k + 1) _ (by rw [hl] at h; omega) i hi]
    rw [hl] at h ⊢
    by_cases e : i = k
    · subst e
      rw [if_neg (by omega), if_pos (by omega), regAt_same hi]
      simp
    · rw [regAt_other hi (by omega) e]
      by_cases e2 : k + 1 ≤ i ∧ i < k + 1 + xs.length
      · rw [if_pos e2, if_pos (by omega)]
        have : i - k = (i - (k + 1)) + 1 := by omega
        rw [this]; simp
      · rw [if_neg e2, if_neg (by omega)]

theorem args_ok {args args' : List Value} (h : VRL σ args args') {n : Nat} (hl : args.length ≤ n) (hn : n ≤ 512) :
    AR σ (Ac.ofArgs args n) { tmps := ⟨args'⟩ ++ Array.replicate (n - (⟨args'⟩ : Array Value).size) undef, defers := [] } := by
  refine ⟨⟨hn, ?_, fun i hi => ?_⟩, rfl, fun i nm f h => by simp [Ac.ofArgs] at h⟩
  · have := h.1
    simp [Ac.ofArgs]; omega
  · show VR σ ((regAt i).g (setArgs args 0 regs0)) _
    rw [setArgs_get args 0 regs0 (by omega) i hi]
    by_cases hc : i < args.length
    · rw [if_pos ⟨Nat.zero_le _, by omega⟩]
      obtain ⟨u, hu⟩ : ∃ u, args[i]? = some u := ⟨args[i], by simp [hc]⟩
      obtain ⟨v, hv, hr⟩ := h.get hu
      have h1 : args.getD (i - 0) junk = u := by simp [List.getD_eq_getElem?_getD, hu]
      have hc' : i < args'.length := h.1 ▸ hc
      have h2 : ((⟨args'⟩ : Array Value) ++ Array.replicate (n - (⟨args'⟩ : Array Value).size) undef).getD i undef = v := by
        simp only [Array.getD_eq_getD_getElem?]
        rw [Array.getElem?_append_left (by simpa using hc')]
        simp [hv]
      rw [h1, h2]; exact hr
    · rw [if_neg (by omega), regs0_get hi]
      have h2 : ((⟨args'⟩ : Array Value) ++ Array.replicate (n - (⟨args'⟩ : Array Value).size) undef).getD i undef = undef := by
        simp only [Array.getD_eq_getD_getElem?]
        rw [Array.getElem?_append_right (by have := h.1; simp; omega)]
        rw [Array.getElem?_replicate]
        split <;> rfl
      rw [h2]
      exact .junk σ

theorem resA_ok {a : Ac} {act : Act} (hA : AR σ a act) (hr : Rel σ st w) {r : ResultVar} (hok : okRes r = true) {v : Value} (h : resA P a st r = some v) :
    ∃ v', ((match r with | .tmp t => pure (act.tmps.getD t undef) | .cell a t => do loadVar t (← asAddr (act.tmps.getD a undef))) : Sem Value).run P w = .ok v' w ∧ VR σ v v' := by
  cases r with
  | tmp t =>
    cases h
    have ht : @LT.lt Nat _ t 512 := ble_iff.1 hok
    exact ⟨_, rfl, by rw [Ac.get_eq]; exact hA.1.2.2 t ht⟩
  | cell x t =>
    have ht : @LT.lt Nat _ x 512 := ble_iff.1 hok
    have hx : VR σ (a.get x) (act.tmps.getD x undef) := by rw [Ac.get_eq]; exact hA.1.2.2 x ht
    have h : ptrK (a.get x) none (fun b o => Re.rec (motive := fun _ => Option Value) none (fun v _ => some v) (loadK (tyOf P t) b o st)) = some v := h
    obtain ⟨ad, e, h⟩ := ptrK_ok h (by simp)
    rw [e] at hx
    obtain ⟨k, hk, e2⟩ := ptr_inv hx
    cases hl : loadK (tyOf P t) ad.block ad.off st with
    | no => rw [hl] at h; cases h
    | ok u st2 =>
      rw [hl] at h
      cases h
      obtain ⟨rfl, v', h1, h2⟩ := loadK_ok hl hr hk
      refine ⟨v', ?_, h2⟩
      show (do loadVar t (← asAddr (act.tmps.getD x undef)) : Sem Value).run P _ = _
      rw [e2]
      simp [asAddr, h1]

theorem resL_ok {a : Ac} {g : ResultVar → Sem Value} (hg : ∀ r v, okRes r = true → resA P a st r = some v → ∃ v', (g r).run P w = .ok v' w ∧ VR σ v v') : ∀ {rs : List ResultVar} {vs : List Value}, (∀ r, r ∈ rs → okRes r = true) → resL P a st rs = some vs →
    ∃ vs', (rs.mapM (m := Sem) g).run P w = .ok vs' w ∧ VRL σ vs vs'
  | [], vs, _, h => by cases h; exact ⟨[], rfl, .nil⟩
  | r :: rs, vs, hok, h => by
    have h : (osel (resA P a st r) none fun v => osel (resL P a st rs) none fun vs => some (v :: vs)) = some vs := h
    obtain ⟨v, hv, h⟩ := osel_ne h (by simp)
    obtain ⟨us, hu, h⟩ := osel_ne h (by simp)
    cases h
    obtain ⟨v', h1, h2⟩ := hg r v (hok r (by simp)) hv
    obtain ⟨us', h3, h4⟩ := resL_ok hg (fun q hq => hok q (by simp [hq])) hu
    refine ⟨v' :: us', ?_, .cons h2 h4⟩
    rw [List.mapM_cons]
    simp only [Sem.run_bind, Sem.run_pure, h1, Result.andThen_ok, h3]

theorem results_ok {fn : Func} {a : Ac} {act : Act} (hA : AR σ a act) (hr : Rel σ st w) (hok : fn.results.toList.all okRes = true) {v : Value} (h : resultsA P fn a st = .ok v st') :
    st' = st ∧ ∃ v', (results fn act.tmps).run P w = .ok v' w ∧ VR σ v v' := by
  unfold resultsA at h
  have key : ∀ vs, resL P a st fn.results.toList = some vs → ∃ vs', (results fn act.tmps).run P w = .ok (if h : (⟨vs'⟩ : Array Value).size = 1 then (⟨vs'⟩ : Array Value)[0] else .tuple ⟨vs'⟩) w ∧ VRL σ vs vs' := by
    intro vs hvs
    obtain ⟨vs', h1, h2⟩ := resL_ok (P := P) (fun r v hq hv => resA_ok (P := P) hA hr hq hv) (fun r hq => List.all_eq_true.1 hok r hq) hvs
    refine ⟨vs', ?_, h2⟩
    unfold results
    rw [Array.mapM_eq_mapM_toList]
    show ((List.mapM (m := Sem) _ fn.results.toList >>= fun l => pure l.toArray) >>= _).run P w = _
    rw [Sem.run_bind, Sem.run_bind]
    generalize hX : Sem.run P (List.mapM _ fn.results.toList) w = X
    have hX2 : X = .ok vs' w := hX.symm.trans h1
    rw [hX2]
    rfl
  split at h
  · rename_i u hu
    obtain ⟨rfl, rfl⟩ := Re.ok_inj h
    obtain ⟨vs', h1, h2⟩ := key _ hu
    obtain ⟨b, bs, rfl, h3, h4⟩ := h2.cons_inv
    have := h4.nil_inv; subst this
    exact ⟨rfl, b, h1, h3⟩
  · rename_i vs hne hu
    obtain ⟨rfl, rfl⟩ := Re.ok_inj h
    obtain ⟨vs', h1, h2⟩ := key _ hu
    have hl : ¬ (⟨vs'⟩ : Array Value).size = 1 := by
      intro e
      have e1 : vs.length = 1 := by rw [h2.1]; simpa using e
      cases vs with
      | nil => simp at e1
      | cons u us => cases us with
        | nil => exact hne u rfl
        | cons => simp at e1
    rw [dif_neg hl] at h1
    exact ⟨rfl, _, h1, .tuple _ _ h2.1 h2.2⟩
  · cases h

/-- The way out, past the marks. -/
theorem leave_ok {fn : Func} {tmps : Array Value} {n : Nat} {F : Fence} {R : Ending → World → Prop} : ∀ {ds : List Nat} {fs : List Deferred} {st : St} {w : World} {st' : St}, leaveA ds st = .ok st' → DR σ ds fs → Rel σ st w →
    (∀ w', Rel σ st' w' → Ext σ st w σ st' w' → ∃ v, (results fn tmps).run P w' = .ok v w' ∧ R (.returned v) w') → LeavesInM F n P fn tmps R fs .returning w
  | [], fs, st, w, st', h, hd, hr, hR => by
    cases h
    cases fs with
    | nil => exact hR w hr (.refl σ st w)
    | cons f fs => have := hd.1; simp at this
  | b :: bs, [], st, w, st', h, hd, hr, hR => by have := hd.1; simp at this
  | b :: bs, f :: fs, st, w, st', h, hd, hr, hR => by
    have h : (match st.obj b with | .deferred => leaveA bs (st.setObj b .dead) | _ => Rs.no) = .ok st' := h
    split at h
    · rename_i ho
      obtain ⟨k, hk, rfl⟩ := hd.2 0 b f rfl rfl
      obtain ⟨ha, g1⟩ := hr.at hk ho (by simp)
      have g1 : w.heap[k.b]? = some (.deferred (some [])) := g1
      obtain ⟨r1, x1⟩ := hr.upd (o := .dead) (w' := { w with heap := w.heap.setIfInBounds k.b (.deferred none) }) ha hk (by simp) (fun c hc => by simp [Array.getElem?_setIfInBounds_ne (Ne.symm hc)]) trivial rfl rfl rfl
      refine ⟨by simp, .inl ⟨k.b, { w with heap := w.heap.setIfInBounds k.b (.deferred none) }, rfl, ?_, ?_⟩⟩
      · simp [Instr.takeDeferred, getObj, setObj, Sem.run, g1]
      · exact leave_ok h ⟨by have := hd.1; simpa using this, fun i nm f h1 h2 => hd.2 (i + 1) nm f (by simpa using h1) (by simpa using h2)⟩ r1 (fun w' h1 h2 => hR w' h1 (x1.trans h2))
    · cases h

theorem feOf_ok {f : FuncId} {c : Code} {m : Nat} {fn : Func} (h : feOf P f = .mk c m fn) : P.funcs[f]? = some fn ∧ fn.body = some c ∧ (fn.name == "runtime.NumGoroutine") = false ∧ m = fn.ntmps ∧ fn.ntmps ≤ 512 ∧ fn.results.toList.all okRes = true := by
  unfold feOf at h
  split at h
  · cases h
  · rename_i fn' hf
    split at h
    · cases h
    · rename_i c' hb
      cases hn : (fn'.name == "runtime.NumGoroutine") with
      | true => rw [hn] at h; cases h
      | false =>
        rw [hn] at h
        obtain ⟨hc, h⟩ := bsel_ne (α := Fe) (b := fn'.ntmps.ble 512 && fn'.results.toList.all okRes) (t := .mk c' fn'.ntmps fn') (no := .no) (r := .mk c m fn) h (by simp)
        cases h
        rw [Bool.and_eq_true] at hc
        exact ⟨hf, hb, hn, rfl, ble_iff.1 hc.1, hc.2⟩

theorem callB_ok (hrec : CodeOk P rec) {f : FuncId} {args args' : List Value} {v : Value} (h : callB P rec f args st = .ok v st') (hr : Rel σ st w) (ha : VRL σ args args') (n : Nat) (ro : Option Nat) :
    CallsIn (Fr ro) n P f ⟨args'⟩ w (Ends σ st w v st') := by
  unfold callB at h
  cases hfe : feOf P f with
  | no => rw [hfe] at h; cases h
  | mk c m fn =>
    rw [hfe] at h
    obtain ⟨hf, hb, hname, rfl, hm, hres⟩ := feOf_ok hfe
    have h : Re.rec (motive := fun _ => Re) (bsel (Nat.ble (lenL args) fn.ntmps) (endF P fn (rec c none (Ac.ofArgs args fn.ntmps) st)) .no) (fun v st => .ok v st) (rec.call f args st) = .ok v st' := h
    cases hO : rec.call f args st with
    | ok v1 st1 => rw [hO] at h; cases h; exact hrec.orc.call f args st _ _ hO σ w args' hr ha n ro
    | no =>
    rw [hO] at h
    have h : bsel (Nat.ble (lenL args) fn.ntmps) (endF P fn (rec c none (Ac.ofArgs args fn.ntmps) st)) .no = .ok v st' := h
    obtain ⟨hl, h⟩ := bsel_ne h Re.no_ne
    have hl : args.length ≤ fn.ntmps := by have := ble_iff.1 hl; rwa [lenL_eq] at this
    have h : endF P fn (rec c none (Ac.ofArgs args fn.ntmps) st) = .ok v st' := h
    show CallsIn (Fr none) n P f ⟨args'⟩ w (Ends σ st w v st')
    refine callsIn_of_wp_marks hf hb trivial ?_
    cases hrc : rec c none (Ac.ofArgs args fn.ntmps) st with
    | no => rw [hrc] at h; cases h
    | ok x a st1 =>
      rw [hrc] at h
      have fin : ∀ {st2 : St}, leaveA a.defers st1 = .ok st2 → resultsA P fn a st2 = .ok v st' → ∀ σ' w' act', Rel σ' st1 w' → AR σ' a act' → Ext σ st w σ' st1 w' →
          LeavesInM (Fr none) n P fn act'.tmps (Ends σ st w v st') act'.defers .returning w' := by
        intro st2 hle hra σ' w' act' r1 a1 x1
        refine leave_ok hle a1.2 r1 fun w2 r2 x2 => ?_
        obtain ⟨rfl, v', e1, e2⟩ := results_ok (P := P) a1 r2 hres hra
        exact ⟨v', e1, σ', v', rfl, e2, r2, x1.trans x2⟩
      have hrun : ∀ (Q : Exit → Act → World → Prop), (∀ σ' w' act', Rel σ' st1 w' → AR σ' a act' → Ext σ st w σ' st1 w' → Q (exitOf x) act' w') →
          c.wpIn (Fr none) n P Q { tmps := ⟨args'⟩ ++ Array.replicate (fn.ntmps - (⟨args'⟩ : Array Value).size) undef, defers := [] } w :=
        fun Q hQ => hrec.code c none _ st x a st1 hrc σ w _ none hr (args_ok ha hl hm) trivial n Q hQ
      cases x with
      | normal =>
        have h : Rs.rec (motive := fun _ => Re) .no (fun st => resultsA P fn a st) (leaveA a.defers st1) = .ok v st' := h
        cases hle : leaveA a.defers st1 with
        | no => rw [hle] at h; cases h
        | ok st2 => rw [hle] at h; exact hrun _ (fun σ' w' act' r1 a1 x1 => fin hle h σ' w' act' r1 a1 x1)
      | ret =>
        have h : Rs.rec (motive := fun _ => Re) .no (fun st => resultsA P fn a st) (leaveA a.defers st1) = .ok v st' := h
        cases hle : leaveA a.defers st1 with
        | no => rw [hle] at h; cases h
        | ok st2 => rw [hle] at h; exact hrun _ (fun σ' w' act' r1 a1 x1 => fin hle h σ' w' act' r1 a1 x1)
      | exit id => cases h
      | goto l => cases h

theorem callF_ok (hrec : CodeOk P rec) {f : FuncId} {args args' : List Value} {v : Value} (h : callF P rec f args st = .ok v st') (hr : Rel σ st w) (ha : VRL σ args args') (n : Nat) (ro : Option Nat) :
    CallsIn (Fr ro) n P f ⟨args'⟩ w (Ends σ st w v st') := by
  unfold callF at h
  cases hp : rec.pur f with
  | none => rw [hp] at h; exact callB_ok hrec h hr ha n ro
  | some p =>
    rw [hp, osel_some] at h
    cases hs : purS p args st with
    | none => rw [hs] at h; exact callB_ok hrec h hr ha n ro
    | some u =>
      rw [hs] at h
      cases h
      exact purS_ok (hrec.orc.pur f p hp) hs hr ha n ro
end
end Go.Proofs.YtolgomkmilbkgaaGreat.Ev

set_option autoImplicit false
set_option linter.unusedVariables false
set_option linter.unusedSimpArgs false
namespace Go.Proofs.YtolgomkmilbkgaaGreat.Ev
open Go
section
variable {P : Program} {rec : Rec} {σ : Nm} {st st' : St} {w : World}

/-! ## Loops over functions -/
theorem Rel.loopAt (hr : Rel σ st w) {nm : Nat} {k : Blk} (hk : σ nm = some k) {s : LoopState} {p : Option Code} {n : Nat} {t : Regs} {ps : Array Tmp} {as bo : Code} {df : Nat} (ho : st.obj nm = .loop s p n t ps as bo df) :
    ∃ lp, w.heap[k.b]? = some (.loop lp) ∧ LR σ s p n t ps as bo df lp ∧
      ∀ s' p', Rel σ (st.setObj nm (.loop s' p' n t ps as bo df)) { w with heap := w.heap.setIfInBounds k.b (.loop { lp with state := s', pending := p' }) } ∧
        Ext σ st w σ (st.setObj nm (.loop s' p' n t ps as bo df)) { w with heap := w.heap.setIfInBounds k.b (.loop { lp with state := s', pending := p' }) } := by
  obtain ⟨ha, lp, g1, g2⟩ := hr.at hk ho (by simp)
  refine ⟨lp, g1, g2, fun s' p' => ?_⟩
  have hb := hr.bound nm k hk
  obtain ⟨h1, h2, h3, h4, h5, h6, h7⟩ := g2
  exact hr.upd ha hk (by simp) (fun b hb => by simp [Array.getElem?_setIfInBounds_ne (Ne.symm hb)]) ⟨{ lp with state := s', pending := p' }, by simp [hb], rfl, rfl, h3, h4, h5, h6, h7⟩ rfl rfl rfl

theorem run_getLoop {l : Nat} {lp : Loop} (h : w.heap[l]? = some (.loop lp)) : (Instr.getLoop l).run P w = .ok lp w := by
  simp [Instr.getLoop, getObj, Sem.run, h]

theorem run_setLoop {l : Nat} {lp : Loop} (h : w.heap[l]? = some (.loop lp)) (o : Obj) : (setObj l o).run P w = .ok () { w with heap := w.heap.setIfInBounds l o } := by
  simp [setObj, Sem.run, h]

theorem TR.set {n : Nat} {t : Regs} {tmps : Array Value} (h : TR σ n t tmps) {d : Nat} {v v' : Value} (hd : d < n) (hv : VR σ v v') : TR σ n ((regAt d).s v t) (tmps.setIfInBounds d v') := by
  obtain ⟨g1, g2, g3⟩ := h
  have hd5 : d < 512 := Nat.lt_of_lt_of_le hd g1
  refine ⟨g1, by simp [g2], fun i hi => ?_⟩
  by_cases e : i = d
  · subst e
    rw [regAt_same hi]
    have : i < tmps.size := by rw [g2]; exact hd
    simpa [this] using hv
  · rw [regAt_other hi hd5 e]
    have := g3 i hi
    simpa [Array.getElem?_setIfInBounds_ne (Ne.symm e)] using this

theorem setAll_ok {n : Nat} : ∀ {ps : List Tmp} {args args' : List Value} {t t2 : Regs} {tmps : Array Value}, setAll n ps args t = some t2 → VRL σ args args' → TR σ n t tmps →
    ps.length = args'.length ∧ TR σ n t2 ((ps.zip args').foldl (fun tmps (q : Tmp × Value) => tmps.setIfInBounds q.1 q.2) tmps)
  | [], [], args', t, t2, tmps, h, ha, ht => by
    have h : some t = some t2 := h
    cases h
    have := ha.nil_inv; subst this
    exact ⟨rfl, ht⟩
  | [], _ :: _, args', t, t2, tmps, h, ha, ht => by cases h
  | _ :: _, [], args', t, t2, tmps, h, ha, ht => by cases h
  | d :: ps, v :: args, args', t, t2, tmps, h, ha, ht => by
    obtain ⟨v', as', rfl, h1, h2⟩ := ha.cons_inv
    have h : bsel (Nat.ble (Nat.succ d) n) (setAll n ps args ((regAt d).s v t)) none = some t2 := h
    obtain ⟨hd, h⟩ := bsel_ne h (by simp)
    have hd : @LT.lt Nat _ d n := ble_iff.1 hd
    obtain ⟨e1, e2⟩ := setAll_ok h h2 (ht.set hd h1)
    exact ⟨by simp [e1], e2⟩

theorem jumpOf_none {x : Xit} (h : jumpOf x = none) : x = .normal := by cases x <;> first | rfl | cases h

theorem end_ok {l : Nat} {k : Blk} (hk : σ l = some k) (hr : Rel σ st w) {s : LoopState} {p : Option Code} {n : Nat} {t : Regs} {ps : Array Tmp} {as bo : Code} {df : Nat} (ho : st.obj l = .loop s p n t ps as bo df) (j : Option Code) :
    ∃ w', (Instr.endRound k.b j).run P w = .ok (.bool j.isNone) w' ∧ Rel σ (st.setObj l (.loop (if j.isNone then .ready else .done) j n t ps as bo df)) w' ∧ Ext σ st w σ (st.setObj l (.loop (if j.isNone then .ready else .done) j n t ps as bo df)) w' := by
  obtain ⟨lp, g1, g2, g3⟩ := hr.loopAt hk ho
  obtain ⟨r1, x1⟩ := g3 (if j.isNone then .ready else .done) j
  refine ⟨_, ?_, r1, x1⟩
  unfold Instr.endRound
  rw [Sem.run_bind, run_getLoop g1, Result.andThen_ok, Sem.run_bind, run_setLoop g1, Result.andThen_ok]
  rfl

theorem yield_ok (hrec : CodeOk P rec) {l : Nat} {k : Blk} (hk : σ l = some k) {args args' : List Value} {v : Value} (h : yieldF rec l args st = .ok v st') (hr : Rel σ st w) (ha : VRL σ args args') (n : Nat) (ro : Option Nat) :
    ∃ f tmps as bo, (Instr.yield k.b ⟨args'⟩).run P w = .ok (.round k.b f tmps as bo) w ∧ RoundIn (Fr ro) n P k.b f tmps as bo w (Ends σ st w v st') := by
  unfold yieldF at h
  split at h
  · rename_i s p m t ps as bo df ho
    obtain ⟨t2, ht2, h⟩ := osel_ne h Re.no_ne
    obtain ⟨lp, g1, ⟨e1, e2, e3, e4, e5, e6, e7⟩, g3⟩ := hr.loopAt hk ho
    obtain ⟨s1, s2⟩ := setAll_ok ht2 ha e3
    refine ⟨lp.fn, (ps.zip ⟨args'⟩).foldl (fun tmps (q : Tmp × Value) => tmps.setIfInBounds q.1 q.2) lp.tmps, as, bo, ?_, roundIn_of_wpIn trivial ?_⟩
    · unfold Instr.yield
      rw [Sem.run_bind, run_getLoop g1, Result.andThen_ok]
      have hsz : ¬ ((⟨args'⟩ : Array Value).size ≠ lp.params.size) := by rw [e4]; simp [← s1]
      rw [if_neg hsz, e4, e5, e6]
      rfl
    · have hfold : (ps.zip ⟨args'⟩).foldl (fun tmps (q : Tmp × Value) => tmps.setIfInBounds q.1 q.2) lp.tmps = (ps.toList.zip args').foldl (fun tmps (q : Tmp × Value) => tmps.setIfInBounds q.1 q.2) lp.tmps := by
        rw [← Array.foldl_toList, Array.toList_zip]
      rw [hfold]
      cases hra : rec as (some l) ⟨m, t2, []⟩ st with
      | no => rw [hra] at h; cases h
      | ok x a1 st1 =>
        rw [hra] at h
        have hA : AR σ ⟨m, t2, []⟩ { tmps := (ps.toList.zip args').foldl (fun tmps (q : Tmp × Value) => tmps.setIfInBounds q.1 q.2) lp.tmps, defers := [] } := ⟨s2, rfl, fun i nm f h => by simp at h⟩
        show as.wpIn (Fr (some k.b)) n P _ _ w
        refine hrec.code as (some l) _ st x a1 st1 hra σ w _ (some k.b) hr hA ⟨k, hk, rfl⟩ n _ fun σ1 w1 act1 r1 a1r x1 => ?_
        cases x with
        | exit id => cases h
        | goto id => cases h
        | ret => cases h
        | normal =>
          have h : (match st1.obj l with
            | .loop .ready pend n t ps as bo' df => yieldEnd l (rec bo (some l) a1 (st1.setObj l (.loop .busy pend n t ps as bo' df)))
            | _ => .no) = Re.ok v st' := h
          split at h
          · rename_i pend n2 t3 ps2 as2 bo2 df2 ho1
            have hk1 := x1.sub l k hk
            obtain ⟨lp1, q1, ⟨f1, f2, _⟩, q3⟩ := r1.loopAt hk1 ho1
            obtain ⟨r2, x2⟩ := q3 .busy pend
            cases hrb : rec bo (some l) a1 (st1.setObj l (.loop .busy pend n2 t3 ps2 as2 bo2 df2)) with
            | no => rw [hrb] at h; cases h
            | ok x3 a3 st3 =>
              rw [hrb] at h
              refine ⟨{ w1 with heap := w1.heap.setIfInBounds k.b (.loop { lp1 with state := .busy, pending := pend }) }, ?_, ?_⟩
              · unfold Instr.beginRound
                rw [Sem.run_bind, run_getLoop q1, Result.andThen_ok, Sem.run_bind, run_setLoop q1, Result.andThen_ok, f1]
                have : ({ lp1 with state := .busy } : Loop) = { lp1 with state := .busy, pending := pend } := by rw [← f2]
                rw [this]; rfl
              · show bo.wpIn (Fr (some k.b)) n P _ _ _
                refine hrec.code bo (some l) a1 _ x3 a3 st3 hrb σ1 _ act1 (some k.b) r2 a1r ⟨k, hk1, rfl⟩ n _ fun σ3 w3 act3 r3 a3r x3e => ?_
                have hk3 := x3e.sub l k hk1
                have h : (match st3.obj l with
                  | .loop _ _ n t ps as bo df => osel (jumpOf x3) (.ok (.bool true) (st3.setObj l (.loop .ready none n t ps as bo df))) fun j => .ok (.bool false) (st3.setObj l (.loop .done (some j) n t ps as bo df))
                  | _ => .no) = Re.ok v st' := h
                split at h
                · rename_i s4 p4 n4 t4 ps4 as4 bo4 df4 ho4
                  have hE := fun j => end_ok (P := P) hk3 r3 ho4 j
                  have fin : ∀ j, Re.ok (.bool j.isNone) (st3.setObj l (.loop (if j.isNone then .ready else .done) j n4 t4 ps4 as4 bo4 df4)) = Re.ok v st' → ∃ u w', (Instr.endRound k.b j).run P w3 = .ok u w' ∧ Ends σ st w v st' (.returned u) w' := by
                    intro j hj
                    obtain ⟨rfl, rfl⟩ := Re.ok_inj hj
                    obtain ⟨w', z1, z2, z3⟩ := hE j
                    exact ⟨_, w', z1, σ3, _, rfl, .bool _, z2, ((x1.trans x2).trans x3e).trans z3⟩
                  cases x3 with
                  | normal => exact fin none h
                  | ret => exact fin (some .ret) h
                  | exit id => exact fin (some (.exit id)) h
                  | goto id => exact fin (some (.goto id)) h
                · cases h
          · cases h
  · cases h

/-! ## Steps -/
theorem invoke_func {k : FuncId} {fn : Func} {c : Code} (hf : P.funcs[k]? = some fn) (hb : fn.body = some c) (hn : (fn.name == "runtime.NumGoroutine") = false) (as xs bs : Array Value) (w : World) :
    ((do let d ← Deferred.ofValue (.func (.func k) as bs) xs; invoke d.target d.args) : Sem Next).run P w = .ok (.enter k (as ++ xs ++ bs)) w := by
  simp [Deferred.ofValue, invoke, callFunc, hf, hb, beq_eq_false_iff_ne.1 hn]

theorem invoke_yield {l : Nat} (xs : Array Value) (w : World) :
    ((do let d ← Deferred.ofValue (.func (.yield l) #[] #[]) xs; invoke d.target d.args) : Sem Next).run P w = (Instr.yield l xs).run P w := by
  simp [Deferred.ofValue, invoke]

theorem callV_ok (hrec : CodeOk P rec) {fv fv' : Value} {args args' : List Value} {v : Value} (h : callV P rec fv args st = .ok v st') (hr : Rel σ st w) (hf : VR σ fv fv') (ha : VRL σ args args')
    (n : Nat) (ro : Option Nat) {o : Oper} {act : Act} {next : Act → World → Prop} {Q : Exit → Act → World → Prop} (hnext : ∀ σ' w' v', VR σ' v v' → Rel σ' st' w' → Ext σ st w σ' st' w' → next (act.put o.dst v') w') :
    o.uponIn (Fr ro) n P act next Q (((do let d ← Deferred.ofValue fv' ⟨args'⟩; invoke d.target d.args) : Sem Next).run P w) := by
  unfold callV at h
  split at h
  · rename_i k first cap
    generalize hv : Value.func (.func k) first cap = u at hf
    cases hf with
    | func f as as' bs bs' h1 h2 h3 h4 =>
      cases hv
      obtain ⟨c, m, fn, hfe, h⟩ : ∃ c m fn, feOf P k = .mk c m fn ∧ callF P rec k (as ++ args ++ bs) st = .ok v st' := by
        cases hfe : feOf P k with
        | no => rw [hfe] at h; cases h
        | mk c m fn => rw [hfe] at h; exact ⟨c, m, fn, rfl, h⟩
      obtain ⟨hfn, hb, hname, _⟩ := feOf_ok hfe
      rw [invoke_func hfn hb hname]
      rw [Oper.uponIn_enter]
      refine ⟨(fun h => nomatch h), ?_⟩
      have hl : VRL σ (as ++ args ++ bs) (as' ++ args' ++ bs') := (VRL.append ⟨h1, h2⟩ ha).append ⟨h3, h4⟩
      have := callF_ok hrec h hr hl (n - 1) ro
      have e : (⟨as'⟩ ++ ⟨args'⟩ ++ ⟨bs'⟩ : Array Value) = ⟨as' ++ args' ++ bs'⟩ := by simp
      rw [e]
      refine CallsIn.mono this fun e w' he => ?_
      obtain ⟨σ', v', rfl, g1, g2, g3⟩ := he
      exact hnext σ' w' v' g1 g2 g3
    | _ => cases hv
  · rename_i l first cap
    generalize hv : Value.func (.yield l) first cap = u at hf
    cases hf with
    | yield l' k hk =>
      cases hv
      rw [invoke_yield]
      have h : yieldF rec l args st = .ok v st' := by simpa using h
      obtain ⟨f, tmps, as, bo, g1, g2⟩ := yield_ok hrec hk h hr ha (n - 1) ro
      rw [g1, Oper.uponIn_round]
      refine ⟨(fun h => nomatch h), RoundIn.mono g2 fun e w' he => ?_⟩
      obtain ⟨σ', v', rfl, g1, g2, g3⟩ := he
      exact hnext σ' w' v' g1 g2 g3
    | _ => cases hv
  · cases h
end
end Go.Proofs.YtolgomkmilbkgaaGreat.Ev

set_option autoImplicit false
set_option linter.unusedVariables false
set_option linter.unusedSimpArgs false
namespace Go.Proofs.YtolgomkmilbkgaaGreat.Ev
open Go
section
variable {P : Program} {rec : Rec} {σ : Nm} {st st' : St} {w : World}

theorem isBool_iff {v : Value} {b : Bool} : isBool v b = true ↔ v = .bool b := by
  unfold isBool
  split
  · rename_i c
    simp
  · rename_i h
    constructor
    · intro h'; cases h'
    · intro e; exact absurd e (h b)

theorem isBool_eq {v v' : Value} (h : VR σ v v') (b : Bool) : isBool v b = isBool v' b := by cases h <;> rfl

/-- The operations of a region are of the form that is looked at. -/
structure OpsOk (ops : Array Oper) : Prop where
  opd : ∀ o, o ∈ ops.toList → ∀ x, x ∈ o.op.operands.toList → okOpd x = true
  dst : ∀ o, o ∈ ops.toList → okDst o.dst = true

theorem opsOk_ok {ops : Array Oper} (h : opsOk ops.toList = true) : OpsOk ops := by
  unfold opsOk at h
  rw [List.all_eq_true] at h
  refine ⟨fun o ho x hx => ?_, fun o ho => ?_⟩
  · have := h o ho
    rw [Bool.and_eq_true, List.all_eq_true] at this
    exact this.1 x hx
  · have := h o ho
    rw [Bool.and_eq_true] at this
    exact this.2

theorem wanted_ok {ops : Array Oper} (hok : OpsOk ops) (o : Oper) {a : Ac} {act : Act} (hA : AR σ a act) : Region.wanted o (yielded ops act.tmps) = wantedA ops o a := by
  unfold Region.wanted wantedA gdOf
  cases hg : o.guard with
  | none => rfl
  | some q =>
    obtain ⟨j, want⟩ := q
    simp only []
    cases hj : ops[j]? with
    | none => simp [yielded, hj]
    | some g =>
      simp only []
      cases hd : g.dst with
      | none => simp [yielded, hj, hd]
      | some d =>
        have hd5 : @LT.lt Nat _ d 512 := by
          have := hok.dst g (by
            rw [← Array.getElem?_toList] at hj
            exact List.mem_of_getElem? hj)
          rw [hd] at this
          exact ble_iff.1 this
        have hv := hA.1.2.2 d hd5
        show (yielded ops act.tmps j == some want) = isBool (a.get d) want
        rw [Ac.get_eq, isBool_eq hv want]
        unfold yielded
        simp only [hj, Option.bind_some, hd]
        cases ht : act.tmps[d]? with
        | none => simp [Array.getD_eq_getD_getElem?, ht, isBool, undef]
        | some u =>
          simp only [Array.getD_eq_getD_getElem?, ht, Option.getD_some]
          cases u <;> simp [isBool]

theorem Does.upon {o : Oper} {act : Act} {v : Value} (h : Does P (execOp act.eval o) σ st w v st') (n : Nat) (ro : Option Nat) {next : Act → World → Prop} {Q : Exit → Act → World → Prop}
    (hnext : ∀ σ' w' v', VR σ' v v' → Rel σ' st' w' → Ext σ st w σ' st' w' → next (act.put o.dst v') w') : o.uponIn (Fr ro) n P act next Q ((execOp act.eval o).run P w) := by
  obtain ⟨σ', w', v', h1, h2, h3, h4⟩ := h
  rcases h1 with h1 | ⟨h1, rfl⟩
  · rw [h1]; exact hnext σ' w' v' h2 h3 h4
  · rw [h1]; exact hnext σ' w' undef h2 h3 h4

theorem mapE_eq (a : Ac) (xs : List Operand) : mapE a xs = xs.map (evalA a) := by
  induction xs with
  | nil => rfl
  | cons x xs ih => show evalA a x :: mapE a xs = _; rw [ih]; rfl

theorem step_ok (hrec : CodeOk P rec) {o : Oper} {a : Ac} {act : Act} (hops : ∀ x, x ∈ o.op.operands.toList → VR σ (evalA a x) (act.eval x)) {v : Value} (h : stepS P rec (stpOf P o.op) a st = .ok v st') (hr : Rel σ st w)
    (n : Nat) (ro : Option Nat) {next : Act → World → Prop} {Q : Exit → Act → World → Prop} (hnext : ∀ σ' w' v', VR σ' v v' → Rel σ' st' w' → Ext σ st w σ' st' w' → next (act.put o.dst v') w') :
    o.wpIn (Fr ro) n P act w next Q := by
  refine ⟨fun _ _ => trivial, ?_⟩
  have hnd : ∀ c, o.op ≠ .defer c := by
    intro c e
    rw [e] at h
    cases h
  show o.uponIn (Fr ro) n P act next Q ((o.semAt ro act.eval).run P w)
  rw [Oper.semAt_eq ro _ o hnd]
  have plain : ∀ f, stpOf P o.op = .op (compOp P o.op) → compOp P o.op = .mk f → f a st = .ok v st' → o.uponIn (Fr ro) n P act next Q ((execOp act.eval o).run P w) :=
    fun f _ hc hf => (comp_ok hc hops hr hf).upon n ro hnext
  have other : stpOf P o.op = .op (compOp P o.op) → o.uponIn (Fr ro) n P act next Q ((execOp act.eval o).run P w) := by
    intro e
    rw [e] at h
    cases hc : compOp P o.op with
    | no => rw [hc] at h; cases h
    | mk f => rw [hc] at h; exact plain f e hc h
  by_cases hcall : ∃ f args ats, o.op = .call { callee := .value f, args := args, argTypes := ats }
  · obtain ⟨f, args, ats, e⟩ := hcall
    rw [e] at h
    have h : callV P rec (evalA a f) (mapE a args.toList) st = .ok v st' := h
    rw [mapE_eq] at h
    have hf := (hops f (by rw [e]; simp [Op.operands, Call.operands]))
    have hl := evalL_of (xs := args.toList) (fun x hx => hops x (by rw [e]; simp only [Op.operands, Call.operands, Array.toList_append, List.mem_append]; exact .inr hx))
    have := callV_ok hrec h hr hf hl n ro (o := o) (act := act) (next := next) (Q := Q) hnext
    have e2 : args.map act.eval = ⟨args.toList.map act.eval⟩ := by apply Array.ext'; simp
    have e3 : execOp act.eval o = (do let d ← Deferred.ofValue (act.eval f) ⟨args.toList.map act.eval⟩; invoke d.target d.args) := by
      unfold execOp
      rw [e]
      simp only [resolve, e2]
    rw [e3]; exact this
  · refine other ?_
    cases hop : o.op with
    | call c =>
      obtain ⟨callee, args, ats⟩ := c
      cases callee with
      | value f => exact absurd ⟨f, args, ats, hop⟩ hcall
      | invoke x m => rfl
      | builtin b => rfl
    | _ => rfl

theorem seq_ok (hrec : CodeOk P rec) {ops : Array Oper} (hok : OpsOk ops) (n : Nat) (ro : Option Nat) (Q : Exit → Act → World → Prop) : ∀ (l : List Oper) (a : Ac) (st : St) (a' : Ac) (st' : St), (∀ o, o ∈ l → o ∈ ops.toList) → seqOps P rec ops l a st = .ok a' st' →
    ∀ (σ : Nm) (w : World) (act : Act), Rel σ st w → AR σ a act → (∀ σ' w' act', Rel σ' st' w' → AR σ' a' act' → Ext σ st w σ' st' w' → Q .normal act' w') → wpListIn (Fr ro) n P ops Q l act w
  | [], a, st, a', st', _, h, σ, w, act, hr, hA, hQ => by
    cases h
    exact hQ σ w act hr hA (.refl σ st w)
  | o :: l, a, st, a', st', hm, h, σ, w, act, hr, hA, hQ => by
    have h : Ra.rec (motive := fun _ => Ra) .no (fun a st => seqOps P rec ops l a st) (seqOne P rec ops o a st) = .ok a' st' := h
    cases h1 : seqOne P rec ops o a st with
    | no => rw [h1] at h; cases h
    | ok a1 st1 =>
      rw [h1] at h
      have h : seqOps P rec ops l a1 st1 = .ok a' st' := h
      have ho := hm o (by simp)
      have rest : ∀ σ1 w1 act1, Rel σ1 st1 w1 → AR σ1 a1 act1 → Ext σ st w σ1 st1 w1 → wpListIn (Fr ro) n P ops Q l act1 w1 :=
        fun σ1 w1 act1 r1 a1r x1 => seq_ok hrec hok n ro Q l a1 st1 a' st' (fun o ho => hm o (by simp [ho])) h σ1 w1 act1 r1 a1r (fun σ' w' act' r2 a2 x2 => hQ σ' w' act' r2 a2 (x1.trans x2))
      unfold wpListIn
      rw [wanted_ok hok o hA]
      unfold seqOne at h1
      rw [bsel_eq] at h1
      by_cases hw : wantedA ops o a = true
      · rw [if_pos hw] at h1 ⊢
        cases hs : stepS P rec (stpOf P o.op) a st with
        | no => rw [hs] at h1; cases h1
        | ok v st2 =>
          rw [hs] at h1
          have h1 : a.put o.dst v st2 = .ok a1 st1 := h1
          obtain ⟨rfl, _⟩ := Ac.put_ok h1
          exact step_ok hrec (fun x hx => hA.eval (hok.opd o ho x hx)) hs hr n ro fun σ' w' v' g1 g2 g3 => rest σ' w' _ g2 ((hA.mono g3.sub).put h1 g1) g3
      · rw [if_neg hw] at h1 ⊢
        obtain ⟨rfl, _⟩ := Ac.put_ok h1
        exact ⟨fun _ _ => trivial, rest σ w _ hr (hA.put h1 (.junk σ)) (.refl σ _ w)⟩
end
end Go.Proofs.YtolgomkmilbkgaaGreat.Ev

set_option autoImplicit false
set_option linter.unusedVariables false
set_option linter.unusedSimpArgs false
namespace Go.Proofs.YtolgomkmilbkgaaGreat.Ev
open Go
section
variable {P : Program} {O : Orc} {rec : Rec} {σ : Nm} {st st' : St} {w : World}

/-! ## Scopes -/
def exNoGoto (Q : Exit → Act → World → Prop) : Exit → Act → World → Prop
  | .goto _, _, _ => False
  | e, a, w => Q e a w

theorem stepR_scopeE {b : Frame} {a : Act} {k : List Item} {cs : List Frame} {c : Code} : step P (lone (b.atR a (.code (.scope c) :: k)) cs w) = .next (lone (b.atR a (.code c :: .inScope c :: k)) cs w) :=
  step_lone_go (by simp [stepG, stepG.exec, Frame.atR])
theorem stepR_inScopeE {b : Frame} {a : Act} {k : List Item} {cs : List Frame} {c : Code} : step P (lone (b.atR a (.inScope c :: k)) cs w) = .next (lone (b.atR a k) cs w) :=
  step_lone_go (by simp [stepG, stepG.exec, Frame.atR])

theorem wpIn_scopeE {F : Fence} {n : Nat} {Q : Exit → Act → World → Prop} {a : Act} {c : Code} (h : c.wpIn F n P (exNoGoto Q) a w) : (Code.scope c).wpIn F n P Q a w := by
  intro b k cs hro hb hr
  have h0 : (lone (b.atR a (.code (.scope c) :: k)) cs w).fenced P F := fenced_calm hb hr rfl
  obtain ⟨e, a₁, w₁, hq, harr⟩ := h b (.inScope c :: k) cs hro hb hr
  cases e with
  | normal => exact ⟨.normal, a₁, w₁, hq, .head h0 stepR_scopeE (StepsIn.trans harr (.one (fenced_calm hb hr rfl) stepR_inScopeE))⟩
  | exit id =>
    have hx : exitTo id (.inScope c :: k) = exitTo id k := by simp [exitTo]
    exact ⟨.exit id, a₁, w₁, hq, fun k' hk => .head h0 stepR_scopeE (harr.1 k' (by rw [hx]; exact hk)),
      fun hr' hk => let ⟨k₁, h1, h2⟩ := harr.2 hr' (by rw [hx]; exact hk); ⟨k₁, h1, .head h0 stepR_scopeE h2⟩⟩
  | goto l => exact hq.elim
  | ret => exact ⟨_, a₁, w₁, hq, .of_steps (.one h0 stepR_scopeE) harr⟩
  | panic ch => exact ⟨_, a₁, w₁, hq, .of_steps (.one h0 stepR_scopeE) harr⟩
  | outgrown => exact ⟨_, a₁, w₁, hq, .of_steps (.one h0 stepR_scopeE) harr⟩

/-- What a region says. -/
def RegOk (P : Program) (rec : Rec) : Prop := ∀ (id : Nat) (ops : Array Oper) (draw : Bool) (ro : Option Nat) (a : Ac) (st : St) (x : Xit) (a' : Ac) (st' : St), evRegion P rec ops draw a st = .ok x a' st' →
  ∀ (σ : Nm) (w : World) (act : Act) (ro' : Option Nat), Rel σ st w → AR σ a act → RO σ ro ro' → ∀ (n : Nat) (Q : Exit → Act → World → Prop),
    (∀ σ' w' act', Rel σ' st' w' → AR σ' a' act' → Ext σ st w σ' st' w' → Q (exitOf x) act' w') → (Code.region id ops draw).wpIn (Fr ro') n P Q act w

theorem thenN_ok {r : Rc} {f : Ac → St → Rc} {x : Xit} {a' : Ac} {st' : St} (h : thenN r f = .ok x a' st') :
    (∃ a1 st1, r = .ok .normal a1 st1 ∧ f a1 st1 = .ok x a' st') ∨ (x ≠ .normal ∧ r = .ok x a' st') := by
  cases r with
  | no => cases h
  | ok y a1 st1 =>
    cases y with
    | normal => exact .inl ⟨a1, st1, rfl, h⟩
    | exit id => cases h; exact .inr ⟨by simp, rfl⟩
    | goto l => cases h; exact .inr ⟨by simp, rfl⟩
    | ret => cases h; exact .inr ⟨by simp, rfl⟩

theorem then_other {K : Act → World → Prop} {Q : Exit → Act → World → Prop} {x : Xit} (hx : x ≠ .normal) {a : Act} (h : Q (exitOf x) a w) : Exit.then K Q (exitOf x) a w := by
  cases x <;> first | exact absurd rfl hx | exact h

theorem least_of {p : Nat → Prop} : ∀ (b j : Nat), j ≤ b → p j → ∃ m, p m ∧ ∀ i, p i → m ≤ i
  | b, j, hb, hj => by
    classical
    by_cases h : ∃ i, i < j ∧ p i
    · obtain ⟨i, hi, hp⟩ := h
      cases b with
      | zero => omega
      | succ b => exact least_of b i (by omega) hp
    · exact ⟨j, hj, fun i hi => by
        rcases Nat.lt_or_ge i j with h' | h'
        · exact absurd ⟨i, h', hi⟩ h
        · exact h'⟩

/-- One turn, and the rest of the loop. -/
theorem loop_ok {c : Code} {ro : Option Nat} {x : Xit} {a' : Ac} {st' : St} (hall : ∀ j, CodeOk P (evCode P O j) ∨ True) {K : Nat} (hK : ∀ j, j < K → CodeOk P (evCode P O j)) {a : Ac} (h : evCode P O K (.loop c) ro a st = .ok x a' st')
    (hr : Rel σ st w) {act : Act} (hA : AR σ a act) {ro' : Option Nat} (hro : RO σ ro ro') (n : Nat) (Q : Exit → Act → World → Prop)
    (hQ : ∀ σ' w' act', Rel σ' st' w' → AR σ' a' act' → Ext σ st w σ' st' w' → Q (exitOf x) act' w') : (Code.loop c).wpIn (Fr ro') n P Q act w := by
  let J : Nat → Act → World → Prop := fun j act1 w1 => j ≤ K ∧ ∃ σ1 a1 st1, evCode P O j (.loop c) ro a1 st1 = .ok x a' st' ∧ Rel σ1 st1 w1 ∧ AR σ1 a1 act1 ∧ Ext σ st w σ1 st1 w1
  have hdec : ∀ act1 w1, (∃ j, J j act1 w1) → ∃ j, J j act1 w1 ∧ ∀ i, J i act1 w1 → j ≤ i := by
    intro act1 w1 ⟨j, hj⟩
    exact least_of j j (Nat.le_refl j) hj
  classical
  let μ : Act → World → Nat := fun act1 w1 => if h : ∃ j, J j act1 w1 then Classical.choose (hdec act1 w1 h) else 0
  have hμ : ∀ act1 w1 j, J j act1 w1 → J (μ act1 w1) act1 w1 ∧ μ act1 w1 ≤ j := by
    intro act1 w1 j hj
    have hex : ∃ j, J j act1 w1 := ⟨j, hj⟩
    have := Classical.choose_spec (hdec act1 w1 hex)
    show J (if h : ∃ j, J j act1 w1 then _ else 0) act1 w1 ∧ (if h : ∃ j, J j act1 w1 then _ else 0) ≤ j
    rw [dif_pos hex]
    exact ⟨this.1, this.2 j hj⟩
  refine wpIn_loop (fun act1 w1 => ∃ j, J j act1 w1) μ ⟨K, Nat.le_refl K, σ, a, st, h, hr, hA, .refl σ st w⟩ fun act1 w1 ⟨j, hj⟩ => ?_
  obtain ⟨⟨hle, σ1, a1, st1, hrun, r1, a1r, x1⟩, _⟩ := hμ act1 w1 j hj
  generalize hm : μ act1 w1 = m at hrun hle
  cases m with
  | zero => cases hrun
  | succ m =>
    have hrun : thenN (evCode P O m c ro a1 st1) (fun a st => evCode P O m (.loop c) ro a st) = .ok x a' st' := hrun
    rcases thenN_ok hrun with ⟨a2, st2, e1, e2⟩ | ⟨hx, e1⟩
    · refine (hK m (by omega)).code c ro a1 st1 .normal a2 st2 e1 σ1 w1 act1 ro' r1 a1r (hro.mono x1.sub) n _ fun σ2 w2 act2 r2 a2r x2 => ?_
      have hJ : J m act2 w2 := ⟨by omega, σ2, a2, st2, e2, r2, a2r, x1.trans x2⟩
      exact ⟨⟨m, hJ⟩, by have := (hμ act2 w2 m hJ).2; omega⟩
    · exact (hK m (by omega)).code c ro a1 st1 x a' st' e1 σ1 w1 act1 ro' r1 a1r (hro.mono x1.sub) n _ fun σ2 w2 act2 r2 a2r x2 => then_other hx (hQ σ2 w2 act2 r2 a2r (x1.trans x2))

theorem funcK_ok {β : Type} {v : Value} {no : β} {f : FuncId → Array Value → Array Value → β} {r : β} (h : funcK v no f = r) (hne : no ≠ r) : ∃ k as bs, v = .func (.func k) as bs ∧ f k as bs = r := by
  unfold funcK at h
  split at h
  · exact ⟨_, _, _, rfl, h⟩
  · exact absurd h hne

theorem Rc.no_ne {x : Xit} {a : Ac} {st : St} : (Rc.no : Rc) ≠ .ok x a st := by intro h; cases h

theorem ble_false {a b : Nat} (h : Nat.ble a b = false) : b < a := by
  rcases Nat.lt_or_ge b a with h' | h'
  · exact h'
  · rw [ble_iff.2 h'] at h; cases h

/-- The statement behind its record's block. -/
theorem range2_ok (hrec : CodeOk P rec) {g : Operand} (hg : okOpd g = true) {ps : Array Tmp} {as bo : Code} {ro ro' : Option Nat} {a : Ac} {act : Act} {df : Nat} {mark : List Nat} {ms : List Deferred} {x : Xit} {a' : Ac}
    (h : evRange2 P rec g ps as bo ro a df mark st = .ok x a' st') (hr : Rel σ st w) (hA : AR σ a act) (hro : RO σ ro ro') {kd : Blk} (hdf : σ df = some kd) (hm : DR σ mark ms) (n : Nat) (Q : Exit → Act → World → Prop)
    (hQ : ∀ σ' w' act', Rel σ' st' w' → AR σ' a' act' → Ext σ st w σ' st' w' → Q (exitOf x) act' w') (fn : FuncId) :
    ∃ (d : Deferred) (f : FuncId) (args : Array Value),
      let lp : Loop := { state := .ready, pending := none, fn, tmps := act.tmps, params := ps, assign := as, body := bo, defers := kd.b }
      let w₁ : World := { w with heap := w.heap.push (.loop lp) }
      (resolve act.eval (rangeCall g w.heap.size) 0).run P w₁ = .ok d w₁ ∧ (invoke d.target d.args).run P w₁ = .ok (.enter f args) w₁ ∧
      CallsIn (Fr ro') (n - 1) P f args w₁ (rangePost (Fr ro') n P w.heap.size Q { act with defers := ms ++ act.defers }) := by
  obtain ⟨m, t, ds⟩ := a
  obtain ⟨hp, nx⟩ := st
  have h : (funcK (evalA ⟨m, t, ds⟩ g) .no fun k first cap =>
    Fe.rec (motive := fun _ => Rc) .no (fun _ _ _ => endRange rec nx ro ⟨m, t, mark ++ ds⟩ (callF P rec k (first.toList ++ [.func (.yield nx) #[] #[]] ++ cap.toList) (pushAt nx hp (.loop .ready none m t ps as bo df)))) (feOf P k)) = .ok x a' st' := h
  · obtain ⟨k, first, cap, hfv, h⟩ := funcK_ok h Rc.no_ne
    obtain ⟨c0, mm0, fn0, hfe0, h⟩ : ∃ c m' fn', feOf P k = .mk c m' fn' ∧ endRange rec nx ro ⟨m, t, mark ++ ds⟩ (callF P rec k (first.toList ++ [.func (.yield nx) #[] #[]] ++ cap.toList) (pushAt nx hp (.loop .ready none m t ps as bo df))) = .ok x a' st' := by
      cases hfe : feOf P k with
      | no => rw [hfe] at h; cases h
      | mk c m' fn' => rw [hfe] at h; exact ⟨c, m', fn', rfl, h⟩
    have hf := hA.eval hg
    rw [hfv] at hf
    rw [pushAt_eq] at h
    obtain ⟨σ1, s1, r1, x1⟩ := hr.new (o := .loop .ready none m t ps as bo df) (ob := .loop { state := .ready, pending := none, fn, tmps := act.tmps, params := ps, assign := as, body := bo, defers := kd.b }) (k := ⟨w.heap.size, 0, 0, 0, false⟩) rfl
      (fun τ w' hs ht hw => ⟨_, hw, rfl, rfl, hA.1.mono hs, rfl, rfl, rfl, kd, hs _ _ hdf, rfl⟩)
    generalize hv : Value.func (.func k) first cap = u at hf
    generalize heq : act.eval g = fv' at hf
    cases hf with
    | func f' as1 as1' bs1 bs1' h1 h2 h3 h4 =>
      cases hv
      cases hc : callF P rec k (as1 ++ [.func (.yield nx) #[] #[]] ++ bs1) ⟨putAt nx hp (.loop .ready none m t ps as bo df), nx + 1⟩ with
      | no =>
        have h : endRange rec nx ro ⟨m, t, mark ++ ds⟩ (callF P rec k (as1 ++ [.func (.yield nx) #[] #[]] ++ bs1) ⟨putAt nx hp (.loop .ready none m t ps as bo df), nx + 1⟩) = .ok x a' st' := h
        rw [hc] at h; cases h
      | ok v st2 =>
        have h : endRange rec nx ro ⟨m, t, mark ++ ds⟩ (callF P rec k (as1 ++ [.func (.yield nx) #[] #[]] ++ bs1) ⟨putAt nx hp (.loop .ready none m t ps as bo df), nx + 1⟩) = .ok x a' st' := h
        rw [hc] at h
        obtain ⟨hfn, hb2, hname, _⟩ := feOf_ok hfe0
        have hal : VRL σ1 (as1 ++ [.func (.yield nx) #[] #[]] ++ bs1) (as1' ++ [.func (.yield w.heap.size) #[] #[]] ++ bs1') :=
          ((VRL.mono x1.sub ⟨h1, h2⟩).append (.one (.yield nx _ s1))).append (VRL.mono x1.sub ⟨h3, h4⟩)
        have hcall := callF_ok hrec hc r1 hal (n - 1) ro'
        have hres : ∀ W, (resolve act.eval (rangeCall g w.heap.size) 0).run P W = .ok { target := .fn (.func k) ⟨bs1'⟩, args := ⟨as1'⟩ ++ #[.func (.yield w.heap.size) #[] #[]] } W := by
          intro W
          simp [resolve, rangeCall, heq, Deferred.ofValue]
          rfl
        refine ⟨_, k, ⟨as1' ++ [.func (.yield w.heap.size) #[] #[]] ++ bs1'⟩, hres _, ?_, ?_⟩
        · simp [invoke, callFunc, hfn, hb2, beq_eq_false_iff_ne.1 hname]
        · refine CallsIn.mono hcall fun e w3 he => ?_
          obtain ⟨σ3, v3, rfl, g1, g2, g3⟩ := he
          have hk3 := g3.sub _ _ s1
          have hx := x1.trans g3
          have hA3 : AR σ3 ⟨m, t, mark ++ ds⟩ { act with defers := ms ++ act.defers } := by
            refine ⟨(hA.1).mono hx.sub, ?_, fun i nm f e1 e2 => ?_⟩
            · have e1 := hm.1
              have e2 := hA.2.1
              show (mark ++ ds).length = (ms ++ act.defers).length
              rw [List.length_append, List.length_append, e1]; exact congrArg _ e2
            · by_cases hi : i < mark.length
              · rw [List.getElem?_append_left hi] at e1
                rw [List.getElem?_append_left (by rw [← hm.1]; exact hi)] at e2
                obtain ⟨kk, q1, q2⟩ := hm.2 i nm f e1 e2
                exact ⟨kk, hx.sub _ _ q1, q2⟩
              · rw [List.getElem?_append_right (by omega)] at e1
                rw [List.getElem?_append_right (by rw [← hm.1]; omega), ← hm.1] at e2
                obtain ⟨kk, q1, q2⟩ := hA.2.2 _ nm f e1 e2
                exact ⟨kk, hx.sub _ _ q1, q2⟩
          have h : (match st2.obj nx with
            | .loop s pend n9 t9 ps as bo df =>
              match s with
              | .busy => .no
              | _ => osel pend (.ok .normal ⟨m, t, mark ++ ds⟩ (st2.setObj nx (.loop .exhausted none n9 t9 ps as bo df))) fun j => rec j ro ⟨m, t, mark ++ ds⟩ (st2.setObj nx (.loop .exhausted pend n9 t9 ps as bo df))
            | _ => .no) = Rc.ok x a' st' := h
          split at h
          · rename_i s p n2 t2 ps2 as2 bo2 df2 ho
            obtain ⟨lp, q1, ⟨q2, q3, _⟩, q4⟩ := g2.loopAt hk3 ho
            have q1 : w3.heap[w.heap.size]? = some (.loop lp) := q1
            obtain ⟨r4, x4⟩ := q4 .exhausted p
            have hend : s ≠ .busy → (Instr.endLoop w.heap.size).run P w3 = .ok p { w3 with heap := w3.heap.setIfInBounds w.heap.size (.loop { lp with state := .exhausted, pending := p }) } := by
              intro hs
              have hs2 : (lp.state == LoopState.busy) = false := by
                rw [q2]; cases s <;> first | rfl | exact absurd rfl hs
              unfold Instr.endLoop
              have e5 : ({ lp with state := .exhausted } : Loop) = { lp with state := .exhausted, pending := p } := by rw [← q3]
              rw [Sem.run_bind, run_getLoop q1, Result.andThen_ok, if_neg (by rw [hs2]; simp)]
              rw [Sem.run_bind, run_setLoop q1, Result.andThen_ok, e5, q3]
              rfl
            have fin : s ≠ .busy → (osel p (.ok .normal ⟨m, t, mark ++ ds⟩ (st2.setObj nx (.loop .exhausted none n2 t2 ps2 as2 bo2 df2))) fun j => rec j ro ⟨m, t, mark ++ ds⟩ (st2.setObj nx (.loop .exhausted p n2 t2 ps2 as2 bo2 df2))) = Rc.ok x a' st' →
                rangePost (Fr ro') n P w.heap.size Q { act with defers := ms ++ act.defers } (.returned v3) w3 := by
              intro hs h
              refine ⟨p, _, hend hs, ?_⟩
              cases p with
              | none => cases h; exact hQ σ3 _ _ r4 hA3 (hx.trans x4)
              | some j => exact hrec.code j ro _ _ x a' st' h σ3 _ _ ro' r4 hA3 (hro.mono hx.sub) n Q fun σ5 w5 act5 r5 a5 x5 => hQ σ5 w5 act5 r5 a5 ((hx.trans x4).trans x5)
            cases s with
            | busy => cases h
            | ready => exact fin (by simp) h
            | done => exact fin (by simp) h
            | exhausted => exact fin (by simp) h
          · cases h
    | _ => cases hv
end
end Go.Proofs.YtolgomkmilbkgaaGreat.Ev

set_option autoImplicit false
set_option linter.unusedVariables false
set_option linter.unusedSimpArgs false
namespace Go.Proofs.YtolgomkmilbkgaaGreat.Ev
open Go
section
variable {P : Program} {O : Orc} {rec : Rec} {σ : Nm} {st st' : St} {w : World}

theorem range_ok (hrec : CodeOk P rec) {g : Operand} {ps : Array Tmp} {as bo : Code} {ro ro' : Option Nat} {a : Ac} {act : Act} {x : Xit} {a' : Ac}
    (h : evRange P rec g ps as bo ro a st = .ok x a' st') (hr : Rel σ st w) (hA : AR σ a act) (hro : RO σ ro ro') (n : Nat) (Q : Exit → Act → World → Prop)
    (hQ : ∀ σ' w' act', Rel σ' st' w' → AR σ' a' act' → Ext σ st w σ' st' w' → Q (exitOf x) act' w') : (Code.rangeFunc g ps as bo).wpIn (Fr ro') n P Q act w := by
  unfold evRange at h
  obtain ⟨hg, h⟩ := bsel_ne h Rc.no_ne
  refine wpIn_rangeFunc fun fn _ => ?_
  cases ro with
  | none =>
    cases ro' with
    | some b => exact hro.elim
    | none =>
      obtain ⟨hp, r⟩ := st
      · have h : evRange2 P rec g ps as bo none a r [r] (pushAt r hp .deferred) = Rc.ok x a' st' := h
        rw [pushAt_eq] at h
        obtain ⟨σ1, s1, r1, x1⟩ := hr.new (o := .deferred) (ob := .deferred (some [])) (k := ⟨w.heap.size, 0, 0, 0, false⟩) rfl (fun τ w' hs ht hw => hw)
        have hm : DR σ1 [r] [{ target := .collected w.heap.size, args := #[] }] := ⟨rfl, fun i nm f h1 h2 => by
          cases i with
          | zero => cases h1; cases h2; exact ⟨_, s1, rfl⟩
          | succ i => simp at h1⟩
        obtain ⟨d, f, args, e1, e2, e3⟩ := range2_ok (ro' := none) hrec hg h r1 (hA.mono x1.sub) trivial s1 hm n Q (fun σ' w' act' q1 q2 q3 => hQ σ' w' act' q1 q2 (x1.trans q3)) fn
        refine ⟨_, _, _, d, _, f, args, _, ?_, e1, fun _ _ => trivial, e2, (fun h => nomatch h), e3⟩
        simp [Instr.enterLoop, newObj, Sem.run, Result.andThen]
        exact ⟨rfl, rfl, rfl⟩
  | some l =>
    cases ro' with
    | none => exact hro.elim
    | some b =>
      obtain ⟨k, hk, rfl⟩ := hro
      have h : (match st.obj l with
        | .loop _ _ _ _ _ _ _ df => evRange2 P rec g ps as bo (some l) a df [] st
        | _ => .no) = Rc.ok x a' st' := h
      split at h
      · rename_i s p m t ps0 as0 bo0 df ho
        obtain ⟨lp, g1, ⟨_, _, _, _, _, _, kd, hdf, hdd⟩, _⟩ := hr.loopAt hk ho
        obtain ⟨d, f, args, e1, e2, e3⟩ := range2_ok (ro' := some k.b) (ms := []) hrec hg h hr hA ⟨k, hk, rfl⟩ hdf ⟨rfl, fun i nm f h1 => by simp at h1⟩ n Q hQ fn
        refine ⟨_, _, _, d, _, f, args, _, ?_, e1, fun _ _ => trivial, e2, (fun h => nomatch h), e3⟩
        show (Instr.enterLoop fn act.tmps ps as bo (some k.b)).run P w = _
        unfold Instr.enterLoop
        simp only [Sem.run_bind, run_getLoop g1, Result.andThen_ok, Sem.run_pure, hdd]
        rfl
      · cases h

theorem one_ok (hO : OrcOk P O) {K : Nat} (hK : ∀ j, j < K + 1 → CodeOk P (evCode P O j)) (hreg : RegOk P (evCode P O K)) : CodeOk P (evCode P O (K + 1)) := by
  refine ⟨?_, hO⟩
  intro c ro a st x a' st' h σ w act ro' hr hA hro n Q hQ
  have hrec := hK K (by omega)
  have h1 : evOne P (evCode P O K) c ro a st = .ok x a' st' := h
  cases c with
  | skip => cases h1; exact wpIn_skip (hQ σ w act hr hA (.refl σ st w))
  | label l => cases h1; exact wpIn_label (hQ σ w act hr hA (.refl σ st w))
  | region id ops draw => exact hreg id ops draw ro a st x a' st' h1 σ w act ro' hr hA hro n Q hQ
  | seq c1 c2 =>
    have h1 : thenN (evCode P O K c1 ro a st) (fun a st => evCode P O K c2 ro a st) = .ok x a' st' := h1
    refine wpIn_seq ?_
    rcases thenN_ok h1 with ⟨a1, st1, e1, e2⟩ | ⟨hx, e1⟩
    · exact hrec.code c1 ro a st .normal a1 st1 e1 σ w act ro' hr hA hro n _ fun σ1 w1 act1 r1 a1r x1 =>
        hrec.code c2 ro a1 st1 x a' st' e2 σ1 w1 act1 ro' r1 a1r (hro.mono x1.sub) n Q fun σ2 w2 act2 r2 a2 x2 => hQ σ2 w2 act2 r2 a2 (x1.trans x2)
    · exact hrec.code c1 ro a st x a' st' e1 σ w act ro' hr hA hro n _ fun σ1 w1 act1 r1 a1r x1 => then_other hx (hQ σ1 w1 act1 r1 a1r x1)
  | cond c c1 c2 =>
    have h1 : bsel (okOpd c) (evCond (evCode P O K) (evalA a c) c1 c2 ro a st) .no = .ok x a' st' := h1
    obtain ⟨hc, h1⟩ := bsel_ne h1 Rc.no_ne
    have hv := hA.eval hc
    unfold evCond at h1
    split at h1
    · rename_i b hb
      rw [hb] at hv
      have hv := bool_inv hv
      cases b with
      | true => exact wpIn_cond_true hv (hrec.code c1 ro a st x a' st' h1 σ w act ro' hr hA hro n Q hQ)
      | false => exact wpIn_cond_false hv (hrec.code c2 ro a st x a' st' h1 σ w act ro' hr hA hro n Q hQ)
    · cases h1
  | block id c =>
    have h1 : inBlock id (evCode P O K c ro a st) = .ok x a' st' := h1
    refine wpIn_block ?_
    cases hr1 : evCode P O K c ro a st with
    | no => rw [hr1] at h1; cases h1
    | ok y a1 st1 =>
      rw [hr1] at h1
      refine hrec.code c ro a st y a1 st1 hr1 σ w act ro' hr hA hro n _ fun σ1 w1 act1 r1 a1r x1 => ?_
      cases y with
      | normal => cases h1; exact hQ σ1 w1 act1 r1 a1r x1
      | goto l => cases h1; exact hQ σ1 w1 act1 r1 a1r x1
      | ret => cases h1; exact hQ σ1 w1 act1 r1 a1r x1
      | exit j =>
        have h1 : bsel (Nat.beq j id) (Rc.ok .normal a1 st1) (.ok (.exit j) a1 st1) = .ok x a' st' := h1
        show (if j = id then Q .normal act1 w1 else Q (.exit j) act1 w1)
        rw [bsel_eq] at h1
        by_cases hj : j = id
        · rw [if_pos (beq_iff.2 hj)] at h1
          rw [if_pos hj]
          cases h1; exact hQ σ1 w1 act1 r1 a1r x1
        · rw [if_neg (fun e => hj (beq_iff.1 e))] at h1
          rw [if_neg hj]
          cases h1; exact hQ σ1 w1 act1 r1 a1r x1
  | loop c => exact loop_ok (fun _ => .inr trivial) hK h hr hA hro n Q hQ
  | rangeFunc g ps as bo => exact range_ok hrec h1 hr hA hro n Q hQ
  | exit id => cases h1; exact wpIn_exit (hQ σ w act hr hA (.refl σ st w))
  | ret => cases h1; exact wpIn_ret (hQ σ w act hr hA (.refl σ st w))
  | goto l => cases h1; exact wpIn_goto (hQ σ w act hr hA (.refl σ st w))
  | scope c =>
    have h1 : noGoto (evCode P O K c ro a st) = .ok x a' st' := h1
    refine wpIn_scopeE ?_
    cases hr1 : evCode P O K c ro a st with
    | no => rw [hr1] at h1; cases h1
    | ok y a1 st1 =>
      rw [hr1] at h1
      refine hrec.code c ro a st y a1 st1 hr1 σ w act ro' hr hA hro n _ fun σ1 w1 act1 r1 a1r x1 => ?_
      cases y with
      | normal => cases h1; exact hQ σ1 w1 act1 r1 a1r x1
      | goto l => cases h1
      | ret => cases h1; exact hQ σ1 w1 act1 r1 a1r x1
      | exit j => cases h1; exact hQ σ1 w1 act1 r1 a1r x1
  | refuse r => cases h1

theorem code_ok (hO : OrcOk P O) (hreg : ∀ rec, CodeOk P rec → RegOk P rec) : ∀ K, CodeOk P (evCode P O K) := by
  intro K
  induction K using Nat.strongRecOn with
  | _ K ih =>
    cases K with
    | zero => exact ⟨fun c ro a st x a' st' h => (by cases h), ⟨fun f args st v st' h => (by cases h), fun f p h => (by cases h)⟩⟩
    | succ K => exact one_ok hO ih (hreg _ (ih K (by omega)))

/-- The top: a call that the interpreter follows. -/
theorem calls_ok (hO : OrcOk P O) (hreg : ∀ rec, CodeOk P rec → RegOk P rec) {K : Nat} {f : FuncId} {args args' : List Value} {v : Value} (h : callF P (evCode P O K) f args st = .ok v st') (hr : Rel σ st w) (ha : VRL σ args args') :
    Calls P f ⟨args'⟩ w (Ends σ st w v st') :=
  callsIn_wide.1 (callF_ok (code_ok hO hreg K) h hr ha 0 none)
end
end Go.Proofs.YtolgomkmilbkgaaGreat.Ev

set_option autoImplicit false
set_option linter.unusedVariables false
set_option linter.unusedSimpArgs false
namespace Go.Proofs.YtolgomkmilbkgaaGreat.Ev
open Go
section
variable {P : Program} {rec : Rec} {σ : Nm} {st st' : St} {w : World}

theorem parts_congr {a b : Ac} {ps : List (Nat × Operand)} (h : ∀ x, x ∈ ps.map (·.2) → evalA a x = evalA b x) : (ps.map fun (i, x) => (i, evalA a x)) = ps.map fun (i, x) => (i, evalA b x) := by
  apply List.map_congr_left
  intro q hq
  obtain ⟨i, x⟩ := q
  show (i, evalA a x) = (i, evalA b x)
  rw [h x (List.mem_map.2 ⟨(i, x), hq, rfl⟩)]

theorem map_congr {a b : Ac} {xs : List Operand} (h : ∀ x, x ∈ xs → evalA a x = evalA b x) : xs.map (evalA a) = xs.map (evalA b) := List.map_congr_left h

/-- A step looks at its operands alone. -/
theorem stepS_congr {op : Op} {a b : Ac} (h : ∀ x, x ∈ op.operands.toList → evalA a x = evalA b x) (st : St) : stepS P rec (stpOf P op) a st = stepS P rec (stpOf P op) b st := by
  cases op with
  | call c =>
    obtain ⟨callee, args, ats⟩ := c
    cases callee with
    | value f =>
      have h1 := h f (by simp [Op.operands, Call.operands])
      have h2 := map_congr (a := a) (b := b) (xs := args.toList) (fun x hx => h x (by simp only [Op.operands, Call.operands, Array.toList_append, List.mem_append]; exact .inr hx))
      show callV P rec (evalA a f) (mapE a args.toList) st = callV P rec (evalA b f) (mapE b args.toList) st
      rw [mapE_eq, mapE_eq, h1, h2]
    | invoke x m => rfl
    | builtin bi =>
      have h2 := map_congr (a := a) (b := b) (xs := args.toList) (fun x hx => h x (by simpa [Op.operands, Call.operands] using hx))
      show builtinA P bi ats (args.toList.map (evalA a)) st = builtinA P bi ats (args.toList.map (evalA b)) st
      rw [h2]
  | build t ps =>
    have h2 := parts_congr (a := a) (b := b) (ps := ps.toList) (fun x hx => h x (by simpa [Op.operands] using hx))
    show reO (buildA _ (ps.toList.map fun (i, x) => (i, evalA a x))) st = reO (buildA _ (ps.toList.map fun (i, x) => (i, evalA b x))) st
    rw [h2]
  | buildSlice t n ps =>
    have h2 := parts_congr (a := a) (b := b) (ps := ps.toList) (fun x hx => h x (by simpa [Op.operands] using hx))
    show buildSliceA _ n (ps.toList.map fun (i, x) => (i, evalA a x)) st = buildSliceA _ n (ps.toList.map fun (i, x) => (i, evalA b x)) st
    rw [h2]
  | makeFunc fn first captured =>
    cases fn with
    | func f =>
      have h1 := map_congr (a := a) (b := b) (xs := first.toList) (fun x hx => h x (by simp only [Op.operands, Array.toList_append, List.mem_append]; exact .inl hx))
      have h2 := map_congr (a := a) (b := b) (xs := captured.toList) (fun x hx => h x (by simp only [Op.operands, Array.toList_append, List.mem_append]; exact .inr hx))
      show Re.ok (.func (.func f) ⟨first.toList.map (evalA a)⟩ ⟨captured.toList.map (evalA a)⟩) st = .ok (.func (.func f) ⟨first.toList.map (evalA b)⟩ ⟨captured.toList.map (evalA b)⟩) st
      rw [h1, h2]
    | _ => rfl
  | makeMap t r => cases r <;> rfl
  | slice t x lo hi mx =>
    have h1 := h x (by simp [Op.operands])
    have h2 : lo.map (evalA a) = lo.map (evalA b) := by
      cases lo with
      | none => rfl
      | some l => exact congrArg some (h l (by simp [Op.operands]))
    have h3 : hi.map (evalA a) = hi.map (evalA b) := by
      cases hi with
      | none => rfl
      | some l => exact congrArg some (h l (by simp [Op.operands]))
    show bsel mx.isSome .no (reO (sliceK _ (evalA a x) (lo.map (evalA a)) (hi.map (evalA a)) st) st) = bsel mx.isSome .no (reO (sliceK _ (evalA b x) (lo.map (evalA b)) (hi.map (evalA b)) st) st)
    rw [h1, h2, h3]
  | pick c x y => simp only [stpOf, stepS, compOp, h c (by simp [Op.operands]), h x (by simp [Op.operands]), h y (by simp [Op.operands])]
  | mapUpdate t m k x => simp only [stpOf, stepS, compOp, h m (by simp [Op.operands]), h k (by simp [Op.operands]), h x (by simp [Op.operands])]
  | entryStore t m k x => simp only [stpOf, stepS, compOp, h m (by simp [Op.operands]), h k (by simp [Op.operands]), h x (by simp [Op.operands])]
  | insert t m k x => simp only [stpOf, stepS, compOp, h m (by simp [Op.operands]), h k (by simp [Op.operands]), h x (by simp [Op.operands])]
  | store t x y => simp only [stpOf, stepS, compOp, h x (by simp [Op.operands]), h y (by simp [Op.operands])]
  | binOp o t x y k => simp only [stpOf, stepS, compOp, h x (by simp [Op.operands]), h y (by simp [Op.operands])]
  | makeSlice t x y => simp only [stpOf, stepS, compOp, h x (by simp [Op.operands]), h y (by simp [Op.operands])]
  | indexAddr t x y => simp only [stpOf, stepS, compOp, h x (by simp [Op.operands]), h y (by simp [Op.operands])]
  | index t x y => simp only [stpOf, stepS, compOp, h x (by simp [Op.operands]), h y (by simp [Op.operands])]
  | lookup t x y ok => simp only [stpOf, stepS, compOp, h x (by simp [Op.operands]), h y (by simp [Op.operands])]
  | mapEntry t x y => simp only [stpOf, stepS, compOp, h x (by simp [Op.operands]), h y (by simp [Op.operands])]
  | move x => simp only [stpOf, stepS, compOp, h x (by simp [Op.operands])]
  | assign x => simp only [stpOf, stepS, compOp, h x (by simp [Op.operands])]
  | box t x => simp only [stpOf, stepS, compOp, h x (by simp [Op.operands])]
  | load t x => simp only [stpOf, stepS, compOp, h x (by simp [Op.operands])]
  | nilCheck x => simp only [stpOf, stepS, compOp, h x (by simp [Op.operands])]
  | unOp o t x => simp only [stpOf, stepS, compOp, h x (by simp [Op.operands])]
  | convert s d x => simp only [stpOf, stepS, compOp, h x (by simp [Op.operands])]
  | makeInterface t x => simp only [stpOf, stepS, compOp, h x (by simp [Op.operands])]
  | fieldAddr t x f => simp only [stpOf, stepS, compOp, h x (by simp [Op.operands])]
  | field t x f => simp only [stpOf, stepS, compOp, h x (by simp [Op.operands])]
  | typeAssert x t u ok => simp only [stpOf, stepS, compOp, h x (by simp [Op.operands])]
  | extract x i => simp only [stpOf, stepS, compOp, h x (by simp [Op.operands])]
  | _ => rfl

theorem reO_any {x : Option Value} {v : Value} (h : reO x st = .ok v st') : st' = st ∧ ∀ s2, reO x s2 = .ok v s2 := by
  obtain ⟨rfl, rfl⟩ := reO_ok h
  exact ⟨rfl, fun _ => rfl⟩

theorem pickK_any {c x y v : Value} (h : pickK c x y st = .ok v st') : st' = st ∧ ∀ s2, pickK c x y s2 = .ok v s2 := by
  unfold pickK at h
  split at h
  · obtain ⟨rfl, rfl⟩ := Re.ok_inj h; exact ⟨rfl, fun _ => rfl⟩
  · cases h

theorem nilK_any {x v : Value} (h : nilK x st = .ok v st') : st' = st ∧ ∀ s2, nilK x s2 = .ok v s2 := by
  unfold nilK at h
  split at h
  · obtain ⟨rfl, rfl⟩ := Re.ok_inj h; exact ⟨rfl, fun _ => rfl⟩
  · obtain ⟨rfl, rfl⟩ := Re.ok_inj h; exact ⟨rfl, fun _ => rfl⟩
  · obtain ⟨rfl, rfl⟩ := Re.ok_inj h; exact ⟨rfl, fun _ => rfl⟩
  · obtain ⟨rfl, rfl⟩ := Re.ok_inj h; exact ⟨rfl, fun _ => rfl⟩
  · cases h

theorem extractK_any {x v : Value} {i : Nat} (h : extractK x i st = .ok v st') : st' = st ∧ ∀ s2, extractK x i s2 = .ok v s2 := by
  unfold extractK at h
  split at h
  · exact reO_any h
  · cases h

/-- What is pure is the same at every memory, and leaves it. -/
theorem pure_any {op : Op} (hc : cls op = .pure) {a : Ac} {v : Value} (h : stepS P rec (stpOf P op) a st = .ok v st') : st' = st ∧ ∀ s2, stepS P rec (stpOf P op) a s2 = .ok v s2 := by
  cases op with
  | move x => obtain ⟨rfl, rfl⟩ := Re.ok_inj h; exact ⟨rfl, fun _ => rfl⟩
  | assign x => obtain ⟨rfl, rfl⟩ := Re.ok_inj h; exact ⟨rfl, fun _ => rfl⟩
  | pick c x y => exact pickK_any h
  | build t ps => exact reO_any h
  | nilCheck x => exact nilK_any h
  | binOp o t x y k => exact reO_any h
  | unOp o t x => exact reO_any h
  | makeInterface t x => exact reO_any h
  | makeFunc fn f c =>
    cases fn with
    | func k => obtain ⟨rfl, rfl⟩ := Re.ok_inj h; exact ⟨rfl, fun _ => rfl⟩
    | _ => cases h
  | fieldAddr t x f => exact reO_any h
  | field t x f => exact reO_any h
  | indexAddr t x i => exact reO_any h
  | index t x i => exact reO_any h
  | typeAssert x t u ok => exact reO_any h
  | extract x i => exact extractK_any h
  | makeMap t r => cases r <;> cases hc
  | call c =>
    obtain ⟨callee, args, ats⟩ := c
    cases callee with
    | builtin b => cases b <;> cases hc
    | _ => cases hc
  | _ => cases hc

/-- What reads leaves memory as it is, and makes no call. -/
theorem reads_any {op : Op} (hc : cls op = .reads) {a : Ac} {v : Value} (h : stepS P rec (stpOf P op) a st = .ok v st') : st' = st := by
  cases op with
  | load t x =>
    have h : loadA (tyOf P t) (evalA a x) st = Re.ok v st' := h
    unfold loadA at h
    split at h
    case h_2 => exact (reO_ok h).2
    case h_3 => cases h
    unfold loadK at h
    obtain ⟨d, n, es, ex, tr, ho, h⟩ := cellsK_ok h Re.no_ne
    cases hty : tyOf P t with
    | no => rw [hty] at h; cases h
    | agg kk =>
      rw [hty] at h
      obtain ⟨_, h⟩ := bsel_ne h Re.no_ne
      exact (Re.ok_inj h).2.symm
    | one =>
      rw [hty] at h
      obtain ⟨_, h⟩ := bsel_ne h Re.no_ne
      exact (Re.ok_inj h).2.symm
  | lookup t x i ok => exact (reO_ok h).2
  | convert s d x => exact (reO_ok h).2
  | slice t x lo hi mx =>
    cases mx with
    | some m => cases h
    | none => exact (reO_ok (st := st) h).2
  | makeMap t r => cases r <;> cases hc
  | call c =>
    obtain ⟨callee, args, ats⟩ := c
    cases callee with
    | builtin b =>
      cases b with
      | len =>
        have h : builtinA P .len ats (args.toList.map (evalA a)) st = .ok v st' := h
        generalize args.toList.map (evalA a) = xs at h
        cases xs with
        | nil => cases h
        | cons x xs =>
          cases xs with
          | cons y ys => cases h
          | nil =>
            have h : (match ats[0]? with | some t => reO (lenK (lnOf P t) x st) st | none => .no) = Re.ok v st' := h
            split at h
            · exact (reO_ok h).2
            · cases h
      | min =>
        have h : reO (minMaxA true (args.toList.map (evalA a))) st = .ok v st' := h
        exact (reO_ok h).2
      | max =>
        have h : reO (minMaxA false (args.toList.map (evalA a))) st = .ok v st' := h
        exact (reO_ok h).2
      | _ => cases hc
    | _ => cases hc
  | _ => cases hc

theorem reads_rec {op : Op} (hc : cls op = .reads) (rec rec' : Rec) (a : Ac) (st : St) : stepS P rec (stpOf P op) a st = stepS P rec' (stpOf P op) a st := by
  cases op with
  | call c =>
    obtain ⟨callee, args, ats⟩ := c
    cases callee with
    | value f => cases hc
    | _ => rfl
  | _ => rfl
end
end Go.Proofs.YtolgomkmilbkgaaGreat.Ev

set_option autoImplicit false
set_option linter.unusedVariables false
set_option linter.unusedSimpArgs false
namespace Go.Proofs.YtolgomkmilbkgaaGreat.Ev
open Go
section
variable {P : Program} {rec : Rec} {σ τ : Nm} {st st' : St} {w : World}

theorem same1_eq {u v : Value} (h : same1 u v = true) : u = v := by
  unfold same1 at h
  split at h
  · simp at h; rw [h]
  · rename_i j a k b
    rw [bsel_eq] at h
    split at h
    · rename_i hk
      rw [kEq_iff.1 hk]
      rw [iEq_eq] at h
      rw [beq_iff_eq.1 h]
    · cases h
  · rename_i a b
    have h : a.data.toList = b.data.toList := by simpa using h
    congr 1
    obtain ⟨⟨a⟩⟩ := a
    obtain ⟨⟨b⟩⟩ := b
    simp only at h
    rw [h]
  · rfl
  · rename_i a b
    obtain ⟨a1, a2, a3⟩ := a
    obtain ⟨b1, b2, b3⟩ := b
    simp only [Bool.and_eq_true, Nat.beq_eq, Option.isNone_iff_eq_none] at h
    obtain ⟨⟨⟨rfl, rfl⟩, rfl⟩, rfl⟩ := h
    rfl
  · rfl
  · rename_i a n m b n' m'
    obtain ⟨a1, a2, a3⟩ := a
    obtain ⟨b1, b2, b3⟩ := b
    simp only [Bool.and_eq_true, Nat.beq_eq, Option.isNone_iff_eq_none] at h
    obtain ⟨⟨⟨⟨⟨rfl, rfl⟩, rfl⟩, rfl⟩, rfl⟩, rfl⟩ := h
    rfl
  · rfl
  · rw [beq_iff.1 h]
  · rfl
  · rfl
  · cases h

theorem sameL_eq : ∀ {as bs : List Value}, sameL as bs = true → as = bs
  | [], [], _ => rfl
  | [], _ :: _, h => by cases h
  | _ :: _, [], h => by cases h
  | a :: as, b :: bs, h => by
    have h : bsel (same1 a b) (sameL as bs) false = true := h
    obtain ⟨h1, h2⟩ := bsel_ne h (by simp)
    rw [same1_eq h1, sameL_eq h2]

theorem sameV_eq {u v : Value} (h : sameV u v = true) : u = v := by
  unfold sameV at h
  split at h
  · rename_i as bs; exact congrArg _ (Array.ext' (sameL_eq h))
  · rename_i as bs; exact congrArg _ (Array.ext' (sameL_eq h))
  · rename_i t v u w
    rw [Bool.and_eq_true] at h
    rw [beq_iff.1 h.1, same1_eq h.2]
  · rename_i f as bs g cs ds
    simp only [Bool.and_eq_true, decide_eq_true_eq] at h
    obtain ⟨⟨rfl, h2⟩, h3⟩ := h
    rw [Array.ext' (sameL_eq h2), Array.ext' (sameL_eq h3)]
  · exact same1_eq h

/-! ## Names below -/
def cut (N : Nat) (τ : Nm) : Nm := ⟨fun nm => if nm < N then τ nm else none, τ.fz⟩

theorem Nm.ext {σ τ : Nm} (h : ∀ nm, σ nm = τ nm) (hf : σ.fz = τ.fz) : σ = τ := by
  obtain ⟨a, b⟩ := σ
  obtain ⟨c, d⟩ := τ
  have : a = c := funext h
  subst this
  have hf : b = d := hf
  subst hf
  rfl
theorem cut_at (N : Nat) (τ : Nm) (nm : Nat) : cut N τ nm = if nm < N then τ nm else none := rfl
theorem cut_some {N nm : Nat} {k : Blk} (h : τ nm = some k) (hn : nm < N) : cut N τ nm = some k := by rw [cut_at, if_pos hn]; exact h
theorem cut_sub (N : Nat) (τ : Nm) : Sub (cut N τ) τ := by
  refine ⟨fun nm k h => ?_, fun _ _ h => h⟩
  rw [cut_at] at h
  split at h
  · exact h
  · cases h

theorem all_mem {f : Value → Bool} {as : List Value} (h : as.all f = true) {i : Nat} {u : Value} (hu : as[i]? = some u) : f u = true := List.all_eq_true.1 h u (List.mem_of_getElem? hu)

theorem below_vr {N : Nat} : ∀ (d : Nat) {v v' : Value}, belowV d N v = true → VR τ v v' → VR (cut N τ) v v' := by
  intro d
  induction d with
  | zero =>
    intro v v' h hv
    have h : flat v = true := by simpa [belowV] using h
    cases hv with
    | bool b => exact .bool b
    | int k n => exact .int k n
    | string s => exact .string s
    | nilptr => exact .nilptr
    | nilslice => exact .nilslice
    | nilmap => exact .nilmap
    | nilFunc => exact .nilFunc
    | nilIface => exact .nilIface
    | _ => cases h
  | succ d ih =>
    intro v v' h hv
    cases hv with
    | bool b => exact .bool b
    | int k n => exact .int k n
    | string s => exact .string s
    | nilptr => exact .nilptr
    | nilslice => exact .nilslice
    | nilmap => exact .nilmap
    | nilFunc => exact .nilFunc
    | nilIface => exact .nilIface
    | fsl n c' b o cs ys c g1 g2 g3 g4 g5 g6 g7 g8 =>
      have h : cs.all (belowV d N) = true := h
      exact .fsl n c' b o cs ys c g1 g2 g3 g4 g5 g6 (fun i u v hu hv => ih (all_mem h hu) (g7 i u v hu hv)) g8
    | fnil a c' => exact .fnil a c'
    | fpt off b o cs ys c g3 g4 g5 g6 g7 g8 =>
      have h : cs.all (belowV d N) = true := h
      exact .fpt off b o cs ys c g3 g4 g5 g6 (fun i u v hu hv => ih (all_mem h hu) (g7 i u v hu hv)) g8
    | ptr nm off k hk => exact .ptr nm off k (cut_some hk (ble_iff.1 h))
    | slice nm off n c c' k hk h1 h2 h3 =>
      exact .slice nm off n c c' k (cut_some hk (ble_iff.1 h)) h1 h2 h3
    | map nm k hk => exact .map nm k (cut_some hk (ble_iff.1 h))
    | func f as as' bs bs' h1 h2 h3 h4 =>
      have h : bsel (as.all (belowV d N)) (bs.all (belowV d N)) false = true := h
      obtain ⟨g1, g2⟩ := bsel_ne h (by simp)
      exact .func f as as' bs bs' h1 (fun i u v hu hv => ih (all_mem g1 hu) (h2 i u v hu hv)) h3 (fun i u v hu hv => ih (all_mem g2 hu) (h4 i u v hu hv))
    | yield l k hk => exact .yield l k (cut_some hk (ble_iff.1 h))
    | iface t u v hu =>
      have h : belowV d N u = true := h
      exact .iface t u v (ih h hu)
    | agg as as' h0 h1 h2 =>
      have h : as.all (belowV d N) = true := h
      exact .agg as as' h0 h1 (fun i u v hu hv => ih (all_mem h hu) (h2 i u v hu hv))
    | tuple as as' h1 h2 =>
      have h : as.all (belowV d N) = true := h
      exact .tuple as as' h1 (fun i u v hu hv => ih (all_mem h hu) (h2 i u v hu hv))

theorem opsBelow_ok {op : Op} {a : Ac} (h : opsBelow op a st = true) {x : Operand} (hx : x ∈ op.operands.toList) : belowV 6 st.next (evalA a x) = true := by
  obtain ⟨hp, n⟩ := st
  have h : (op.operands.toList.all fun x => belowV 6 n (evalA a x)) = true := h
  exact List.all_eq_true.1 h x hx

theorem nextLe_ok (h : nextLe st st' = true) : st.next ≤ st'.next := by
  obtain ⟨hp, n⟩ := st
  obtain ⟨hp', n'⟩ := st'
  exact ble_iff.1 h

/-- Nothing is alive: what is then related. -/
theorem dead_all (N nm : Nat) : ¬ Alive ⟨heap0, N⟩ nm := fun h => h (by rw [St.obj_mk]; exact objAt_zero nm)
theorem Rel.nothing {N : Nat} {τ : Nm} {w : World} (hτ : ∀ nm, N ≤ nm → τ nm = none) (hb : ∀ nm k, τ nm = some k → k.b < w.heap.size ∧ (k.ex = true → k.o = 0)) (hf : FzOk τ.fz w) : Rel τ ⟨heap0, N⟩ w :=
  ⟨fun nm h => absurd h (dead_all N nm), fun nm nm' k k' h => absurd h (dead_all N nm), fun nm h => ⟨hτ nm h, dead_all N nm⟩, hb, fun b c h => ⟨hf b c h, fun nm k ha => absurd ha (dead_all N nm)⟩⟩

/-! ## The check of a drawn region -/
theorem bit_test (m i : Nat) : bit m i = m.testBit i := by
  have e : bit m i = Nat.beq (Nat.land (Nat.shiftRight m i) 1) 1 := rfl
  rw [e, Nat.testBit]
  have h1 : Nat.land (Nat.shiftRight m i) 1 = 1 &&& (m >>> i) := by rw [Nat.and_comm]; rfl
  rw [h1]
  have h2 : 1 &&& (m >>> i) = (m >>> i) % 2 := by rw [Nat.and_comm]; exact Nat.and_one_is_mod _
  rw [h2]
  rcases Nat.mod_two_eq_zero_or_one (m >>> i) with h | h <;> rw [h] <;> rfl

theorem or_test (a b i : Nat) : (Nat.lor a b).testBit i = (a.testBit i || b.testBit i) := Nat.testBit_or a b i
theorem and_test (a b i : Nat) : (Nat.land a b).testBit i = (a.testBit i && b.testBit i) := Nat.testBit_and a b i
theorem one_test (n i : Nat) : (Nat.shiftLeft 1 n).testBit i = decide (n = i) := by
  show (1 <<< n).testBit i = _
  rw [Nat.one_shiftLeft, Nat.testBit_two_pow]

theorem dstBit_test (d : Option Tmp) (t : Nat) : (dstBit d).testBit t = true ↔ d = some t := by
  cases d with
  | none => simp [dstBit, osel]
  | some u =>
    show (Nat.shiftLeft 1 u).testBit t = true ↔ _
    rw [one_test]; simp

theorem tmpBits_test : ∀ (xs : List Operand) (t : Nat), .tmp t ∈ xs → (tmpBits xs).testBit t = true
  | [], t, h => by simp at h
  | x :: xs, t, h => by
    have e : tmpBits (x :: xs) = Operand.casesOn x (fun t => Nat.lor (tmpBits xs) (Nat.shiftLeft 1 t)) (fun _ => tmpBits xs) (fun _ => tmpBits xs) (fun _ => tmpBits xs) := rfl
    rw [e]
    rcases List.mem_cons.1 h with h1 | h1
    · subst h1
      show (Nat.lor (tmpBits xs) (Nat.shiftLeft 1 t)).testBit t = true
      rw [or_test, one_test]; simp
    · have := tmpBits_test xs t h1
      cases x with
      | tmp u =>
        show (Nat.lor (tmpBits xs) (Nat.shiftLeft 1 u)).testBit t = true
        rw [or_test, this]; rfl
      | _ => exact this

/-- The edges of an operation. -/
theorem nthI_eq : ∀ (xs : List Inf) (i : Nat), nthI xs i = xs[i]?
  | [], i => rfl
  | x :: xs, 0 => rfl
  | x :: xs, i + 1 => nthI_eq xs i

theorem edges_ok : ∀ {es : List Edge} {acc : List Inf} {c m : Nat}, edges acc es = some (c, m) →
    (∀ i, c.testBit i = true ↔ ∃ e, e ∈ es ∧ Region.binds .any e = true ∧ (e.on = i ∨ ∃ x, acc[e.on]? = some x ∧ x.cl.testBit i = true)) ∧
    (∀ t, m.testBit t = true → ∃ e, e ∈ es ∧ Region.binds .any e = true ∧ ∃ x, acc[e.on]? = some x ∧ (x.dst.testBit t = true ∨ x.dm.testBit t = true))
  | [], acc, c, m, h => by
    cases h
    exact ⟨fun i => by simp, fun t ht => by simp at ht⟩
  | e :: es, acc, c, m, h => by
    have h : bsel (Region.binds .any e) (osel (edges acc es) none fun p => osel (nthI acc e.on) none fun x =>
      some (Nat.lor p.1 (Nat.lor (Nat.shiftLeft 1 e.on) x.cl), Nat.lor p.2 (Nat.lor x.dst x.dm))) (edges acc es) = some (c, m) := h
    rw [bsel_eq] at h
    split at h
    · rename_i hb
      obtain ⟨p, hp, h⟩ := osel_ne h (by simp)
      obtain ⟨x, hx, h⟩ := osel_ne h (by simp)
      rw [nthI_eq] at hx
      obtain ⟨c0, m0⟩ := p
      obtain ⟨i1, i2⟩ := edges_ok hp
      cases h
      refine ⟨fun i => ?_, fun t ht => ?_⟩
      · rw [or_test, or_test, one_test, Bool.or_eq_true, Bool.or_eq_true, i1 i]
        constructor
        · rintro (⟨e', h1, h2⟩ | h1 | h1)
          · exact ⟨e', by simp [h1], h2⟩
          · exact ⟨e, by simp, hb, .inl (by simpa using h1)⟩
          · exact ⟨e, by simp, hb, .inr ⟨x, hx, h1⟩⟩
        · rintro ⟨e', h1, h2, h3⟩
          rcases List.mem_cons.1 h1 with rfl | h1
          · rcases h3 with h3 | ⟨y, hy, h3⟩
            · exact .inr (.inl (by simpa using h3))
            · rw [hx] at hy; cases hy; exact .inr (.inr h3)
          · exact .inl ⟨e', h1, h2, h3⟩
      · rw [or_test, or_test, Bool.or_eq_true, Bool.or_eq_true] at ht
        rcases ht with h1 | h1
        · obtain ⟨e', q1, q2⟩ := i2 t h1
          exact ⟨e', by simp [q1], q2⟩
        · exact ⟨e, by simp, hb, x, hx, h1⟩
    · rename_i hb
      obtain ⟨i1, i2⟩ := edges_ok h
      refine ⟨fun i => ?_, fun t ht => ?_⟩
      · rw [i1 i]
        constructor
        · rintro ⟨e', h1, h2⟩; exact ⟨e', by simp [h1], h2⟩
        · rintro ⟨e', h1, h2, h3⟩
          rcases List.mem_cons.1 h1 with rfl | h1
          · exact absurd h2 hb
          · exact ⟨e', h1, h2, h3⟩
      · obtain ⟨e', q1, q2⟩ := i2 t ht
        exact ⟨e', by simp [q1], q2⟩
end
end Go.Proofs.YtolgomkmilbkgaaGreat.Ev

set_option autoImplicit false
set_option linter.unusedVariables false
set_option linter.unusedSimpArgs false
namespace Go.Proofs.YtolgomkmilbkgaaGreat.Ev
open Go

def wr (xs : List Inf) : Nat := xs.foldl (fun m x => Nat.lor m x.dst) 0
def rd (xs : List Inf) : Nat := xs.foldl (fun m x => Nat.lor m x.looks) 0

theorem wr_snoc (xs : List Inf) (x : Inf) : wr (xs ++ [x]) = Nat.lor (wr xs) x.dst := by simp [wr]
theorem rd_snoc (xs : List Inf) (x : Inf) : rd (xs ++ [x]) = Nat.lor (rd xs) x.looks := by simp [rd]

theorem fold_test (f : Inf → Nat) (t : Nat) : ∀ (xs : List Inf) (m : Nat), (xs.foldl (fun m x => Nat.lor m (f x)) m).testBit t = true ↔ m.testBit t = true ∨ ∃ x, x ∈ xs ∧ (f x).testBit t = true
  | [], m => by simp
  | x :: xs, m => by
    rw [List.foldl_cons, fold_test f t xs, or_test, Bool.or_eq_true]
    constructor
    · rintro ((h | h) | ⟨y, h1, h2⟩)
      · exact .inl h
      · exact .inr ⟨x, by simp, h⟩
      · exact .inr ⟨y, by simp [h1], h2⟩
    · rintro (h | ⟨y, h1, h2⟩)
      · exact .inl (.inl h)
      · rcases List.mem_cons.1 h1 with rfl | h1
        · exact .inl (.inr h2)
        · exact .inr ⟨y, h1, h2⟩

theorem wr_test {xs : List Inf} {t : Nat} : (wr xs).testBit t = true ↔ ∃ x, x ∈ xs ∧ x.dst.testBit t = true := by
  unfold wr; rw [fold_test (·.dst)]; simp
theorem rd_test {xs : List Inf} {t : Nat} : (rd xs).testBit t = true ↔ ∃ x, x ∈ xs ∧ x.looks.testBit t = true := by
  unfold rd; rw [fold_test (·.looks)]; simp

theorem infs_ok {ops : Array Oper} {xs : List Inf} : ∀ (l : List Oper) (acc : List Inf), infs ops l acc (wr acc) (rd acc) = some xs →
    xs.length = acc.length + l.length ∧ xs.take acc.length = acc ∧
    ∀ i o, l[i]? = some o → ∃ x, xs[acc.length + i]? = some x ∧ infOf ops (xs.take (acc.length + i)) o = some x ∧ infOk x (xs.take (acc.length + i)) (wr (xs.take (acc.length + i))) (rd (xs.take (acc.length + i))) = true
  | [], acc, h => by
    have h : some acc = some xs := h
    cases h
    exact ⟨by simp, by simp, fun i o h => by simp at h⟩
  | o :: l, acc, h => by
    have h : (osel (infOf ops acc o) none fun x => bsel (infOk x acc (wr acc) (rd acc)) (infs ops l (acc ++ [x]) (Nat.lor (wr acc) x.dst) (Nat.lor (rd acc) x.looks)) none) = some xs := h
    obtain ⟨x, hx, h⟩ := osel_ne h (by simp)
    obtain ⟨hb, h⟩ := bsel_ne h (by simp)
    rw [← wr_snoc, ← rd_snoc] at h
    obtain ⟨h1, h2, h3⟩ := infs_ok l (acc ++ [x]) h
    simp only [List.length_append, List.length_singleton] at h1 h2 h3
    have ht : xs.take acc.length = acc := by
      have := congrArg (List.take acc.length) h2
      rw [List.take_take, Nat.min_eq_left (by omega), List.take_left'] at this
      · exact this
      · rfl
    refine ⟨by simp [h1]; omega, ht, fun i o' ho => ?_⟩
    cases i with
    | zero =>
      simp at ho
      subst ho
      refine ⟨x, ?_, ?_⟩
      · have : (xs.take (acc.length + 1))[acc.length]? = some x := by rw [h2]; simp
        rw [List.getElem?_take] at this
        split at this
        · exact this
        · cases this
      · rw [Nat.add_zero, ht]; exact ⟨hx, hb⟩
    | succ i =>
      have := h3 i o' (by simpa using ho)
      rw [show acc.length + 1 + i = acc.length + (i + 1) by omega] at this
      exact this

/-- What the check says of a region. -/
structure RegionOk (ops : Array Oper) (xs : List Inf) : Prop where
  len : xs.length = ops.size
  inf : ∀ i o, ops[i]? = some o → ∃ x, xs[i]? = some x ∧ infOf ops (xs.take i) o = some x ∧ infOk x (xs.take i) (wr (xs.take i)) (rd (xs.take i)) = true

theorem infs_region {ops : Array Oper} {xs : List Inf} (h : infs ops ops.toList [] 0 0 = some xs) : RegionOk ops xs := by
  obtain ⟨h1, h2, h3⟩ := infs_ok ops.toList [] h
  refine ⟨by simpa using h1, fun i o ho => ?_⟩
  have := h3 i o (by simpa using ho)
  simpa using this

section
variable {ops : Array Oper} {xs : List Inf}

theorem infOf_ok {acc : List Inf} {o : Oper} {x : Inf} (h : infOf ops acc o = some x) : edges acc o.after.toList = some (x.cl, x.dm) ∧ x.looks = Nat.lor (tmpBits o.op.operands.toList) (guardBit ops o) ∧ x.dst = dstBit o.dst ∧ x.strict = isStrict o.op ∧ x.mem = isMem o.op := by
  unfold infOf at h
  obtain ⟨p, hp, h⟩ := osel_ne h (by simp)
  cases h
  exact ⟨hp, rfl, rfl, rfl, rfl⟩

theorem take_at {i j : Nat} {x : Inf} (h : (xs.take i)[j]? = some x) : j < i ∧ xs[j]? = some x := by
  rw [List.getElem?_take] at h
  split at h
  · rename_i hj; exact ⟨hj, h⟩
  · cases h

theorem RegionOk.op (hR : RegionOk ops xs) {i : Nat} {x : Inf} (h : xs[i]? = some x) : ∃ o, ops[i]? = some o ∧ infOf ops (xs.take i) o = some x ∧ infOk x (xs.take i) (wr (xs.take i)) (rd (xs.take i)) = true := by
  have hi : i < ops.size := by rw [← hR.len]; exact (List.getElem?_eq_some_iff.1 h).1
  obtain ⟨y, h1, h2, h3⟩ := hR.inf i ops[i] (by simp [hi])
  rw [h] at h1; cases h1
  exact ⟨ops[i], by simp [hi], h2, h3⟩

/-- A set that edges do not leave holds what lies ahead. -/
theorem RegionOk.closed (hR : RegionOk ops xs) {D : Nat → Prop} (hD : ∀ j o, D j → ops[j]? = some o → ∀ e, e ∈ o.after.toList → Region.binds .any e = true → D e.on) :
    ∀ (i : Nat) (x : Inf) (o : Oper), xs[i]? = some x → ops[i]? = some o → (∀ e, e ∈ o.after.toList → Region.binds .any e = true → D e.on) → ∀ k, x.cl.testBit k = true → D k := by
  intro i
  induction i using Nat.strongRecOn with
  | _ i ih =>
    intro x o hx ho he k hk
    obtain ⟨o', ho', h1, _⟩ := hR.op hx
    rw [ho] at ho'; cases ho'
    obtain ⟨e, e1, e2, e3⟩ := ((edges_ok (infOf_ok h1).1).1 k).1 hk
    rcases e3 with rfl | ⟨y, hy, e3⟩
    · exact he e e1 e2
    · obtain ⟨hlt, hy⟩ := take_at hy
      obtain ⟨o2, ho2, _⟩ := hR.op hy
      exact ih e.on hlt y o2 hy ho2 (fun e' h1 h2 => hD e.on o2 (he e e1 e2) ho2 e' h1 h2) k e3

/-- What is marked as written ahead is written by something ahead. -/
theorem RegionOk.dm (hR : RegionOk ops xs) {t : Nat} : ∀ (i : Nat) (x : Inf), xs[i]? = some x → x.dm.testBit t = true → ∃ k y, k < i ∧ x.cl.testBit k = true ∧ xs[k]? = some y ∧ y.dst.testBit t = true := by
  intro i
  induction i using Nat.strongRecOn with
  | _ i ih =>
    intro x hx ht
    obtain ⟨o, ho, h1, _⟩ := hR.op hx
    have hE := edges_ok (infOf_ok h1).1
    obtain ⟨e, e1, e2, y, hy, e3⟩ := hE.2 t ht
    obtain ⟨hlt, hy'⟩ := take_at hy
    rcases e3 with e3 | e3
    · exact ⟨e.on, y, hlt, (hE.1 e.on).2 ⟨e, e1, e2, .inl rfl⟩, hy', e3⟩
    · obtain ⟨k, z, k1, k2, k3, k4⟩ := ih e.on hlt y hy' e3
      exact ⟨k, z, by omega, (hE.1 k).2 ⟨e, e1, e2, .inr ⟨y, hy, k2⟩⟩, k3, k4⟩

theorem mem_take {i j : Nat} {y : Inf} (hy : xs[i]? = some y) (h : i < j) : y ∈ xs.take j := List.mem_of_getElem? (i := i) (by rw [List.getElem?_take, if_pos h]; exact hy)

theorem readers_ok {cl d : Nat} : ∀ (acc : List Inf) (i : Nat), readersOk cl d acc i = true → ∀ j y, acc[j]? = some y → Nat.land y.looks d ≠ 0 → bit cl (i + j) = true
  | [], i, h, j, y, hy, _ => by simp at hy
  | x :: acc, i, h, j, y, hy, hne => by
    have h : bsel (Nat.beq (Nat.land x.looks d) 0) (readersOk cl d acc (Nat.succ i)) (bsel (bit cl i) (readersOk cl d acc (Nat.succ i)) false) = true := h
    rw [bsel_eq, bsel_eq] at h
    cases j with
    | zero =>
      cases hy
      rw [if_neg (fun e => hne (beq_iff.1 e))] at h
      split at h
      · assumption
      · cases h
    | succ j =>
      have h2 : readersOk cl d acc (Nat.succ i) = true := by
        split at h
        · exact h
        · split at h
          · exact h
          · cases h
      have := readers_ok acc (Nat.succ i) h2 j y (by simpa using hy) hne
      rw [show i + (j + 1) = Nat.succ i + j by omega]; exact this

theorem actors_ok {cl : Nat} : ∀ (acc : List Inf) (i : Nat), actorsOk cl acc i = true → ∀ j y, acc[j]? = some y → y.mem = true → bit cl (i + j) = true
  | [], i, h, j, y, hy, _ => by simp at hy
  | x :: acc, i, h, j, y, hy, hne => by
    have h : bsel x.mem (bsel (bit cl i) (actorsOk cl acc (Nat.succ i)) false) (actorsOk cl acc (Nat.succ i)) = true := h
    rw [bsel_eq, bsel_eq] at h
    cases j with
    | zero =>
      cases hy
      rw [if_pos hne] at h
      split at h
      · assumption
      · cases h
    | succ j =>
      have h2 : actorsOk cl acc (Nat.succ i) = true := by
        split at h
        · split at h
          · exact h
          · cases h
        · exact h
      have := actors_ok acc (Nat.succ i) h2 j y (by simpa using hy) hne
      rw [show i + (j + 1) = Nat.succ i + j by omega]; exact this

theorem zero_test {a b t : Nat} (h : Nat.land a b = 0) (ha : a.testBit t = true) (hb : b.testBit t = true) : False := by
  have := and_test a b t
  rw [h, ha, hb] at this
  simp at this

/-- One temporary, one writer. -/
theorem RegionOk.uniq (hR : RegionOk ops xs) {i j : Nat} {x y : Inf} (hi : xs[i]? = some x) (hj : xs[j]? = some y) (hlt : i < j) {t : Nat} (h1 : x.dst.testBit t = true) (h2 : y.dst.testBit t = true) : False := by
  obtain ⟨o, _, _, h⟩ := hR.op hj
  unfold infOk at h
  obtain ⟨hb, _⟩ := bsel_ne h (by simp)
  exact zero_test (beq_iff.1 hb) h2 (wr_test.2 ⟨x, mem_take hi hlt, h1⟩)

/-- Who looks at what an earlier one writes has it ahead. -/
theorem RegionOk.reads (hR : RegionOk ops xs) {i j : Nat} {x y : Inf} (hi : xs[i]? = some x) (hj : xs[j]? = some y) (hlt : i < j) {t : Nat} (h1 : x.dst.testBit t = true) (h2 : y.looks.testBit t = true) : y.cl.testBit i = true := by
  obtain ⟨o, _, _, h⟩ := hR.op hj
  unfold infOk at h
  obtain ⟨_, h⟩ := bsel_ne h (by simp)
  obtain ⟨hb, _⟩ := bsel_ne h (by simp)
  have e := beq_iff.1 hb
  have hlw : (Nat.land y.looks (wr (xs.take j))).testBit t = true := by rw [and_test, h2, wr_test.2 ⟨x, mem_take hi hlt, h1⟩]; rfl
  have hdm : y.dm.testBit t = true := by
    rw [← e, and_test, Bool.and_eq_true] at hlw
    exact hlw.2
  obtain ⟨k, z, k1, k2, k3, k4⟩ := hR.dm j y hj hdm
  rcases Nat.lt_trichotomy i k with h | h | h
  · exact (hR.uniq hi k3 h h1 k4).elim
  · subst h; exact k2
  · exact (hR.uniq k3 hi h k4 h1).elim

/-- Who writes what an earlier one looks at has that one ahead. -/
theorem RegionOk.writes (hR : RegionOk ops xs) {i j : Nat} {x y : Inf} (hi : xs[i]? = some x) (hj : xs[j]? = some y) (hlt : i < j) {t : Nat} (h1 : x.looks.testBit t = true) (h2 : y.dst.testBit t = true) : y.cl.testBit i = true := by
  obtain ⟨o, _, _, h⟩ := hR.op hj
  unfold infOk at h
  obtain ⟨_, h⟩ := bsel_ne h (by simp)
  obtain ⟨_, h⟩ := bsel_ne h (by simp)
  obtain ⟨hb, _⟩ := bsel_ne h (by simp)
  rw [bsel_eq] at hb
  split at hb
  · rename_i hz
    exact (zero_test (beq_iff.1 hz) h2 (rd_test.2 ⟨x, mem_take hi hlt, h1⟩)).elim
  · have := readers_ok _ 0 hb i x (by rw [List.getElem?_take, if_pos hlt]; exact hi) (fun e => zero_test e h1 h2)
    rwa [Nat.zero_add, bit_test] at this

/-- What works on memory, but an alloc, has all ahead that works on memory before it. -/
theorem RegionOk.order (hR : RegionOk ops xs) {i j : Nat} {x y : Inf} (hi : xs[i]? = some x) (hj : xs[j]? = some y) (hlt : i < j) (h1 : x.mem = true) (h2 : y.strict = true) : y.cl.testBit i = true := by
  obtain ⟨o, _, _, h⟩ := hR.op hj
  unfold infOk at h
  obtain ⟨_, h⟩ := bsel_ne h (by simp)
  obtain ⟨_, h⟩ := bsel_ne h (by simp)
  obtain ⟨_, h⟩ := bsel_ne h (by simp)
  rw [bsel_eq, if_pos h2] at h
  have := actors_ok _ 0 h i x (by rw [List.getElem?_take, if_pos hlt]; exact hi) h1
  rwa [Nat.zero_add, bit_test] at this
end
end Go.Proofs.YtolgomkmilbkgaaGreat.Ev

set_option autoImplicit false
set_option linter.unusedVariables false
set_option linter.unusedSimpArgs false
namespace Go.Proofs.YtolgomkmilbkgaaGreat.Ev
open Go

/-- What a read yields at a memory. -/
def RA (P : Program) (rec : Rec) (o : Op) (a : Ac) (v : Value) (st : St) : Prop := opsBelow o a st = true ∧ stepS P rec (stpOf P o) a st = .ok v st

/-- What is known of one operation of a drawn region that has been followed in the list's order. -/
structure Fact (P : Program) (rec : Rec) (ops : Array Oper) (A : Nat → Ac) (S : Nat → St) (V : Nat → Value) (lo : Nat) (hist : List Hist) (watch : List Watch) (k : Nat) (o : Oper) (m : Nat) : Prop where
  put : (A k).put o.dst (V k) (S k) = .ok (A (k + 1)) (S k)
  off : wantedA ops o (A k) = false → V k = junk ∧ S (k + 1) = S k
  on : wantedA ops o (A k) = true → stepS P rec (stpOf P o.op) (A k) (S k) = .ok (V k) (S (k + 1))
  rd : wantedA ops o (A k) = true → cls o.op = .reads → opsBelow o.op (A k) (S k) = true ∧ (∀ q, q ∈ hist → bit m q.i = true ∨ RA P rec o.op (A k) (V k) q.st) ∧
    ∀ j oj, lo ≤ j → j < k → ops[j]? = some oj → wantedA ops oj (A j) = true → isMem oj.op = true → bit m j = true ∨ RA P rec o.op (A k) (V k) (S j)
  mm : wantedA ops o (A k) = true → isMem o.op = true → opsBelow o.op (A k) (S k) = true ∧ (S k).next ≤ (S (k + 1)).next ∧ (∀ q, q ∈ watch → bit m q.i = true ∨ RA P rec q.op q.a q.v (S (k + 1))) ∧
    ∀ j oj, lo ≤ j → j < k → ops[j]? = some oj → wantedA ops oj (A j) = true → cls oj.op = .reads → bit m j = true ∨ RA P rec oj.op (A j) (V j) (S (k + 1))

theorem or_of_bsel {b c : Bool} (h : bsel b true c = true) : b = true ∨ c = true := by cases b <;> simp_all [bsel]

section
variable {P : Program} {rec : Rec} {ops : Array Oper}

theorem put_st {a : Ac} {dst : Option Tmp} {v : Value} {st st2 : St} {a' : Ac} (h : a.put dst v st = .ok a' st2) : a.put dst v st = .ok a' st := by
  have := (Ac.put_ok h).1
  subst this; exact h

/-- One operation ahead of the others. -/
theorem Fact.cons {o : Oper} {l : List Oper} {m : Nat} {cl : List Nat} {i : Nat} {a a1 : Ac} {st st1 : St} {v : Value} {hist hist' : List Hist} {watch watch' : List Watch} {A' : Nat → Ac} {S' : Nat → St} {V' : Nat → Value}
    (hops : ops[i]? = some o) (hA' : A' (i + 1) = a1) (hS' : S' (i + 1) = st1)
    (hput : a.put o.dst v st = .ok a1 st) (hoff : wantedA ops o a = false → v = junk ∧ st1 = st) (hon : wantedA ops o a = true → stepS P rec (stpOf P o.op) a st = .ok v st1)
    (hrd : wantedA ops o a = true → cls o.op = .reads → opsBelow o.op a st = true ∧ ∀ q, q ∈ hist → bit m q.i = true ∨ RA P rec o.op a v q.st)
    (hmm : wantedA ops o a = true → isMem o.op = true → opsBelow o.op a st = true ∧ st.next ≤ st1.next ∧ ∀ q, q ∈ watch → bit m q.i = true ∨ RA P rec q.op q.a q.v st1)
    (hh : ∀ q, q ∈ hist → q ∈ hist') (hh2 : wantedA ops o a = true → isMem o.op = true → ∃ n, (⟨i, n, st⟩ : Hist) ∈ hist')
    (hw : ∀ q, q ∈ watch → ∃ n, setVer q n ∈ watch') (hw2 : wantedA ops o a = true → cls o.op = .reads → ∃ n, ({ op := o.op, i, a, v, ver := n } : Watch) ∈ watch')
    (hF : ∀ j o' m', l[j]? = some o' → cl[j]? = some m' → Fact P rec ops A' S' V' (i + 1) hist' watch' (i + 1 + j) o' m') :
    ∃ A S V, A i = a ∧ S i = st ∧ (∀ k, i < k → A k = A' k) ∧ (∀ k, i < k → S k = S' k) ∧
      ∀ j o' m', (o :: l)[j]? = some o' → (m :: cl)[j]? = some m' → Fact P rec ops A S V i hist watch (i + j) o' m' := by
  let A : Nat → Ac := fun k => if k = i then a else A' k
  let S : Nat → St := fun k => if k = i then st else S' k
  let V : Nat → Value := fun k => if k = i then v else V' k
  have hAi : A i = a := if_pos rfl
  have hSi : S i = st := if_pos rfl
  have hVi : V i = v := if_pos rfl
  have hA : ∀ k, i < k → A k = A' k := fun k hk => if_neg (by omega)
  have hS : ∀ k, i < k → S k = S' k := fun k hk => if_neg (by omega)
  have hV : ∀ k, i < k → V k = V' k := fun k hk => if_neg (by omega)
  refine ⟨A, S, V, hAi, hSi, hA, hS, fun j o' m' ho hm => ?_⟩
  cases j with
  | zero =>
    cases ho; cases hm
    rw [Nat.add_zero]
    have e1 : A (i + 1) = a1 := by rw [hA _ (by omega), hA']
    have e2 : S (i + 1) = st1 := by rw [hS _ (by omega), hS']
    refine ⟨?_, ?_, ?_, ?_, ?_⟩
    · rw [hAi, hSi, hVi, e1]; exact hput
    · rw [hAi, hSi, hVi, e2]; exact hoff
    · rw [hAi, hSi, hVi, e2]; exact hon
    · rw [hAi, hSi, hVi]
      exact fun h1 h2 => ⟨(hrd h1 h2).1, (hrd h1 h2).2, fun j oj h3 h4 => by omega⟩
    · rw [hAi, hSi, e2]
      exact fun h1 h2 => ⟨(hmm h1 h2).1, (hmm h1 h2).2.1, (hmm h1 h2).2.2, fun j oj h3 h4 => by omega⟩
  | succ j =>
    have hf := hF j o' m' (by simpa using ho) (by simpa using hm)
    have hk : i + 1 + j = i + (j + 1) := by omega
    rw [hk] at hf
    have q1 := hA (i + (j + 1)) (by omega)
    have q2 := hS (i + (j + 1)) (by omega)
    have q3 := hV (i + (j + 1)) (by omega)
    have q4 := hA (i + (j + 1) + 1) (by omega)
    have q5 := hS (i + (j + 1) + 1) (by omega)
    refine ⟨?_, ?_, ?_, ?_, ?_⟩
    · rw [q1, q2, q3, q4]; exact hf.put
    · rw [q1, q2, q3, q5]; exact hf.off
    · rw [q1, q2, q3, q5]; exact hf.on
    · rw [q1, q2, q3]
      intro h1 h2
      obtain ⟨g1, g2, g3⟩ := hf.rd h1 h2
      refine ⟨g1, fun q hq => g2 q (hh q hq), fun j2 oj h3 h4 h5 h6 h7 => ?_⟩
      by_cases e : j2 = i
      · subst e
        rw [hops] at h5; cases h5
        rw [hAi] at h6
        rw [hSi]
        obtain ⟨n, hn⟩ := hh2 h6 h7
        exact g2 _ hn
      · rw [hA j2 (by omega)] at h6
        rw [hS j2 (by omega)]
        exact g3 j2 oj (by omega) h4 h5 h6 h7
    · rw [q1, q2, q5]
      intro h1 h2
      obtain ⟨g1, g2, g3, g4⟩ := hf.mm h1 h2
      refine ⟨g1, g2, fun q hq => (let ⟨n, hn⟩ := hw q hq; g3 (setVer q n) hn), fun j2 oj h3 h4 h5 h6 h7 => ?_⟩
      by_cases e : j2 = i
      · subst e
        rw [hops] at h5; cases h5
        rw [hAi] at h6
        rw [hAi, hVi]
        obtain ⟨n, hn⟩ := hw2 h6 h7
        exact g3 _ hn
      · rw [hA j2 (by omega)] at h6
        rw [hA j2 (by omega), hV j2 (by omega)]
        exact g4 j2 oj (by omega) h4 h5 h6 h7

theorem isMem_cls {op : Op} (h : isMem op = true) : cls op = .acts ∨ cls op = .makes := by
  unfold isMem at h
  cases hc : cls op <;> rw [hc] at h <;> simp_all

theorem readsV_ok {op : Op} (hc : cls op = .reads) {a : Ac} {v : Value} {st : St} (h : readsV P op a v st = true) : RA P rec op a v st := by
  unfold readsV at h
  obtain ⟨h1, h⟩ := bsel_ne h (by simp)
  cases hs : stepS P noRec (stpOf P op) a st with
  | no => rw [hs] at h; cases h
  | ok u st2 =>
    rw [hs] at h
    have h : sameV u v = true := h
    have := sameV_eq h
    subst this
    have := reads_any hc hs
    subst this
    exact ⟨h1, by rw [reads_rec hc rec noRec]; exact hs⟩

theorem calm_st {s : Stp} {a : Ac} {st st' : St} {v : Value} (hc : calm rec s a st = true) (h : stepS P rec s a st = .ok v st') : st' = st := by
  cases s with
  | op f => cases hc
  | call f args =>
    have hc : (funcK (evalA a f) false fun k first cap => osel (rec.pur k) false fun p => osel (purS p (first.toList ++ mapE a args ++ cap.toList) st) false fun _ => true) = true := hc
    have h : callV P rec (evalA a f) (mapE a args) st = .ok v st' := h
    obtain ⟨k, as, bs, hv, hc⟩ := funcK_ok hc (by simp)
    obtain ⟨p, hp, hc⟩ := osel_ne hc (by simp)
    obtain ⟨u, hu, hc⟩ := osel_ne hc (by simp)
    unfold callV at h
    rw [hv] at h
    cases hfe : feOf P k with
    | no => simp only [hfe] at h; cases h
    | mk c m fn =>
      simp only [hfe] at h
      unfold callF at h
      rw [hp, osel_some, hu, osel_some] at h
      exact (Re.ok_inj h).2.symm

/-! What was read stands behind new memory. -/
structure Ext1 (st st1 : St) : Prop where
  le : st.next ≤ st1.next
  obj : ∀ nm, nm < st.next → st1.obj nm = st.obj nm
theorem freshB_ok {o : Op} {v ver : Nat} (h : freshB o v ver = true) : cls o = .makes ∧ v = ver := by
  unfold freshB at h
  obtain ⟨h1, h2⟩ := bsel_ne (α := Bool) h (by simp)
  refine ⟨?_, beq_iff.1 h2⟩
  unfold isMk at h1
  cases hc : cls o <;> rw [hc] at h1 <;> first | rfl | cases h1
theorem allK_ext {o : AObj} {f : Nat → Value} {st st1 : St} {v : Value} (h : allK o f st = .ok v st1) : Ext1 st st1 := by
  obtain ⟨hp, n⟩ := st
  have h : Re.ok (f n) (pushAt n hp o) = .ok v st1 := h
  rw [pushAt_eq] at h
  obtain ⟨_, rfl⟩ := Re.ok_inj h
  refine ⟨Nat.le_succ _, fun nm hn => ?_⟩
  have hn : nm < n := hn
  rw [St.obj_mk, objAt_put, if_neg (by omega), St.obj_eq]
theorem makes_ext {op : Op} (hc : cls op = .makes) {a : Ac} {v : Value} {st st1 : St} (h : stepS P rec (stpOf P op) a st = .ok v st1) : Ext1 st st1 := by
  cases op with
  | alloc e =>
    have h : osel (zeroL P e) Re.no (fun z => boxK z st) = .ok v st1 := h
    obtain ⟨z, _, h⟩ := osel_ne h (by simp)
    exact allK_ext h
  | box t x =>
    have h : osel (cellsO (evalA a x)) Re.no (fun xs => boxK xs st) = .ok v st1 := h
    obtain ⟨z, _, h⟩ := osel_ne h (by simp)
    exact allK_ext h
  | buildSlice t n ps =>
    have h : buildSliceA (mkOf P t) n (ps.toList.map fun (i, x) => (i, evalA a x)) st = .ok v st1 := h
    unfold buildSliceA at h
    cases hm : mkOf P t with
    | no => rw [hm] at h; cases h
    | mk k z b =>
      rw [hm] at h
      obtain ⟨_, h⟩ := bsel_ne (α := Re) h (by simp)
      obtain ⟨l, _, h⟩ := osel_ne h (by simp)
      exact allK_ext h
  | makeSlice t l c =>
    have h : makeSliceA (mkOf P t) (evalA a l) (evalA a c) st = .ok v st1 := h
    unfold makeSliceA at h
    have natK_ne : ∀ {w : Value} {f : Nat → Re}, natK w Re.no f = .ok v st1 → ∃ i, f i = .ok v st1 := fun {w f} h => by
      unfold natK at h
      split at h
      · exact ⟨_, h⟩
      · cases h
    obtain ⟨i, h⟩ := natK_ne h
    obtain ⟨j, h⟩ := natK_ne h
    cases hm : mkOf P t with
    | no => rw [hm] at h; cases h
    | mk k z b =>
      rw [hm] at h
      obtain ⟨_, h⟩ := bsel_ne (α := Re) h (by simp)
      obtain ⟨_, h⟩ := bsel_ne (α := Re) h (by simp)
      obtain ⟨_, h⟩ := bsel_ne (α := Re) h (by simp)
      exact allK_ext h
  | makeMap t r =>
    cases r with
    | none =>
      have h : allK (.map [] 0) (fun nm => Value.map (some nm)) st = .ok v st1 := h
      exact allK_ext h
    | some r => cases hc
  | call c =>
    obtain ⟨callee, args, ats⟩ := c
    cases callee with
    | builtin b => cases b <;> cases hc
    | _ => cases hc
  | _ => cases hc
theorem belowV_mono {N N' : Nat} (hN : N ≤ N') : ∀ (e : Nat) {v : Value}, belowV e N v = true → belowV e N' v = true
  | 0, v, h => h
  | e + 1, v, h => by
    have lst : ∀ {xs : List Value}, xs.all (belowV e N) = true → xs.all (belowV e N') = true := fun h => List.all_eq_true.2 fun u hu => belowV_mono hN e (List.all_eq_true.1 h u hu)
    unfold belowV at h ⊢
    split at h
    · exact ble_iff.2 (Nat.le_trans (ble_iff.1 h) hN)
    · exact ble_iff.2 (Nat.le_trans (ble_iff.1 h) hN)
    · exact ble_iff.2 (Nat.le_trans (ble_iff.1 h) hN)
    · obtain ⟨h1, h2⟩ := bsel_ne (α := Bool) h (by simp)
      have h1 := lst h1
      have h2 := lst h2
      rw [h1, h2]; rfl
    · exact ble_iff.2 (Nat.le_trans (ble_iff.1 h) hN)
    · exact lst h
    · exact belowV_mono hN e h
    · exact lst h
    · exact lst h
    · exact h
theorem loadK_at {ty : Ty} {nm off : Nat} {st st1 : St} {v : Value} (ho : st1.obj nm = st.obj nm) (h : loadK ty nm off st = .ok v st) : loadK ty nm off st1 = .ok v st1 := by
  unfold loadK at h ⊢
  rw [ho]
  obtain ⟨d, n, es, ex, tr, hob, h⟩ := cellsK_ok h Re.no_ne
  rw [hob]
  cases ty with
  | no => cases h
  | agg k =>
    obtain ⟨hb, h⟩ := bsel_ne (α := Re) h (by simp)
    obtain ⟨rfl, _⟩ := Re.ok_inj h
    show bsel (Nat.ble (Nat.add off k) n) _ _ = _
    rw [hb]; rfl
  | one =>
    obtain ⟨hb, h⟩ := bsel_ne (α := Re) h (by simp)
    obtain ⟨rfl, _⟩ := Re.ok_inj h
    show bsel (Nat.ble (Nat.succ off) n) _ _ = _
    rw [hb]; rfl
theorem reO_at {x y : Option Value} {st st1 : St} {v : Value} (hxy : x = y) (h : reO x st = .ok v st) : reO y st1 = .ok v st1 := by
  subst hxy
  obtain ⟨h1, _⟩ := reO_ok h
  rw [h1]; rfl
theorem opsBelow_ext {op : Op} {a : Ac} {st st1 : St} (h : opsBelow op a st = true) (he : Ext1 st st1) : opsBelow op a st1 = true := by
  obtain ⟨hp, n⟩ := st
  obtain ⟨hp1, n1⟩ := st1
  have h : (op.operands.toList.all fun x => belowV 6 n (evalA a x)) = true := h
  exact List.all_eq_true.2 fun x hx => belowV_mono he.le 6 (List.all_eq_true.1 h x hx)
theorem RA_ext {op : Op} (hc : cls op = .reads) {a : Ac} {v : Value} {st st1 : St} (h : RA P rec op a v st) (he : Ext1 st st1) : RA P rec op a v st1 := by
  refine ⟨opsBelow_ext h.1 he, ?_⟩
  have hs := h.2
  have hbel : ∀ x, x ∈ op.operands.toList → belowV 6 st.next (evalA a x) = true := fun x hx => opsBelow_ok h.1 hx
  have blk : ∀ {x : Value} {ad : Addr}, belowV 6 st.next x = true → x = .pointer (some ad) → ad.block < st.next := fun hb hx => by
    rw [hx] at hb; exact ble_iff.1 hb
  have sblk : ∀ {x : Value} {ad : Addr} {n c : Nat}, belowV 6 st.next x = true → x = .slice (some ad) n c → ad.block < st.next := fun hb hx => by
    rw [hx] at hb; exact ble_iff.1 hb
  have mblk : ∀ {x : Value} {r : Nat}, belowV 6 st.next x = true → x = .map (some r) → r < st.next := fun hb hx => by
    rw [hx] at hb; exact ble_iff.1 hb
  cases op with
  | load t x =>
    have hb := hbel x (by simp [Op.operands])
    have hs : loadA (tyOf P t) (evalA a x) st = .ok v st := hs
    show loadA (tyOf P t) (evalA a x) st1 = .ok v st1
    unfold loadA at hs ⊢
    split at hs
    · rename_i ad hx
      exact loadK_at (he.obj _ (blk hb hx)) hs
    · exact reO_at rfl hs
    · cases hs
  | lookup t x i ok =>
    have hb := hbel x (by simp [Op.operands])
    have hs : reO (lookupK (mpOf P t) (evalA a x) (evalA a i) ok st) st = .ok v st := hs
    show reO (lookupK (mpOf P t) (evalA a x) (evalA a i) ok st1) st1 = .ok v st1
    refine reO_at ?_ hs
    unfold lookupK
    cases mpOf P t with
    | no => rfl
    | mk agg ks z =>
      show (osel (keyCells agg ks (evalA a i)) none fun _ => _) = osel (keyCells agg ks (evalA a i)) none fun _ => _
      congr 1
      funext _
      cases hx : evalA a x with
      | map r =>
        cases r with
        | none => rfl
        | some r => simp only [he.obj r (mblk hb hx)]
      | _ => rfl
  | convert s d x =>
    have hb := hbel x (by simp [Op.operands])
    have hs : reO (convK (cvOf P s d) (evalA a x) st) st = .ok v st := hs
    show reO (convK (cvOf P s d) (evalA a x) st1) st1 = .ok v st1
    refine reO_at ?_ hs
    cases hx : evalA a x with
    | slice ad n c =>
      cases ad with
      | none => cases cvOf P s d <;> rfl
      | some ad => cases cvOf P s d <;> first | rfl | (unfold convK; simp only [he.obj _ (sblk hb hx)])
    | func f as bs =>
      cases f with
      | via n p g b => cases b <;> cases cvOf P s d <;> rfl
      | _ => cases cvOf P s d <;> rfl
    | _ => cases cvOf P s d <;> rfl
  | slice t x lo hi mx =>
    cases mx with
    | some m => cases hs
    | none =>
      have hb := hbel x (by simp [Op.operands])
      have hs : reO (sliceK (skOf P t) (evalA a x) (lo.map (evalA a)) (hi.map (evalA a)) st) st = .ok v st := hs
      show reO (sliceK (skOf P t) (evalA a x) (lo.map (evalA a)) (hi.map (evalA a)) st1) st1 = .ok v st1
      refine reO_at ?_ hs
      cases hx : evalA a x with
      | slice ad n c =>
        cases ad with
        | none => cases n <;> cases c <;> cases skOf P t <;> rfl
        | some ad => cases skOf P t <;> first | rfl | (unfold sliceK sliceRow; simp only [he.obj _ (sblk hb hx)])
      | pointer ad =>
        cases ad with
        | none => cases skOf P t <;> rfl
        | some ad => cases skOf P t <;> first | rfl | (unfold sliceK sliceArr; simp only [he.obj _ (blk hb hx)])
      | func f as bs =>
        cases f with
        | via n p g b => cases b <;> cases skOf P t <;> rfl
        | _ => cases skOf P t <;> rfl
      | _ => cases skOf P t <;> rfl
  | makeMap t r => cases r <;> cases hc
  | call c =>
    obtain ⟨callee, args, ats⟩ := c
    cases callee with
    | builtin b =>
      cases b with
      | len =>
        have hs : builtinA P .len ats (args.toList.map (evalA a)) st = .ok v st := hs
        show builtinA P .len ats (args.toList.map (evalA a)) st1 = .ok v st1
        have hall : ∀ u, u ∈ args.toList.map (evalA a) → belowV 6 st.next u = true := fun u hu => by
          obtain ⟨x, hx, rfl⟩ := List.mem_map.1 hu
          exact hbel x (by simpa [Op.operands, Call.operands] using hx)
        generalize args.toList.map (evalA a) = xs at hs hall
        cases xs with
        | nil => cases hs
        | cons x xs =>
          cases xs with
          | cons y ys => cases hs
          | nil =>
            have hb := hall x (by simp)
            have hs : (match ats[0]? with | some t => reO (lenK (lnOf P t) x st) st | none => .no) = Re.ok v st := hs
            show (match ats[0]? with | some t => reO (lenK (lnOf P t) x st1) st1 | none => .no) = Re.ok v st1
            split at hs
            · refine reO_at ?_ hs
              rename_i t _
              cases x with
              | map r =>
                cases r with
                | none => cases lnOf P t <;> rfl
                | some r => cases lnOf P t <;> first | rfl | (unfold lenK; simp only [he.obj r (mblk hb rfl)])
              | func f as bs =>
                cases f with
                | via n p g b => cases b <;> cases lnOf P t <;> rfl
                | _ => cases lnOf P t <;> rfl
              | _ => cases lnOf P t <;> rfl
            · cases hs
      | min =>
        have hs : reO (minMaxA true (args.toList.map (evalA a))) st = .ok v st := hs
        exact reO_at rfl hs
      | max =>
        have hs : reO (minMaxA false (args.toList.map (evalA a))) st = .ok v st := hs
        exact reO_at rfl hs
      | _ => cases hc
    | _ => cases hc
  | _ => cases hc

theorem setVer_setVer (q : Watch) (n m : Nat) : setVer (setVer q n) m = setVer q m := rfl
theorem setVer_self (q : Watch) : setVer q q.ver = q := rfl

theorem draw_trace : ∀ (l : List Oper) (cl : List Nat) (i : Nat) (a : Ac) (st : St) (ver : Nat) (hist : List Hist) (watch : List Watch) (a' : Ac) (st' : St), (∀ j, l[j]? = ops[i + j]?) →
    (∀ q, q ∈ hist → q.ver ≤ ver ∧ (q.ver = ver → q.st = st)) → (∀ q, q ∈ watch → cls q.op = .reads ∧ q.ver ≤ ver ∧ (q.ver = ver → RA P rec q.op q.a q.v st)) → drawOps P rec ops l cl i a st ver hist watch = .ok a' st' →
    ∃ A S V, A i = a ∧ S i = st ∧ A (i + l.length) = a' ∧ S (i + l.length) = st' ∧ ∀ j o m, l[j]? = some o → cl[j]? = some m → Fact P rec ops A S V i hist watch (i + j) o m
  | [], cl, i, a, st, ver, hist, watch, a', st', hl, hH, hW, h => by
    cases h
    exact ⟨fun _ => a, fun _ => st, fun _ => junk, rfl, rfl, rfl, rfl, fun j o m h => by simp at h⟩
  | o :: l, [], i, a, st, ver, hist, watch, a', st', hl, hH, hW, h => by cases h
  | o :: l, m :: cl, i, a, st, ver, hist, watch, a', st', hl, hH, hW, h => by
    have hops : ops[i]? = some o := by have := hl 0; simpa using this.symm
    have hl' : ∀ j, l[j]? = ops[i + 1 + j]? := fun j => by have := hl (j + 1); rw [show i + 1 + j = i + (j + 1) by omega]; simpa using this
    have wrap : ∀ {a1 : Ac} {st1 : St} {v : Value} {ver' : Nat} {hist' : List Hist} {watch' : List Watch}, drawOps P rec ops l cl (i + 1) a1 st1 ver' hist' watch' = .ok a' st' →
        (∀ q, q ∈ hist' → q.ver ≤ ver' ∧ (q.ver = ver' → q.st = st1)) → (∀ q, q ∈ watch' → cls q.op = .reads ∧ q.ver ≤ ver' ∧ (q.ver = ver' → RA P rec q.op q.a q.v st1)) →
        a.put o.dst v st = .ok a1 st → (wantedA ops o a = false → v = junk ∧ st1 = st) → (wantedA ops o a = true → stepS P rec (stpOf P o.op) a st = .ok v st1) →
        (wantedA ops o a = true → cls o.op = .reads → opsBelow o.op a st = true ∧ ∀ q, q ∈ hist → bit m q.i = true ∨ RA P rec o.op a v q.st) →
        (wantedA ops o a = true → isMem o.op = true → opsBelow o.op a st = true ∧ st.next ≤ st1.next ∧ ∀ q, q ∈ watch → bit m q.i = true ∨ RA P rec q.op q.a q.v st1) →
        (∀ q, q ∈ hist → q ∈ hist') → (wantedA ops o a = true → isMem o.op = true → ∃ n, (⟨i, n, st⟩ : Hist) ∈ hist') → (∀ q, q ∈ watch → ∃ n, setVer q n ∈ watch') → (wantedA ops o a = true → cls o.op = .reads → ∃ n, ({ op := o.op, i, a, v, ver := n } : Watch) ∈ watch') →
        ∃ A S V, A i = a ∧ S i = st ∧ A (i + (o :: l).length) = a' ∧ S (i + (o :: l).length) = st' ∧ ∀ j o' m', (o :: l)[j]? = some o' → (m :: cl)[j]? = some m' → Fact P rec ops A S V i hist watch (i + j) o' m' := by
      intro a1 st1 v ver' hist' watch' hrun hH' hW' hput hoff hon hrd hmm hh hh2 hw hw2
      obtain ⟨A', S', V', e1, e2, e3, e4, hF⟩ := draw_trace l cl (i + 1) a1 st1 ver' hist' watch' a' st' hl' hH' hW' hrun
      obtain ⟨A, S, V, f1, f2, f3, f4, f5⟩ := Fact.cons hops e1 e2 hput hoff hon hrd hmm hh hh2 hw hw2 hF
      have hlen : i + (o :: l).length = i + 1 + l.length := by simp; omega
      exact ⟨A, S, V, f1, f2, by rw [hlen, f3 _ (by omega)]; exact e3, by rw [hlen, f4 _ (by omega)]; exact e4, f5⟩
    have same : ∀ q, q ∈ watch → ∃ n, setVer q n ∈ watch := fun q hq => ⟨q.ver, hq⟩
    unfold drawOps at h
    rw [bsel_eq] at h
    by_cases hwa : wantedA ops o a = true
    · rw [if_pos hwa] at h
      cases hs : stepS P rec (stpOf P o.op) a st with
      | no => rw [hs] at h; cases h
      | ok v st1 =>
        rw [hs] at h
        simp only [] at h
        cases hp : a.put o.dst v st with
        | no => rw [hp] at h; cases h
        | ok a1 st2 =>
          rw [hp] at h
          simp only [] at h
          have hp := put_st hp
          have mem : ∀ (hc : cls o.op = .acts ∨ cls o.op = .makes), (bsel (calm rec (stpOf P o.op) a st)
              (bsel (opsBelow o.op a st) (bsel (watch.all fun q => bsel (bit m q.i) true (Nat.beq q.ver ver)) (drawOps P rec ops l cl (i + 1) a1 st ver ({ i, ver, st } :: hist) watch) .no) .no)
              (bsel (opsBelow o.op a st) (bsel (nextLe st st1) (bsel (watch.all fun q => bsel (bit m q.i) true (bsel (freshB o.op q.ver ver) true (readsV P q.op q.a q.v st1)))
                (drawOps P rec ops l cl (i + 1) a1 st1 (ver + 1) ({ i, ver, st } :: hist) (watch.map fun q => bsel (freshB o.op q.ver ver) (setVer q (ver + 1)) (bsel (bit m q.i) q (setVer q (ver + 1))))) .no) .no) .no)) = Ra.ok a' st' →
              ∃ A S V, A i = a ∧ S i = st ∧ A (i + (o :: l).length) = a' ∧ S (i + (o :: l).length) = st' ∧ ∀ j o' m', (o :: l)[j]? = some o' → (m :: cl)[j]? = some m' → Fact P rec ops A S V i hist watch (i + j) o' m' := by
            intro hc h
            have hnr : cls o.op ≠ .reads := by rcases hc with hc | hc <;> rw [hc] <;> simp
            cases hcalm : calm rec (stpOf P o.op) a st with
            | true =>
              rw [hcalm, bsel_true] at h
              have := calm_st hcalm hs
              subst this
              obtain ⟨hb1, h⟩ := bsel_ne (α := Ra) h (by simp)
              obtain ⟨hb3, h⟩ := bsel_ne (α := Ra) h (by simp)
              refine wrap h (fun q hq => ?_) hW hp (fun e => by rw [hwa] at e; cases e) (fun _ => hs) (fun _ e => absurd e hnr)
                (fun _ _ => ⟨hb1, Nat.le_refl _, fun q hq => ?_⟩) (fun q hq => List.mem_cons_of_mem _ hq) (fun _ _ => ⟨ver, List.mem_cons_self ..⟩) same (fun _ e => absurd e hnr)
              · rcases List.mem_cons.1 hq with rfl | hq
                · exact ⟨Nat.le_refl _, fun _ => rfl⟩
                · exact hH q hq
              · rcases or_of_bsel (List.all_eq_true.1 hb3 q hq) with e | e
                · exact .inl e
                · exact .inr ((hW q hq).2.2 (beq_iff.1 e))
            | false =>
              rw [hcalm, bsel_false] at h
              obtain ⟨hb1, h⟩ := bsel_ne (α := Ra) h (by simp)
              obtain ⟨hb2, h⟩ := bsel_ne (α := Ra) h (by simp)
              obtain ⟨hb3, h⟩ := bsel_ne (α := Ra) h (by simp)
              have hfr : ∀ q, q ∈ watch → freshB o.op q.ver ver = true → RA P rec q.op q.a q.v st1 := fun q hq hf => by
                obtain ⟨f1, f2⟩ := freshB_ok hf
                exact RA_ext (hW q hq).1 ((hW q hq).2.2 f2) (makes_ext f1 hs)
              have hra : ∀ q, q ∈ watch → bit m q.i = true ∨ RA P rec q.op q.a q.v st1 := fun q hq => by
                rcases or_of_bsel (List.all_eq_true.1 hb3 q hq) with e | e
                · exact .inl e
                · rcases or_of_bsel e with e | e
                  · exact .inr (hfr q hq e)
                  · exact .inr (readsV_ok (hW q hq).1 e)
              refine wrap h (fun q hq => ?_) (fun q hq => ?_) hp (fun e => by rw [hwa] at e; cases e) (fun _ => hs) (fun _ e => absurd e hnr)
                (fun _ _ => ⟨hb1, nextLe_ok hb2, hra⟩) (fun q hq => List.mem_cons_of_mem _ hq) (fun _ _ => ⟨ver, List.mem_cons_self ..⟩) (fun q hq => ?_) (fun _ e => absurd e hnr)
              · rcases List.mem_cons.1 hq with rfl | hq
                · exact ⟨Nat.le_succ _, fun e => absurd e (Nat.ne_of_lt (Nat.lt_succ_self _))⟩
                · have := (hH q hq).1
                  exact ⟨by omega, fun e => by omega⟩
              · obtain ⟨p, hp1, rfl⟩ := List.mem_map.1 hq
                have := (hW p hp1).2.1
                cases hfb : freshB o.op p.ver ver with
                | true =>
                  rw [bsel_true]
                  exact ⟨(hW p hp1).1, Nat.le_refl _, fun _ => hfr p hp1 hfb⟩
                | false =>
                rw [bsel_false]
                cases hbit : bit m p.i with
                | true =>
                  rw [bsel_true]
                  exact ⟨(hW p hp1).1, by omega, fun e => by omega⟩
                | false =>
                  rw [bsel_false]
                  exact ⟨(hW p hp1).1, Nat.le_refl _, fun _ => (hra p hp1).resolve_left (by rw [hbit]; simp)⟩
              · refine ⟨(bsel (freshB o.op q.ver ver) (setVer q (ver + 1)) (bsel (bit m q.i) q (setVer q (ver + 1)))).ver, List.mem_map.2 ⟨q, hq, ?_⟩⟩
                cases freshB o.op q.ver ver <;> cases bit m q.i <;> rfl
          cases hc : cls o.op with
          | pure =>
            rw [hc] at h
            simp only [] at h
            obtain ⟨rfl, _⟩ := pure_any hc hs
            exact wrap h hH hW hp (fun e => by rw [hwa] at e; cases e) (fun _ => hs) (fun _ e => by rw [hc] at e; cases e) (fun _ e => by rcases isMem_cls e with e | e <;> rw [hc] at e <;> cases e) (fun q hq => hq)
              (fun _ e => by rcases isMem_cls e with e | e <;> rw [hc] at e <;> cases e) same (fun _ e => by rw [hc] at e; cases e)
          | reads =>
            rw [hc] at h
            simp only [] at h
            have := reads_any hc hs
            subst this
            obtain ⟨hb1, h⟩ := bsel_ne (α := Ra) h (by simp)
            obtain ⟨hb2, h⟩ := bsel_ne (α := Ra) h (by simp)
            refine wrap h hH (fun q hq => ?_) hp (fun e => by rw [hwa] at e; cases e) (fun _ => hs) (fun _ _ => ⟨hb1, fun q hq => ?_⟩) (fun _ e => by rcases isMem_cls e with e | e <;> rw [hc] at e <;> cases e) (fun q hq => hq)
              (fun _ e => by rcases isMem_cls e with e | e <;> rw [hc] at e <;> cases e) (fun q hq => ⟨q.ver, List.mem_cons_of_mem _ hq⟩) (fun _ _ => ⟨ver, List.mem_cons_self ..⟩)
            · rcases List.mem_cons.1 hq with rfl | hq
              · exact ⟨hc, Nat.le_refl _, fun _ => ⟨hb1, hs⟩⟩
              · exact hW q hq
            · rcases or_of_bsel (List.all_eq_true.1 hb2 q hq) with e | e
              · exact .inl e
              · rcases or_of_bsel e with e | e
                · have := (hH q hq).2 (beq_iff.1 e)
                  exact .inr (by rw [this]; exact ⟨hb1, hs⟩)
                · exact .inr (readsV_ok hc e)
          | makes =>
            rw [hc] at h
            exact mem (.inr hc) h
          | acts =>
            rw [hc] at h
            exact mem (.inl hc) h
    · rw [if_neg hwa] at h
      cases hp : a.put o.dst junk st with
      | no => rw [hp] at h; cases h
      | ok a1 st2 =>
        rw [hp] at h
        simp only [] at h
        exact wrap h hH hW (put_st hp) (fun _ => ⟨rfl, rfl⟩) (fun e => absurd e hwa) (fun e => absurd e hwa) (fun e => absurd e hwa) (fun q hq => hq) (fun e => absurd e hwa) same (fun e => absurd e hwa)
end
end Go.Proofs.YtolgomkmilbkgaaGreat.Ev

set_option autoImplicit false
set_option linter.unusedVariables false
set_option linter.unusedSimpArgs false
namespace Go.Proofs.YtolgomkmilbkgaaGreat.Ev
open Go

structure Tr (P : Program) (rec : Rec) (ops : Array Oper) (xs : List Inf) (A : Nat → Ac) (S : Nat → St) (V : Nat → Value) : Prop where
  R : RegionOk ops xs
  ok : OpsOk ops
  fact : ∀ k o x, ops[k]? = some o → xs[k]? = some x → Fact P rec ops A S V 0 [] [] k o x.cl

def WM (ops : Array Oper) (A : Nat → Ac) (k : Nat) : Prop := ∃ o, ops[k]? = some o ∧ wantedA ops o (A k) = true ∧ isMem o.op = true

/-- The temporaries, when the operations of D have been done. -/
def Regs0 (ops : Array Oper) (V : Nat → Value) (a0 : Ac) (D : Nat → Prop) (b : Ac) : Prop := b.n = a0.n ∧ b.defers = a0.defers ∧ ∀ t, t < 512 →
  (∀ j o, D j → ops[j]? = some o → o.dst = some t → (regAt t).g b.t = V j) ∧ ((∀ j o, D j → ops[j]? = some o → o.dst ≠ some t) → (regAt t).g b.t = (regAt t).g a0.t)

section
variable {P : Program} {rec : Rec} {ops : Array Oper} {xs : List Inf} {A : Nat → Ac} {S : Nat → St} {V : Nat → Value}

theorem mem_ops {i : Nat} {o : Oper} (h : ops[i]? = some o) : o ∈ ops.toList := by
  rw [← Array.getElem?_toList] at h
  exact List.mem_of_getElem? h

theorem Tr.op (T : Tr P rec ops xs A S V) {k : Nat} {o : Oper} (h : ops[k]? = some o) : ∃ x, xs[k]? = some x ∧ Fact P rec ops A S V 0 [] [] k o x.cl := by
  obtain ⟨x, hx, _⟩ := T.R.inf k o h
  exact ⟨x, hx, T.fact k o x h hx⟩

theorem get_op {k : Nat} (h : k < ops.size) : ∃ o, ops[k]? = some o := ⟨ops[k], by simp [h]⟩
theorem op_lt {k : Nat} {o : Oper} (h : ops[k]? = some o) : k < ops.size := (Array.getElem?_eq_some_iff.1 h).1

theorem Tr.uniq (T : Tr P rec ops xs A S V) {i j : Nat} {o o' : Oper} (hi : ops[i]? = some o) (hj : ops[j]? = some o') (hne : i ≠ j) {t : Nat} (h : o.dst = some t) : o'.dst ≠ some t := by
  intro h'
  obtain ⟨x, hx, hx2, _⟩ := T.R.inf i o hi
  obtain ⟨y, hy, hy2, _⟩ := T.R.inf j o' hj
  have h1 : x.dst.testBit t = true := by rw [(infOf_ok hx2).2.2.1]; exact (dstBit_test _ _).2 h
  have h2 : y.dst.testBit t = true := by rw [(infOf_ok hy2).2.2.1]; exact (dstBit_test _ _).2 h'
  rcases Nat.lt_or_gt_of_ne hne with hlt | hlt
  · exact T.R.uniq hx hy hlt h1 h2
  · exact T.R.uniq hy hx hlt h2 h1

theorem put_ok2 {a : Ac} {dst : Option Tmp} {v : Value} {st : St} {a' : Ac} {st' : St} (h : a.put dst v st = .ok a' st') :
    a'.n = a.n ∧ a'.defers = a.defers ∧ (dst = none → a' = a) ∧ ∀ d, dst = some d → @LT.lt Nat _ d a.n ∧ a'.t = (regAt d).s v a.t := by
  cases dst with
  | none =>
    obtain ⟨_, p1, p2, p3⟩ := Ac.put_ok h
    exact ⟨p1, p2, fun _ => p3, fun d h => by cases h⟩
  | some d =>
    obtain ⟨_, p1, p2, p3⟩ := Ac.put_ok h
    exact ⟨p1, p2, fun h => (by cases h), fun d' h => by cases h; exact p3⟩

/-- One more is done. -/
theorem Regs0.put (hok : OpsOk ops) {a0 : Ac} {D D' : Nat → Prop} {b b' : Ac} (h : Regs0 ops V a0 D b) {i : Nat} {o : Oper} (hi : ops[i]? = some o) {st st2 : St} (hp : b.put o.dst (V i) st = .ok b' st2)
    (hu : ∀ j o' t, ops[j]? = some o' → i ≠ j → o.dst = some t → o'.dst ≠ some t) (hD : ∀ k, D' k ↔ D k ∨ k = i) : Regs0 ops V a0 D' b' := by
  obtain ⟨h1, h2, h3⟩ := h
  obtain ⟨p1, p2, p3, p5⟩ := put_ok2 hp
  refine ⟨p1.trans h1, p2.trans h2, fun t ht => ?_⟩
  cases hd : o.dst with
  | none =>
    have p3 : b' = b := p3 hd
    subst p3
    refine ⟨fun j o' hj ho' hdst => ?_, fun hno => (h3 t ht).2 fun j o' hj => hno j o' ((hD j).2 (.inl hj))⟩
    rcases (hD j).1 hj with hj | rfl
    · exact (h3 t ht).1 j o' hj ho' hdst
    · rw [hi] at ho'; cases ho'; rw [hd] at hdst; cases hdst
  | some d =>
    obtain ⟨p3, p4⟩ := p5 d hd
    have hd5 : @LT.lt Nat _ d 512 := by
      have := hok.dst o (mem_ops hi)
      rw [hd] at this
      exact ble_iff.1 this
    rw [p4]
    by_cases e : t = d
    · subst e
      rw [regAt_same ht]
      refine ⟨fun j o' hj ho' hdst => ?_, fun hno => ?_⟩
      · by_cases hji : i = j
        · subst hji; rfl
        · exact absurd hdst (hu j o' t ho' hji hd)
      · exact absurd hd (hno i o ((hD i).2 (.inr rfl)) hi)
    · rw [regAt_other ht hd5 e]
      refine ⟨fun j o' hj ho' hdst => ?_, fun hno => (h3 t ht).2 fun j o' hj => hno j o' ((hD j).2 (.inl hj))⟩
      rcases (hD j).1 hj with hj | rfl
      · exact (h3 t ht).1 j o' hj ho' hdst
      · rw [hi] at ho'; cases ho'; rw [hd] at hdst; cases hdst; exact absurd rfl e

theorem Tr.canon (T : Tr P rec ops xs A S V) : ∀ k, k ≤ ops.size → Regs0 ops V (A 0) (fun j => j < k) (A k)
  | 0, _ => ⟨rfl, rfl, fun t ht => ⟨fun j o hj => absurd hj (Nat.not_lt_zero j), fun _ => rfl⟩⟩
  | k + 1, hk => by
    obtain ⟨o, ho⟩ := get_op (ops := ops) (k := k) hk
    obtain ⟨x, hx, hf⟩ := T.op ho
    exact (Tr.canon T k (by omega)).put T.ok ho hf.put (fun j o' t hj hne hd => T.uniq ho hj hne hd) (fun j => by omega)

/-- A region is looked at in the state that the list's order gives. -/
theorem Tr.look (T : Tr P rec ops xs A S V) {D : Nat → Prop} (hcl : ∀ j x, D j → xs[j]? = some x → ∀ k, x.cl.testBit k = true → D k) {b : Ac} (hb : Regs0 ops V (A 0) D b) {i : Nat} {x : Inf} (hx : xs[i]? = some x) (hni : ¬ D i)
    (hci : ∀ k, x.cl.testBit k = true → D k) (hin : ∀ j, D j → j < ops.size) {t : Nat} (ht : t < 512) (hl : x.looks.testBit t = true) : (regAt t).g b.t = (regAt t).g (A i).t := by
  have hi : i < ops.size := by rw [← T.R.len]; exact (List.getElem?_eq_some_iff.1 hx).1
  have hA := (T.canon i (by omega)).2.2 t ht
  have hB := hb.2.2 t ht
  have dbit : ∀ (j : Nat) (o : Oper), ops[j]? = some o → o.dst = some t → ∃ y : Inf, xs[j]? = some y ∧ y.dst.testBit t = true := by
    intro j o ho hd
    obtain ⟨y, hy, hy2, _⟩ := T.R.inf j o ho
    exact ⟨y, hy, by rw [(infOf_ok hy2).2.2.1]; exact (dstBit_test _ _).2 hd⟩
  by_cases hex : ∃ (j : Nat) (o : Oper), j < i ∧ ops[j]? = some o ∧ o.dst = some t
  · obtain ⟨j, o, hj, ho, hd⟩ := hex
    obtain ⟨y, hy, hyd⟩ := dbit j o ho hd
    have hDj : D j := hci j (T.R.reads hy hx hj hyd hl)
    rw [hA.1 j o hj ho hd, hB.1 j o hDj ho hd]
  · rw [hA.2 (fun j o hj ho hd => hex ⟨j, o, hj, ho, hd⟩)]
    refine hB.2 fun j o hj ho hd => ?_
    rcases Nat.lt_trichotomy j i with h | h | h
    · exact hex ⟨j, o, h, ho, hd⟩
    · subst h; exact hni hj
    · obtain ⟨y, hy, hyd⟩ := dbit j o ho hd
      exact hni (hcl j y hj hy i (T.R.writes hx hy h hl hyd))

theorem Tr.evals (T : Tr P rec ops xs A S V) {i : Nat} {o : Oper} {x : Inf} (ho : ops[i]? = some o) (hx : xs[i]? = some x) {b : Ac} (hl : ∀ t, t < 512 → x.looks.testBit t = true → (regAt t).g b.t = (regAt t).g (A i).t) :
    (∀ y, y ∈ o.op.operands.toList → evalA b y = evalA (A i) y) ∧ wantedA ops o b = wantedA ops o (A i) := by
  obtain ⟨o', ho', h1, _⟩ := T.R.op hx
  rw [ho] at ho'; cases ho'
  have hlk := (infOf_ok h1).2.1
  refine ⟨fun y hy => ?_, ?_⟩
  · cases y with
    | tmp t =>
      have ht : @LT.lt Nat _ t 512 := ble_iff.1 (T.ok.opd o (mem_ops ho) _ hy)
      show b.get t = (A i).get t
      rw [Ac.get_eq, Ac.get_eq]
      exact hl t ht (by rw [hlk, or_test, tmpBits_test _ t hy]; rfl)
    | _ => rfl
  · unfold wantedA gdOf
    cases hg : o.guard with
    | none => rfl
    | some q =>
      obtain ⟨j, want⟩ := q
      simp only []
      cases hj : ops[j]? with
      | none => rfl
      | some g =>
        simp only []
        cases hd : g.dst with
        | none => rfl
        | some d =>
          have hd5 : @LT.lt Nat _ d 512 := by
            have := T.ok.dst g (mem_ops hj)
            rw [hd] at this
            exact ble_iff.1 this
          show isBool (b.get d) want = isBool ((A i).get d) want
          rw [Ac.get_eq, Ac.get_eq, hl d hd5]
          rw [hlk, or_test]
          have : (guardBit ops o).testBit d = true := by
            unfold guardBit
            rw [hg]
            simp only [hj]
            exact (dstBit_test _ _).2 hd
          rw [this, Bool.or_true]

theorem not_mem_cls {op : Op} (h : isMem op = false) : cls op = .pure ∨ cls op = .reads := by
  unfold isMem at h
  cases hc : cls op <;> rw [hc] at h <;> simp_all

theorem Tr.still (T : Tr P rec ops xs A S V) {k : Nat} (hk : k < ops.size) (hn : ¬ WM ops A k) : S (k + 1) = S k := by
  obtain ⟨o, ho⟩ := get_op hk
  obtain ⟨x, hx, hf⟩ := T.op ho
  cases hw : wantedA ops o (A k) with
  | false => exact (hf.off hw).2
  | true =>
    cases hm : isMem o.op with
    | true => exact absurd ⟨o, ho, hw, hm⟩ hn
    | false =>
      rcases not_mem_cls hm with hc | hc
      · exact (pure_any hc (hf.on hw)).1
      · exact reads_any hc (hf.on hw)

theorem Tr.le1 (T : Tr P rec ops xs A S V) {k : Nat} (hk : k < ops.size) : (S k).next ≤ (S (k + 1)).next := by
  by_cases h : WM ops A k
  · obtain ⟨o, ho, hw, hm⟩ := h
    obtain ⟨x, hx, hf⟩ := T.op ho
    exact (hf.mm hw hm).2.1
  · rw [T.still hk h]; exact Nat.le_refl _

theorem Tr.le (T : Tr P rec ops xs A S V) {i : Nat} : ∀ j, i ≤ j → j ≤ ops.size → (S i).next ≤ (S j).next
  | 0, h, _ => by have : i = 0 := by omega
                  subst this; exact Nat.le_refl _
  | j + 1, h, hj => by
    by_cases e : i = j + 1
    · subst e; exact Nat.le_refl _
    · exact Nat.le_trans (Tr.le T j (by omega) (by omega)) (T.le1 (by omega))

/-- Where nothing worked on memory. -/
theorem Tr.stills (T : Tr P rec ops xs A S V) {i : Nat} : ∀ j, i ≤ j → j ≤ ops.size → (∀ k, i ≤ k → k < j → ¬ WM ops A k) → S j = S i
  | 0, h, _, _ => by have : i = 0 := by omega
                     subst this; rfl
  | j + 1, h, hj, hn => by
    by_cases e : i = j + 1
    · subst e; rfl
    · rw [T.still (by omega) (hn j (by omega) (by omega))]
      exact Tr.stills T j (by omega) (by omega) (fun k h1 h2 => hn k h1 (by omega))

/-- An alloc, in the list's order. -/
theorem Tr.alloc (T : Tr P rec ops xs A S V) {e : Nat} {o : Oper} (ho : ops[e]? = some o) (hw : wantedA ops o (A e) = true) {el : TypeId} (hop : o.op = .alloc el) :
    ∃ z, zeroL P el = some z ∧ V e = ptr (S e).next 0 ∧ S (e + 1) = ⟨putAt (S e).next (S e).heap (rowOf z 0 true), (S e).next + 1⟩ := by
  obtain ⟨x, hx, hf⟩ := T.op ho
  have h := hf.on hw
  rw [hop] at h
  have h : osel (zeroL P el) .no (fun z => boxK z (S e)) = .ok (V e) (S (e + 1)) := h
  obtain ⟨z, hz, h⟩ := osel_ne h Re.no_ne
  obtain ⟨h1, h2⟩ := allK_ok h
  exact ⟨z, hz, h1, h2⟩
end
end Go.Proofs.YtolgomkmilbkgaaGreat.Ev

