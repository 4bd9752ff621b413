import Derived.Test.YtieclenlldjfjaaGreatE9
set_option autoImplicit false
set_option linter.unusedVariables false
set_option linter.unusedSimpArgs false
namespace Go.Proofs.YtieclenlldjfjaaGreat.Ev
open Go
section
variable {P : Program} {σ : Nm} {st st' : St} {w : World}

theorem mapK_ok {β : Type} {o : AObj} {no : β} {f : List MapEntry → Nat → β} {r : β} (h : mapK o no f = r) (hne : no ≠ r) : ∃ es clock, o = .map es clock ∧ f es clock = r := by
  cases o with
  | map es clock => exact ⟨es, clock, rfl, h⟩
  | _ => exact absurd h hne

theorem mpOf_ok {t : TypeId} {agg : Bool} {ks : List Nat} {z : Value} (h : mpOf P t = .mk agg ks z) : ∃ kt e, P.underlying t = some (.map kt e) ∧ flatKs P 20 kt = some ks ∧ agg = isAggT P kt ∧ zeroV P e = some z := by
  unfold mpOf at h
  split at h
  · rename_i kt e hu
    obtain ⟨ks', hk, h⟩ := osel_ne h (by simp)
    obtain ⟨z', hz, h⟩ := osel_ne h (by simp)
    cases h
    exact ⟨kt, e, hu, hk, rfl, hz⟩
  · cases h

theorem run_getObj_map {r : Nat} {es : Array MapEntry} {clock : Nat} (h : w.heap[r]? = some (.map es clock)) : (getObj r).run P w = .ok (.map es clock) w := by
  simp [getObj, Sem.run, h]

theorem run_setObj_map {r : Nat} {es : Array MapEntry} {clock : Nat} (h : w.heap[r]? = some (.map es clock)) (o : Obj) : (setObj r o).run P w = .ok () { w with heap := w.heap.setIfInBounds r o } := by
  simp [setObj, Sem.run, h]

theorem okV_rel {ok : Bool} {v v' : Value} (h : VR σ v v') (b : Bool) : VR σ (okV ok v b) (if ok then .tuple #[v', .bool b] else v') := by
  cases ok
  · exact h
  · exact VRL.two h (.bool b)

theorem keyCheck {kt : TypeId} {ks : List Nat} (hks : flatKs P 20 kt = some ks) {k k' : Value} (hk : VR σ k k') {xs : List Value} (h : keyCells (isAggT P kt) ks k = some xs) (em : Bool) (w : World) :
    (Instr.checkKey em 10000 kt k').run P w = .ok () w := by
  obtain ⟨xs', _, x2⟩ := keyCells_ok h hk
  rw [isAggT_ok hks x2]
  exact run_checkKey_flat em 20 kt ks hks 10000 (by omega) xs' w x2.1

theorem lookupK_ok {t : TypeId} {x x' k k' v : Value} {ok : Bool} (h : lookupK (mpOf P t) x k ok st = some v) (hr : Rel σ st w) (hx : VR σ x x') (hk : VR σ k k') :
    Gives P (Instr.lookup t x' k' ok) σ w v := by
  cases hm : mpOf P t with
  | no => rw [hm] at h; cases h
  | mk agg ks z =>
    rw [hm] at h
    obtain ⟨kt, e, hu, hks, rfl, hz⟩ := mpOf_ok hm
    have h : (osel (keyCells (isAggT P kt) ks k) none fun _ =>
      match x with
      | .map none => some (okV ok z false)
      | .map (some r) => mapK (st.obj r) none fun es _ => osel (findA (isAggT P kt) ks k es 0) none fun q => osel q (some (okV ok z false)) fun p => some (okV ok p.2.val true)
      | _ => none) = some v := h
    obtain ⟨xs, hxs, h⟩ := osel_ne h (by simp)
    obtain ⟨z1, z2⟩ := zeroV_ok (σ := σ) hz
    have hck := fun em => keyCheck hks hk hxs em w
    cases hx with
    | nilmap =>
      cases h
      refine ⟨_, ?_, okV_rel z2 false⟩
      unfold Instr.lookup
      simp only [Sem.run_bind, run_underlying hu, Result.andThen_ok, Sem.run_pure, hck]
      have : (Instr.findKey kt k' (#[] : Array MapEntry).toList).run P w = .ok none w := run_findKey hks hk (es := []) (es' := []) (r := none) rfl ⟨rfl, fun i e e' he => by simp at he⟩ ⟨xs, hxs⟩
      simp only [this, Result.andThen_ok, Sem.run_bind, z1, Sem.run_pure]
    | map nm kk hkk =>
      obtain ⟨es, clock, ho, h⟩ := mapK_ok h (by simp)
      obtain ⟨q, hq, h⟩ := osel_ne h (by simp)
      obtain ⟨ha, es', g1, g2⟩ := hr.at hkk ho (by simp)
      have hf := run_findKey (w := w) hks hk hq g2 ⟨xs, hxs⟩
      cases q with
      | none =>
        cases h
        refine ⟨_, ?_, okV_rel z2 false⟩
        unfold Instr.lookup
        simp only [Sem.run_bind, run_underlying hu, Result.andThen_ok, Sem.run_pure, run_getObj_map g1, hck]
        simp only [hf, Result.andThen_ok, Sem.run_bind, z1, Sem.run_pure]
      | some p =>
        obtain ⟨j, en⟩ := p
        obtain ⟨en', f1, f2, f3, f4, f5⟩ := hf
        cases h
        have he : ER σ en en' := g2.2 j en en' f1 f2
        refine ⟨_, ?_, okV_rel he.2.1 true⟩
        unfold Instr.lookup
        simp only [Sem.run_bind, run_underlying hu, Result.andThen_ok, Sem.run_pure, run_getObj_map g1, hck]
        simp only [f4, Result.andThen_ok, Sem.run_bind, Sem.run_pure]
    | _ => cases h

theorem setNth_eq (e : MapEntry) : ∀ (es : List MapEntry) (i : Nat), setNth e es i = es.set i e
  | [], i => rfl
  | x :: es, 0 => rfl
  | x :: es, i + 1 => by show x :: setNth e es i = _; rw [setNth_eq e es i]; rfl

theorem ERL.set {es es' : List MapEntry} (h : ERL σ es es') (i : Nat) {e e' : MapEntry} (he : ER σ e e') : ERL σ (es.set i e) (es'.set i e') := by
  refine ⟨by simp [h.1], fun j a b ha hb => ?_⟩
  rw [List.getElem?_set] at ha hb
  by_cases hij : i = j
  · rw [if_pos hij] at ha hb
    split at ha
    · split at hb
      · cases ha; cases hb; exact he
      · cases hb
    · cases ha
  · rw [if_neg hij] at ha hb
    exact h.2 j a b ha hb

theorem ERL.push {es es' : List MapEntry} (h : ERL σ es es') {e e' : MapEntry} (he : ER σ e e') : ERL σ (es ++ [e]) (es' ++ [e']) := by
  refine ⟨by simp [h.1], fun j a b ha hb => ?_⟩
  by_cases hj : j < es.length
  · rw [List.getElem?_append_left hj] at ha
    rw [List.getElem?_append_left (by rw [← h.1]; exact hj)] at hb
    exact h.2 j a b ha hb
  · rw [List.getElem?_append_right (by omega)] at ha
    rw [List.getElem?_append_right (by rw [← h.1]; omega), ← h.1] at hb
    cases hjj : j - es.length with
    | zero => rw [hjj] at ha hb; cases ha; cases hb; exact he
    | succ n => rw [hjj] at ha; cases ha

/-- A map written, in both states. -/
theorem Rel.setMap (hr : Rel σ st w) {nm : Nat} {k : Blk} (hk : σ nm = some k) {es : List MapEntry} {clock : Nat} (ho : st.obj nm = .map es clock) {es1 es2 : List MapEntry} {clock' : Nat} (he : ERL σ es1 es2) :
    Rel σ (st.setObj nm (.map es1 clock')) { w with heap := w.heap.setIfInBounds k.b (.map ⟨es2⟩ clock') } ∧ Ext σ st w σ (st.setObj nm (.map es1 clock')) { w with heap := w.heap.setIfInBounds k.b (.map ⟨es2⟩ clock') } := by
  obtain ⟨ha, es', g1, g2⟩ := hr.at hk ho (by simp)
  have hb := hr.bound nm k hk
  refine hr.upd ha hk (by simp) (fun b hb => by simp [Array.getElem?_setIfInBounds_ne (Ne.symm hb)]) ⟨es2, by simp [hb], he⟩ rfl rfl rfl

theorem mapSetK_ok {t : TypeId} {x x' k k' v v' : Value} (h : mapSetK (mpOf P t) x k v st = some st') (hr : Rel σ st w) (hx : VR σ x x') (hk : VR σ k k') (hv : VR σ v v') :
    ∃ w', (Instr.mapUpdate t x' k' v').run P w = .ok () w' ∧ Rel σ st' w' ∧ Ext σ st w σ st' w' := by
  cases hm : mpOf P t with
  | no => rw [hm] at h; cases h
  | mk agg ks z =>
    rw [hm] at h
    obtain ⟨kt, e, hu, hks, rfl, hz⟩ := mpOf_ok hm
    have h : (osel (keyCells (isAggT P kt) ks k) none fun _ =>
      match x with
      | .map (some r) => mapK (st.obj r) none fun es clock => osel (findA (isAggT P kt) ks k es 0) none fun q =>
          osel q (some (st.setObj r (.map (es ++ [{ key := k, val := v, born := clock }]) (clock + 1)))) fun p => some (st.setObj r (.map (setNth { key := k, val := v, born := p.2.born } es p.1) clock))
      | _ => none) = some st' := h
    obtain ⟨xs, hxs, h⟩ := osel_ne h (by simp)
    have hck := fun em => keyCheck hks hk hxs em w
    cases hx with
    | map nm kk hkk =>
      obtain ⟨es, clock, ho, h⟩ := mapK_ok h (by simp)
      obtain ⟨q, hq, h⟩ := osel_ne h (by simp)
      obtain ⟨ha, es', g1, g2⟩ := hr.at hkk ho (by simp)
      have hf := run_findKey (w := w) hks hk hq g2 ⟨xs, hxs⟩
      cases q with
      | none =>
        cases h
        refine ⟨_, ?_, hr.setMap hkk ho (g2.push (e := { key := k, val := v, born := clock }) (e' := { key := k', val := v', born := clock }) ⟨hk, hv, rfl⟩)⟩
        unfold Instr.mapUpdate
        simp only [Sem.run_bind, run_underlying hu, Result.andThen_ok, run_getObj_map g1, hck, hf]
        rw [run_setObj_map g1]
        simp
      | some p =>
        obtain ⟨j, en⟩ := p
        obtain ⟨en', f1, f2, f3, f4, f5⟩ := hf
        cases h
        have he : ER σ en en' := g2.2 j en en' f1 f2
        rw [setNth_eq]
        refine ⟨_, ?_, hr.setMap hkk ho (g2.set j (e := { key := k, val := v, born := en.born }) (e' := { key := k', val := v', born := en'.born }) ⟨hk, hv, he.2.2⟩)⟩
        unfold Instr.mapUpdate
        simp only [Sem.run_bind, run_underlying hu, Result.andThen_ok, run_getObj_map g1, hck, f4]
        have hkey : ((⟨es'⟩ : Array MapEntry)[j]?.map (·.key)).getD k' = en'.key := by simp [f2]
        simp only [hkey, Instr.keyThatStays, f5, if_true, Sem.run_pure, Result.andThen_ok]
        rw [run_setObj_map g1]
        congr 4
        apply Array.ext'
        apply List.ext_getElem?
        intro i
        simp only [Array.toList_modify, List.getElem?_modify, List.getElem?_set]
        by_cases hij : j = i
        · subst hij
          simp [f2]
          have := (List.getElem?_eq_some_iff.1 f2).1
          simp [this]
        · simp [hij]
    | _ => cases h
end
end Go.Proofs.YtieclenlldjfjaaGreat.Ev
