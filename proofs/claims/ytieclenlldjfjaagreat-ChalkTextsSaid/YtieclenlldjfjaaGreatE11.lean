import Derived.Test.YtieclenlldjfjaaGreatE10
set_option autoImplicit false
set_option linter.unusedVariables false
set_option linter.unusedSimpArgs false
namespace Go.Proofs.YtieclenlldjfjaaGreat.Ev
open Go
section
variable {P : Program} {σ : Nm} {st st' : St} {w : World}

theorem mapEntryK_ok {t : TypeId} {x x' k k' v : Value} (h : mapEntryK (mpOf P t) x k st = .ok v st') (hr : Rel σ st w) (hx : VR σ x x') (hk : VR σ k k') :
    ∃ w' v', (Instr.mapEntry t x' k').run P w = .ok v' w' ∧ VR σ v v' ∧ Rel σ st' w' ∧ Ext σ st w σ st' w' := by
  cases hm : mpOf P t with
  | no => rw [hm] at h; cases h
  | mk agg ks z =>
    rw [hm] at h
    obtain ⟨kt, e, hu, hks, rfl, hz⟩ := mpOf_ok hm
    have h : (osel (keyCells (isAggT P kt) ks k) .no fun _ =>
      match (generalizing := false) x with
      | .map (some r) => mapK (st.obj r) .no fun es clock => osel (findA (isAggT P kt) ks k es 0) .no fun q =>
          osel q (.ok (.tuple ⟨[z, .int .i64 (.ofNat clock)]⟩) (st.setObj r (.map (es ++ [{ key := k, val := z, born := clock }]) (clock + 1))))
            fun p => .ok (.tuple ⟨[p.2.val, .int .i64 (.ofNat p.2.born)]⟩) (st.setObj r (.map (setNth { key := k, val := p.2.val, born := p.2.born } es p.1) clock))
      | _ => .no) = Re.ok v st' := h
    obtain ⟨xs, hxs, h⟩ := osel_ne h Re.no_ne
    obtain ⟨z1, z2⟩ := zeroV_ok (σ := σ) hz
    have hck := fun em => keyCheck hks hk hxs em w
    cases hx with
    | map nm kk hkk =>
      obtain ⟨es, clock, ho, h⟩ := mapK_ok h Re.no_ne
      obtain ⟨q, hq, h⟩ := osel_ne h Re.no_ne
      obtain ⟨ha, es', g1, g2⟩ := hr.at hkk ho (by simp)
      have hf := run_findKey (w := w) hks hk hq g2 ⟨xs, hxs⟩
      cases q with
      | none =>
        obtain ⟨rfl, rfl⟩ := Re.ok_inj h
        refine ⟨_, _, ?_, VRL.two z2 (.int .i64 clock), hr.setMap hkk ho (g2.push (e := { key := k, val := z, born := clock }) (e' := { key := k', val := z, born := clock }) ⟨hk, z2, rfl⟩)⟩
        unfold Instr.mapEntry
        simp only [Sem.run_bind, run_underlying hu, Result.andThen_ok, run_getObj_map g1, hck, hf, z1]
        rw [run_setObj_map g1]
        simp [goInt]
      | some p =>
        obtain ⟨j, en⟩ := p
        obtain ⟨en', f1, f2, f3, f4, f5⟩ := hf
        obtain ⟨rfl, rfl⟩ := Re.ok_inj h
        have he : ER σ en en' := g2.2 j en en' f1 f2
        rw [setNth_eq]
        refine ⟨_, _, ?_, VRL.two he.2.1 (by rw [he.2.2]; exact VR.int (σ := σ) .i64 (Int.ofNat en'.born)), hr.setMap hkk ho (g2.set j (e := { key := k, val := en.val, born := en.born }) (e' := { key := k', val := en'.val, born := en'.born }) ⟨hk, he.2.1, he.2.2⟩)⟩
        unfold Instr.mapEntry
        simp only [Sem.run_bind, run_underlying hu, Result.andThen_ok, run_getObj_map g1, hck, f4]
        have hkey : ((⟨es'⟩ : Array MapEntry)[j]?.map (·.key)).getD k' = en'.key := by simp [f2]
        have hborn : ((⟨es'⟩ : Array MapEntry)[j]?.map (·.born)).getD 0 = en'.born := by simp [f2]
        simp only [hkey, hborn, Instr.keyThatStays, f5, if_true, Sem.run_pure, Result.andThen_ok]
        rw [run_setObj_map g1]
        have : (⟨es'⟩ : Array MapEntry).modify j (fun e => { e with key := k' }) = ⟨es'.set j { key := k', val := en'.val, born := en'.born }⟩ := by
          apply Array.ext'
          apply List.ext_getElem?
          intro i
          simp only [Array.toList_modify, List.getElem?_modify, List.getElem?_set]
          by_cases hij : j = i
          · subst hij
            obtain ⟨hj, hje⟩ := List.getElem?_eq_some_iff.1 f2
            simp [hj, hje]
          · simp [hij]
        rw [this]
        simp [goInt, f2, he.2.2]
    | _ => cases h

theorem bornAt_ok {n : Int} {v v' : Value} (hv : VR σ v v') : ∀ {es es' es2 : List MapEntry}, bornAt n v es = some es2 → ERL σ es es' →
    ∃ i, es'.findIdx? (fun e => (e.born : Int) == n) = some i ∧ ERL σ es2 (es'.modify i fun e => { e with val := v' })
  | [], es', es2, h, _ => by cases h
  | e :: es, [], es2, h, hl => by have := hl.1; simp at this
  | e :: es, e' :: es', es2, h, hl => by
    have h : bsel (iEq (e.born : Int) n) (some ({ e with val := v } :: es)) ((bornAt n v es).map (e :: ·)) = some es2 := h
    have he : ER σ e e' := hl.2 0 e e' rfl rfl
    have hls : ERL σ es es' := ⟨by have := hl.1; simpa using this, fun i a b ha hb => hl.2 (i + 1) a b (by simpa using ha) (by simpa using hb)⟩
    have hbb := he.2.2
    rw [iEq_eq, bsel_eq, hbb] at h
    by_cases hb : ((e'.born : Int) == n) = true
    · rw [if_pos hb] at h
      cases h
      refine ⟨0, by rw [List.findIdx?_cons, hb]; rfl, by simp [hls.1], fun i a b ha hb => ?_⟩
      cases i with
      | zero => simp at ha hb; subst ha; subst hb; exact ⟨he.1, hv, rfl⟩
      | succ i => exact hls.2 i a b (by simpa using ha) (by simpa using hb)
    · rw [if_neg hb] at h
      cases hr : bornAt n v es with
      | none => rw [hr] at h; cases h
      | some es3 =>
        rw [hr] at h
        cases h
        obtain ⟨i, h1, h2⟩ := bornAt_ok hv hr hls
        refine ⟨i + 1, by rw [List.findIdx?_cons, Bool.eq_false_iff.2 hb]; simp [h1], by simp [h2.1], fun j a b ha hb => ?_⟩
        cases j with
        | zero => simp at ha hb; subst ha; subst hb; exact he
        | succ j => exact h2.2 j a b (by simpa using ha) (by simpa using hb)

theorem entryStoreK_ok {t : TypeId} {m m' s s' v v' : Value} (h : entryStoreK m s v st = some st') (hr : Rel σ st w) (hm : VR σ m m') (hs : VR σ s s') (hv : VR σ v v') :
    ∃ w', (Instr.entryStore t m' s' v').run P w = .ok () w' ∧ Rel σ st' w' ∧ Ext σ st w σ st' w' := by
  unfold entryStoreK at h
  split at h
  · rename_i r _ n
    cases hm with
    | map nm kk hkk =>
      have := int_inv hs
      subst this
      obtain ⟨es, clock, ho, h⟩ := mapK_ok h (by simp)
      obtain ⟨es2, hb, h⟩ := osel_ne h (by simp)
      cases h
      obtain ⟨ha, es', g1, g2⟩ := hr.at hkk ho (by simp)
      obtain ⟨i, h1, h2⟩ := bornAt_ok hv hb g2
      refine ⟨_, ?_, hr.setMap hkk ho h2⟩
      unfold Instr.entryStore
      simp only [Sem.run_bind, run_getObj_map g1, Result.andThen_ok, asInt, asIntOf, Sem.run_pure, List.findIdx?_toArray, h1]
      rw [run_setObj_map g1]
      simp
  · cases h

/-- A new object of no cells. -/
theorem makeMap_ok {t : TypeId} {v : Value} (h : allK (.map [] 0) (fun nm => .map (some nm)) st = .ok v st') (hr : Rel σ st w) :
    Does P (do pure (.value (← Instr.makeMap t none))) σ st w v st' := by
  obtain ⟨rfl, rfl, hlt⟩ := allK_ok h
  obtain ⟨σ', s1, s2, s3⟩ := hr.new (o := .map [] 0) (ob := .map #[] 0) hlt (k := ⟨w.heap.size, 0, 0, 0, false⟩) rfl fun τ w' hs ht hw => ⟨[], hw, rfl, fun i e e' he => by simp at he⟩
  exact ⟨σ', _, _, .inl (by simp [Instr.makeMap, newObj]; rfl), .map _ _ s1, s2, s3⟩
end
end Go.Proofs.YtieclenlldjfjaaGreat.Ev
