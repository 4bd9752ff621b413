import Derived.Test.YtieclenlldjfjaaGreatE17
set_option autoImplicit false
set_option linter.unusedVariables false
set_option linter.unusedSimpArgs false
namespace Go.Proofs.YtieclenlldjfjaaGreat.Ev
open Go
section
variable {P : Program} {rec : Rec} {σ : Nm} {st st' : St} {w : World}

/-! ## Loops over functions -/
theorem Rel.loopAt (hr : Rel σ st w) {nm : Nat} {k : Blk} (hk : σ nm = some k) {s : LoopState} {p : Option Code} {n : Nat} {t : Regs} {ps : Array Tmp} {as bo : Code} {df : Nat} (ho : st.obj nm = .loop s p n t ps as bo df) :
    ∃ lp, w.heap[k.b]? = some (.loop lp) ∧ LR σ s p n t ps as bo df lp ∧
      ∀ s' p', Rel σ (st.setObj nm (.loop s' p' n t ps as bo df)) { w with heap := w.heap.setIfInBounds k.b (.loop { lp with state := s', pending := p' }) } ∧
        Ext σ st w σ (st.setObj nm (.loop s' p' n t ps as bo df)) { w with heap := w.heap.setIfInBounds k.b (.loop { lp with state := s', pending := p' }) } := by
  obtain ⟨ha, lp, g1, g2⟩ := hr.at hk ho (by simp)
  refine ⟨lp, g1, g2, fun s' p' => ?_⟩
  have hb := hr.bound nm k hk
  obtain ⟨h1, h2, h3, h4, h5, h6, h7⟩ := g2
  exact hr.upd ha hk (by simp) (fun b hb => by simp [Array.getElem?_setIfInBounds_ne (Ne.symm hb)]) ⟨{ lp with state := s', pending := p' }, by simp [hb], rfl, rfl, h3, h4, h5, h6, h7⟩ rfl rfl rfl

theorem run_getLoop {l : Nat} {lp : Loop} (h : w.heap[l]? = some (.loop lp)) : (Instr.getLoop l).run P w = .ok lp w := by
  simp [Instr.getLoop, getObj, Sem.run, h]

theorem run_setLoop {l : Nat} {lp : Loop} (h : w.heap[l]? = some (.loop lp)) (o : Obj) : (setObj l o).run P w = .ok () { w with heap := w.heap.setIfInBounds l o } := by
  simp [setObj, Sem.run, h]

theorem TR.set {n : Nat} {t : Regs} {tmps : Array Value} (h : TR σ n t tmps) {d : Nat} {v v' : Value} (hd : d < n) (hv : VR σ v v') : TR σ n ((regAt d).s v t) (tmps.setIfInBounds d v') := by
  obtain ⟨g1, g2, g3⟩ := h
  have hd5 : d < 512 := Nat.lt_of_lt_of_le hd g1
  refine ⟨g1, by simp [g2], fun i hi => ?_⟩
  by_cases e : i = d
  · subst e
    rw [regAt_same hi]
    have : i < tmps.size := by rw [g2]; exact hd
    simpa [this] using hv
  · rw [regAt_other hi hd5 e]
    have := g3 i hi
    simpa [Array.getElem?_setIfInBounds_ne (Ne.symm e)] using this

theorem setAll_ok {n : Nat} : ∀ {ps : List Tmp} {args args' : List Value} {t t2 : Regs} {tmps : Array Value}, setAll n ps args t = some t2 → VRL σ args args' → TR σ n t tmps →
    ps.length = args'.length ∧ TR σ n t2 ((ps.zip args').foldl (fun tmps (q : Tmp × Value) => tmps.setIfInBounds q.1 q.2) tmps)
  | [], [], args', t, t2, tmps, h, ha, ht => by
    have h : some t = some t2 := h
    cases h
    have := ha.nil_inv; subst this
    exact ⟨rfl, ht⟩
  | [], _ :: _, args', t, t2, tmps, h, ha, ht => by cases h
  | _ :: _, [], args', t, t2, tmps, h, ha, ht => by cases h
  | d :: ps, v :: args, args', t, t2, tmps, h, ha, ht => by
    obtain ⟨v', as', rfl, h1, h2⟩ := ha.cons_inv
    have h : bsel (Nat.ble (Nat.succ d) n) (setAll n ps args ((regAt d).s v t)) none = some t2 := h
    obtain ⟨hd, h⟩ := bsel_ne h (by simp)
    have hd : @LT.lt Nat _ d n := ble_iff.1 hd
    obtain ⟨e1, e2⟩ := setAll_ok h h2 (ht.set hd h1)
    exact ⟨by simp [e1], e2⟩

theorem jumpOf_none {x : Xit} (h : jumpOf x = none) : x = .normal := by cases x <;> first | rfl | cases h

theorem end_ok {l : Nat} {k : Blk} (hk : σ l = some k) (hr : Rel σ st w) {s : LoopState} {p : Option Code} {n : Nat} {t : Regs} {ps : Array Tmp} {as bo : Code} {df : Nat} (ho : st.obj l = .loop s p n t ps as bo df) (j : Option Code) :
    ∃ w', (Instr.endRound k.b j).run P w = .ok (.bool j.isNone) w' ∧ Rel σ (st.setObj l (.loop (if j.isNone then .ready else .done) j n t ps as bo df)) w' ∧ Ext σ st w σ (st.setObj l (.loop (if j.isNone then .ready else .done) j n t ps as bo df)) w' := by
  obtain ⟨lp, g1, g2, g3⟩ := hr.loopAt hk ho
  obtain ⟨r1, x1⟩ := g3 (if j.isNone then .ready else .done) j
  refine ⟨_, ?_, r1, x1⟩
  unfold Instr.endRound
  rw [Sem.run_bind, run_getLoop g1, Result.andThen_ok, Sem.run_bind, run_setLoop g1, Result.andThen_ok]
  rfl

theorem yield_ok (hrec : CodeOk P rec) {l : Nat} {k : Blk} (hk : σ l = some k) {args args' : List Value} {v : Value} (h : yieldF rec l args st = .ok v st') (hr : Rel σ st w) (ha : VRL σ args args') (n : Nat) (ro : Option Nat) :
    ∃ f tmps as bo, (Instr.yield k.b ⟨args'⟩).run P w = .ok (.round k.b f tmps as bo) w ∧ RoundIn (Fr ro) n P k.b f tmps as bo w (Ends σ st w v st') := by
  unfold yieldF at h
  split at h
  · rename_i s p m t ps as bo df ho
    obtain ⟨t2, ht2, h⟩ := osel_ne h Re.no_ne
    obtain ⟨lp, g1, ⟨e1, e2, e3, e4, e5, e6, e7⟩, g3⟩ := hr.loopAt hk ho
    obtain ⟨s1, s2⟩ := setAll_ok ht2 ha e3
    refine ⟨lp.fn, (ps.zip ⟨args'⟩).foldl (fun tmps (q : Tmp × Value) => tmps.setIfInBounds q.1 q.2) lp.tmps, as, bo, ?_, roundIn_of_wpIn trivial ?_⟩
    · unfold Instr.yield
      rw [Sem.run_bind, run_getLoop g1, Result.andThen_ok]
      have hsz : ¬ ((⟨args'⟩ : Array Value).size ≠ lp.params.size) := by rw [e4]; simp [← s1]
      rw [if_neg hsz, e4, e5, e6]
      rfl
    · have hfold : (ps.zip ⟨args'⟩).foldl (fun tmps (q : Tmp × Value) => tmps.setIfInBounds q.1 q.2) lp.tmps = (ps.toList.zip args').foldl (fun tmps (q : Tmp × Value) => tmps.setIfInBounds q.1 q.2) lp.tmps := by
        rw [← Array.foldl_toList, Array.toList_zip]
      rw [hfold]
      cases hra : rec as (some l) ⟨m, t2, []⟩ st with
      | no => rw [hra] at h; cases h
      | ok x a1 st1 =>
        rw [hra] at h
        have hA : AR σ ⟨m, t2, []⟩ { tmps := (ps.toList.zip args').foldl (fun tmps (q : Tmp × Value) => tmps.setIfInBounds q.1 q.2) lp.tmps, defers := [] } := ⟨s2, rfl, fun i nm f h => by simp at h⟩
        show as.wpIn (Fr (some k.b)) n P _ _ w
        refine hrec.code as (some l) _ st x a1 st1 hra σ w _ (some k.b) hr hA ⟨k, hk, rfl⟩ n _ fun σ1 w1 act1 r1 a1r x1 => ?_
        cases x with
        | exit id => cases h
        | goto id => cases h
        | ret => cases h
        | normal =>
          have h : (match st1.obj l with
            | .loop .ready pend n t ps as bo' df => yieldEnd l (rec bo (some l) a1 (st1.setObj l (.loop .busy pend n t ps as bo' df)))
            | _ => .no) = Re.ok v st' := h
          split at h
          · rename_i pend n2 t3 ps2 as2 bo2 df2 ho1
            have hk1 := x1.sub l k hk
            obtain ⟨lp1, q1, ⟨f1, f2, _⟩, q3⟩ := r1.loopAt hk1 ho1
            obtain ⟨r2, x2⟩ := q3 .busy pend
            cases hrb : rec bo (some l) a1 (st1.setObj l (.loop .busy pend n2 t3 ps2 as2 bo2 df2)) with
            | no => rw [hrb] at h; cases h
            | ok x3 a3 st3 =>
              rw [hrb] at h
              refine ⟨{ w1 with heap := w1.heap.setIfInBounds k.b (.loop { lp1 with state := .busy, pending := pend }) }, ?_, ?_⟩
              · unfold Instr.beginRound
                rw [Sem.run_bind, run_getLoop q1, Result.andThen_ok, Sem.run_bind, run_setLoop q1, Result.andThen_ok, f1]
                have : ({ lp1 with state := .busy } : Loop) = { lp1 with state := .busy, pending := pend } := by rw [← f2]
                rw [this]; rfl
              · show bo.wpIn (Fr (some k.b)) n P _ _ _
                refine hrec.code bo (some l) a1 _ x3 a3 st3 hrb σ1 _ act1 (some k.b) r2 a1r ⟨k, hk1, rfl⟩ n _ fun σ3 w3 act3 r3 a3r x3e => ?_
                have hk3 := x3e.sub l k hk1
                have h : (match st3.obj l with
                  | .loop _ _ n t ps as bo df => osel (jumpOf x3) (.ok (.bool true) (st3.setObj l (.loop .ready none n t ps as bo df))) fun j => .ok (.bool false) (st3.setObj l (.loop .done (some j) n t ps as bo df))
                  | _ => .no) = Re.ok v st' := h
                split at h
                · rename_i s4 p4 n4 t4 ps4 as4 bo4 df4 ho4
                  have hE := fun j => end_ok (P := P) hk3 r3 ho4 j
                  have fin : ∀ j, Re.ok (.bool j.isNone) (st3.setObj l (.loop (if j.isNone then .ready else .done) j n4 t4 ps4 as4 bo4 df4)) = Re.ok v st' → ∃ u w', (Instr.endRound k.b j).run P w3 = .ok u w' ∧ Ends σ st w v st' (.returned u) w' := by
                    intro j hj
                    obtain ⟨rfl, rfl⟩ := Re.ok_inj hj
                    obtain ⟨w', z1, z2, z3⟩ := hE j
                    exact ⟨_, w', z1, σ3, _, rfl, .bool _, z2, ((x1.trans x2).trans x3e).trans z3⟩
                  cases x3 with
                  | normal => exact fin none h
                  | ret => exact fin (some .ret) h
                  | exit id => exact fin (some (.exit id)) h
                  | goto id => exact fin (some (.goto id)) h
                · cases h
          · cases h
  · cases h

/-! ## Steps -/
theorem invoke_func {k : FuncId} {fn : Func} {c : Code} (hf : P.funcs[k]? = some fn) (hb : fn.body = some c) (hn : (fn.name == "runtime.NumGoroutine") = false) (as xs bs : Array Value) (w : World) :
    ((do let d ← Deferred.ofValue (.func (.func k) as bs) xs; invoke d.target d.args) : Sem Next).run P w = .ok (.enter k (as ++ xs ++ bs)) w := by
  simp [Deferred.ofValue, invoke, callFunc, hf, hb, beq_eq_false_iff_ne.1 hn]

theorem invoke_yield {l : Nat} (xs : Array Value) (w : World) :
    ((do let d ← Deferred.ofValue (.func (.yield l) #[] #[]) xs; invoke d.target d.args) : Sem Next).run P w = (Instr.yield l xs).run P w := by
  simp [Deferred.ofValue, invoke]

theorem callV_ok (hrec : CodeOk P rec) {fv fv' : Value} {args args' : List Value} {v : Value} (h : callV P rec fv args st = .ok v st') (hr : Rel σ st w) (hf : VR σ fv fv') (ha : VRL σ args args')
    (n : Nat) (ro : Option Nat) {o : Oper} {act : Act} {next : Act → World → Prop} {Q : Exit → Act → World → Prop} (hnext : ∀ σ' w' v', VR σ' v v' → Rel σ' st' w' → Ext σ st w σ' st' w' → next (act.put o.dst v') w') :
    o.uponIn (Fr ro) n P act next Q (((do let d ← Deferred.ofValue fv' ⟨args'⟩; invoke d.target d.args) : Sem Next).run P w) := by
  unfold callV at h
  split at h
  · rename_i k first cap
    generalize hv : Value.func (.func k) first cap = u at hf
    cases hf with
    | func f as as' bs bs' h1 h2 h3 h4 =>
      cases hv
      have hfe : ∃ c m fn, feOf P k = .mk c m fn := by
        unfold callF at h
        cases hfe : feOf P k with
        | no => rw [hfe] at h; cases h
        | mk c m fn => exact ⟨c, m, fn, rfl⟩
      obtain ⟨c, m, fn, hfe⟩ := hfe
      obtain ⟨hfn, hb, hname, _⟩ := feOf_ok hfe
      rw [invoke_func hfn hb hname]
      rw [Oper.uponIn_enter]
      refine ⟨(fun h => nomatch h), ?_⟩
      have hl : VRL σ (as ++ args ++ bs) (as' ++ args' ++ bs') := (VRL.append ⟨h1, h2⟩ ha).append ⟨h3, h4⟩
      have := callF_ok hrec h hr hl (n - 1) ro
      have e : (⟨as'⟩ ++ ⟨args'⟩ ++ ⟨bs'⟩ : Array Value) = ⟨as' ++ args' ++ bs'⟩ := by simp
      rw [e]
      refine CallsIn.mono this fun e w' he => ?_
      obtain ⟨σ', v', rfl, g1, g2, g3⟩ := he
      exact hnext σ' w' v' g1 g2 g3
    | _ => cases hv
  · rename_i l first cap
    generalize hv : Value.func (.yield l) first cap = u at hf
    cases hf with
    | yield l' k hk =>
      cases hv
      rw [invoke_yield]
      have h : yieldF rec l args st = .ok v st' := by simpa using h
      obtain ⟨f, tmps, as, bo, g1, g2⟩ := yield_ok hrec hk h hr ha (n - 1) ro
      rw [g1, Oper.uponIn_round]
      refine ⟨(fun h => nomatch h), RoundIn.mono g2 fun e w' he => ?_⟩
      obtain ⟨σ', v', rfl, g1, g2, g3⟩ := he
      exact hnext σ' w' v' g1 g2 g3
    | _ => cases hv
  · cases h
end
end Go.Proofs.YtieclenlldjfjaaGreat.Ev
