import Derived.Test.YtieclenlldjfjaaGreatE17
set_option autoImplicit false
set_option linter.unusedVariables false
set_option linter.unusedSimpArgs false
namespace Go.Proofs.YtieclenlldjfjaaGreat.Ev
open Go
section
variable {P : Program} {rec : Rec} {σ : Nm} {st st' : St} {w : World}

/-! ## Loops over functions -/
theorem Rel.loopAt (hr : Rel σ st w) {nm : Nat} {k : Blk} (hk : σ nm = some k) {s : LoopState} {p : Option Code} {n : Nat} {t : Regs} {ps : Array Tmp} {as bo : Code} {df : Nat} (ho : st.obj nm = .loop s p n t ps as bo df) :
    ∃ lp, w.heap[k.b]? = some (.loop lp) ∧ LR σ s p n t ps as bo df lp ∧
      ∀ s' p', Rel σ (st.setObj nm (.loop s' p' n t ps as bo df)) { w with heap := w.heap.setIfInBounds k.b (.loop { lp with state := s', pending := p' }) } ∧
        Ext σ st w σ (st.setObj nm (.loop s' p' n t ps as bo df)) { w with heap := w.heap.setIfInBounds k.b (.loop { lp with state := s', pending := p' }) } := by
  obtain ⟨ha, lp, g1, g2⟩ := hr.at hk ho (by simp)
  refine ⟨lp, g1, g2, fun s' p' => ?_⟩
  have hb := hr.bound nm k hk
  obtain ⟨h1, h2, h3, h4, h5, h6, h7⟩ := g2
  exact hr.upd ha hk (by simp) (fun b hb => by simp [Array.getElem?_setIfInBounds_ne (Ne.symm hb)]) ⟨{ lp with state := s', pending := p' }, by simp [hb], rfl, rfl, h3, h4, h5, h6, h7⟩ rfl rfl rfl

theorem run_getLoop {l : Nat} {lp : Loop} (h : w.heap[l]? = some (.loop lp)) : (Instr.getLoop l).run P w = .ok lp w := by
  simp [Instr.getLoop, getObj, Sem.run, h]

theorem run_setLoop {l : Nat} {lp : Loop} (h : w.heap[l]? = some (.loop lp)) (o : Obj) : (setObj l o).run P w = .ok () { w with heap := w.heap.setIfInBounds l o } := by
  simp [setObj, Sem.run, h]

theorem TR.set {n : Nat} {t : Regs} {tmps : Array Value} (h : TR σ n t tmps) {d : Nat} {v v' : Value} (hd : d < n) (hv : VR σ v v') : TR σ n ((regAt d).s v t) (tmps.setIfInBounds d v') := by
  obtain ⟨g1, g2, g3⟩ := h
  have hd5 : d < 512 := Nat.lt_of_lt_of_le hd g1
  refine ⟨g1, by simp [g2], fun i hi => ?_⟩
  by_cases e : i = d
  · subst e
    rw [regAt_same hi]
    have : i < tmps.size := by rw [g2]; exact hd
    simpa [this] using hv
  · rw [regAt_other hi hd5 e]
    have := g3 i hi
    simpa [Array.getElem?_setIfInBounds_ne (Ne.symm e)] using this

theorem setAll_ok {n : Nat} : ∀ {ps : List Tmp} {args args' : List Value} {t t2 : Regs} {tmps : Array Value}, setAll n ps args t = some t2 → VRL σ args args' → TR σ n t tmps →
    ps.length = args'.length ∧ TR σ n t2 ((ps.zip args').foldl (fun tmps (q : Tmp × Value) => tmps.setIfInBounds q.1 q.2) tmps)
  | [], [], args', t, t2, tmps, h, ha, ht => by
    have h : some t = some t2 := h
    cases h
    have := ha.nil_inv; subst this
    exact ⟨rfl, ht⟩
  | [], _ :: _, args', t, t2, tmps, h, ha, ht => by cases h
  | _ :: _, [], args', t, t2, tmps, h, ha, ht => by cases h
  | d :: ps, v :: args, args', t, t2, tmps, h, ha, ht => by
    obtain ⟨v', as', rfl, h1, h2⟩ := ha.cons_inv
    have h : bsel (Nat.ble (Nat.succ d) n) (setAll n ps args ((regAt d).s v t)) none = some t2 := h
    obtain ⟨hd, h⟩ := bsel_ne h (by simp)
    have hd : @LT.lt Nat _ d n := ble_iff.1 hd
    obtain ⟨e1, e2⟩ := setAll_ok h h2 (ht.set hd h1)
    exact ⟨by simp [e1], e2⟩

theorem jumpOf_none {x : Xit} (h : jumpOf x = none) : x = .normal := by cases x <;> first | rfl | cases h

theorem end_ok {l : Nat} {k : Blk} (hk : σ l = some k) (hr : Rel σ st w) {s : LoopState} {p : Option Code} {n : Nat} {t : Regs} {ps : Array Tmp} {as bo : Code} {df : Nat} (ho : st.obj l = .loop s p n t ps as bo df) (j : Option Code) :
    ∃ w', (Instr.endRound k.b j).run P w = .ok (.bool j.isNone) w' ∧ Rel σ (st.setObj l (.loop (if j.isNone then .ready else .done) j n t ps as bo df)) w' ∧ Ext σ st w σ (st.setObj l (.loop (if j.isNone then .ready else .done) j n t ps as bo df)) w' := by
  obtain ⟨lp, g1, g2, g3⟩ := hr.loopAt hk ho
  obtain ⟨r1, x1⟩ := g3 (if j.isNone then .ready else .done) j
  refine ⟨_, ?_, r1, x1⟩
  unfold Instr.endRound
  rw [Sem.run_bind, run_getLoop g1, Result.andThen_ok, Sem.run_bind, run_setLoop g1, Result.andThen_ok]
  rfl

theorem yield_ok (hrec : CodeOk P rec) {l : Nat} {k : Blk} (hk : σ l = some k) {args args' : List Value} {v : Value} (h : yieldF rec l args st = .ok v st') (hr : Rel σ st w) (ha : VRL σ args args') (n : Nat) (ro : Option Nat) :
    ∃ f tmps as bo, (Instr.yield k.b ⟨args'⟩).run P w = .ok (.round k.b f tmps as bo) w ∧ RoundIn (Fr ro) n P k.b f tmps as bo w (Ends σ st w v st') := by
  unfold yieldF at h
  split at h
  · rename_i s p m t ps as bo df ho
    obtain ⟨t2, ht2, h⟩ := osel_ne h Re.no_ne
    obtain ⟨lp, g1, ⟨e1, e2, e3, e4, e5, e6, e7⟩, g3⟩ := hr.loopAt hk ho
    obtain ⟨s1, s2⟩ := setAll_ok ht2 ha e3
    refine ⟨lp.fn, (ps.zip ⟨args'⟩).foldl (fun tmps (q : Tmp × Value) => tmps.setIfInBounds q.1 q.2) lp.tmps, as, bo, ?_, roundIn_of_wpIn trivial ?_⟩
    · unfold Instr.yield
      rw [Sem.run_bind, run_getLoop g1, Result.andThen_ok]
      have hsz : ¬ ((⟨args'⟩ : Array Value).size ≠ lp.params.size) := by rw [e4]; simp [← s1]
      rw [if_neg hsz, e4, e5, e6]
      rfl
    · have hfold : (ps.zip ⟨args'⟩).foldl (fun tmps (q : Tmp × Value) => tmps.setIfInBounds q.1 q.2) lp.tmps = (ps.toList.zip args').foldl (fun tmps (q : Tmp × Value) => tmps.setIfInBounds q.1 q.2) lp.tmps := by
        rw [← Array.foldl_toList, Array.toList_zip]
      rw [hfold]
      cases hra : rec as (some l) ⟨m, t2, []⟩ st with
      | no => rw [hra] at h; cases h
      | ok x a1 st1 =>
        rw [hra] at h
        have hA : AR σ ⟨m, t2, []⟩ { tmps := (ps.toList.zip args').foldl (fun tmps (q : Tmp × Value) => tmps.setIfInBounds q.1 q.2) lp.tmps, defers := [] } := ⟨s2, rfl, fun i nm f h => by simp at h⟩
        show as.wpIn (Fr (some k.b)) n P _ _ w
        refine hrec.code as (some l) _ st x a1 st1 hra σ w _ (some k.b) hr hA ⟨k, hk, rfl⟩ n _ fun σ1 w1 act1 r1 a1r x1 => ?_
        cases x with
        | exit id => cases h
        | goto id => cases h
        | ret => cases h
        | normal =>
          have h : (match st1.obj l with
            | .loop .ready pend n t ps as bo' df => yieldEnd l (rec bo (some l) a1 (st1.setObj l (.loop .busy pend n t ps as bo' df)))
            | _ => .no) = Re.ok v st' := h
          split at h
          · rename_i pend n2 t3 ps2 as2 bo2 df2 ho1
            have hk1 := x1.sub l k hk
            obtain ⟨lp1, q1, ⟨f1, f2, _⟩, q3⟩ := r1.loopAt hk1 ho1
            obtain ⟨r2, x2⟩ := q3 .busy pend
            cases hrb : rec bo (some l) a1 (st1.setObj l (.loop .busy pend n2 t3 ps2 as2 bo2 df2)) with
            | no => rw [hrb] at h; cases h
            | ok x3 a3 st3 =>
              rw [hrb] at h
              refine ⟨{ w1 with heap := w1.heap.setIfInBounds k.b (.loop { lp1 with state := .busy, pending := pend }) }, ?_, ?_⟩
              · unfold Instr.beginRound
                rw [Sem.run_bind, run_getLoop q1, Result.andThen_ok, Sem.run_bind, run_setLoop q1, Result.andThen_ok, f1]
                have : ({ lp1 with state := .busy } : Loop) = { lp1 with state := .busy, pending := pend } := by rw [← f2]
                rw [this]; rfl
              · show bo.wpIn (Fr (some k.b)) n P _ _ _
                refine hrec.code bo (some l) a1 _ x3 a3 st3 hrb σ1 _ act1 (some k.b) r2 a1r ⟨k, hk1, rfl⟩ n _ fun σ3 w3 act3 r3 a3r x3e => ?_
                have hk3 := x3e.sub l k hk1
                have h : (match st3.obj l with
                  | .loop _ _ n t ps as bo df => osel (jumpOf x3) (.ok (.bool true) (st3.setObj l (.loop .ready none n t ps as bo df))) fun j => .ok (.bool false) (st3.setObj l (.loop .done (some j) n t ps as bo df))
                  | _ => .no) = Re.ok v st' := h
                split at h
                · rename_i s4 p4 n4 t4 ps4 as4 bo4 df4 ho4
                  have hE := fun j => end_ok (P := P) hk3 r3 ho4 j
                  have fin : ∀ j, Re.ok (.bool j.isNone) (st3.setObj l (.loop (if j.isNone then .ready else .done) j n4 t4 ps4 as4 bo4 df4)) = Re.ok v st' → ∃ u w', (Instr.endRound k.b j).run P w3 = .ok u w' ∧ Ends σ st w v st' (.returned u) w' := by
                    intro j hj
                    obtain ⟨rfl, rfl⟩ := Re.ok_inj hj
                    obtain ⟨w', z1, z2, z3⟩ := hE j
                    exact ⟨_, w', z1, σ3, _, rfl, .bool _, z2, ((x1.trans x2).trans x3e).trans z3⟩
                  cases x3 with
                  | normal => exact fin none h
                  | ret => exact fin (some .ret) h
                  | exit id => exact fin (some (.exit id)) h
                  | goto id => exact fin (some (.goto id)) h
                · cases h
          · cases h
  · cases h

/-! ## Steps -/
theorem invoke_func {k : FuncId} {fn : Func} {c : Code} (hf : P.funcs[k]? = some fn) (hb : fn.body = some c) (hn : (fn.name == "runtime.NumGoroutine") = false) (as xs bs : Array Value) (w : World) :
    ((do let d ← Deferred.ofValue (.func (.func k) as bs) xs; invoke d.target d.args) : Sem Next).run P w = .ok (.enter k (as ++ xs ++ bs)) w := by
  simp [Deferred.ofValue, invoke, callFunc, hf, hb, beq_eq_false_iff_ne.1 hn]

theorem invoke_yield {l : Nat} (xs : Array Value) (w : World) :
    ((do let d ← Deferred.ofValue (.func (.yield l) #[] #[]) xs; invoke d.target d.args) : Sem Next).run P w = (Instr.yield l xs).run P w := by
  simp [Deferred.ofValue, invoke]

theorem callV_ok (hrec : CodeOk P rec) {fv fv' : Value} {args args' : List Value} {v : Value} (h : callV P rec fv args st = .ok v st') (hr : Rel σ st w) (hf : VR σ fv fv') (ha : VRL σ args args')
    (n : Nat) (ro : Option Nat) {o : Oper} {act : Act} {next : Act → World → Prop} {Q : Exit → Act → World → Prop} (hnext : ∀ σ' w' v', VR σ' v v' → Rel σ' st' w' → Ext σ st w σ' st' w' → next (act.put o.dst v') w') :
    o.uponIn (Fr ro) n P act next Q (((do let d ← Deferred.ofValue fv' ⟨args'⟩; invoke d.target d.args) : Sem Next).run P w) := by
  unfold callV at h
  split at h
  · rename_i k first cap
    generalize hv : Value.func (.func k) first cap = u at hf
    cases hf with
    | func f as as' bs bs' h1 h2 h3 h4 =>
      cases hv
      have hfe : ∃ c m fn, feOf P k = .mk c m fn := by
        unfold callF at h
        cases hfe : feOf P k with
        | no => rw [hfe] at h; cases h
        | mk c m fn => exact ⟨c, m, fn, rfl⟩
      obtain ⟨c, m, fn, hfe⟩ := hfe
      obtain ⟨hfn, hb, hname, _⟩ := feOf_ok hfe
      rw [invoke_func hfn hb hname]
      rw [Oper.uponIn_enter]
      refine ⟨(fun h => nomatch h), ?_⟩
      have hl : VRL σ (as ++ args ++ bs) (as' ++ args' ++ bs') := (VRL.append ⟨h1, h2⟩ ha).append ⟨h3, h4⟩
      have := callF_ok hrec h hr hl (n - 1) ro
      have e : (⟨as'⟩ ++ ⟨args'⟩ ++ ⟨bs'⟩ : Array Value) = ⟨as' ++ args' ++ bs'⟩ := by simp
      rw [e]
      refine CallsIn.mono this fun e w' he => ?_
      obtain ⟨σ', v', rfl, g1, g2, g3⟩ := he
      exact hnext σ' w' v' g1 g2 g3
    | _ => cases hv
  · rename_i l first cap
    generalize hv : Value.func (.yield l) first cap = u at hf
    cases hf with
    | yield l' k hk =>
      cases hv
      rw [invoke_yield]
      have h : yieldF rec l args st = .ok v st' := by simpa using h
      obtain ⟨f, tmps, as, bo, g1, g2⟩ := yield_ok hrec hk h hr ha (n - 1) ro
      rw [g1, Oper.uponIn_round]
      refine ⟨(fun h => nomatch h), RoundIn.mono g2 fun e w' he => ?_⟩
      obtain ⟨σ', v', rfl, g1, g2, g3⟩ := he
      exact hnext σ' w' v' g1 g2 g3
    | _ => cases hv
  · cases h
end
end Go.Proofs.YtieclenlldjfjaaGreat.Ev

set_option autoImplicit false
set_option linter.unusedVariables false
set_option linter.unusedSimpArgs false
namespace Go.Proofs.YtieclenlldjfjaaGreat.Ev
open Go
section
variable {P : Program} {rec : Rec} {σ : Nm} {st st' : St} {w : World}

theorem isBool_iff {v : Value} {b : Bool} : isBool v b = true ↔ v = .bool b := by
  unfold isBool
  split
  · rename_i c
    simp
  · rename_i h
    constructor
    · intro h'; cases h'
    · intro e; exact absurd e (h b)

theorem isBool_eq {v v' : Value} (h : VR σ v v') (b : Bool) : isBool v b = isBool v' b := by cases h <;> rfl

/-- The operations of a region are of the form that is looked at. -/
structure OpsOk (ops : Array Oper) : Prop where
  opd : ∀ o, o ∈ ops.toList → ∀ x, x ∈ o.op.operands.toList → okOpd x = true
  dst : ∀ o, o ∈ ops.toList → okDst o.dst = true

theorem opsOk_ok {ops : Array Oper} (h : opsOk ops.toList = true) : OpsOk ops := by
  unfold opsOk at h
  rw [List.all_eq_true] at h
  refine ⟨fun o ho x hx => ?_, fun o ho => ?_⟩
  · have := h o ho
    rw [Bool.and_eq_true, List.all_eq_true] at this
    exact this.1 x hx
  · have := h o ho
    rw [Bool.and_eq_true] at this
    exact this.2

theorem wanted_ok {ops : Array Oper} (hok : OpsOk ops) (o : Oper) {a : Ac} {act : Act} (hA : AR σ a act) : Region.wanted o (yielded ops act.tmps) = wantedA ops o a := by
  unfold Region.wanted wantedA gdOf
  cases hg : o.guard with
  | none => rfl
  | some q =>
    obtain ⟨j, want⟩ := q
    simp only []
    cases hj : ops[j]? with
    | none => simp [yielded, hj]
    | some g =>
      simp only []
      cases hd : g.dst with
      | none => simp [yielded, hj, hd]
      | some d =>
        have hd5 : @LT.lt Nat _ d 512 := by
          have := hok.dst g (by
            rw [← Array.getElem?_toList] at hj
            exact List.mem_of_getElem? hj)
          rw [hd] at this
          exact ble_iff.1 this
        have hv := hA.1.2.2 d hd5
        show (yielded ops act.tmps j == some want) = isBool (a.get d) want
        rw [Ac.get_eq, isBool_eq hv want]
        unfold yielded
        simp only [hj, Option.bind_some, hd]
        cases ht : act.tmps[d]? with
        | none => simp [Array.getD_eq_getD_getElem?, ht, isBool, undef]
        | some u =>
          simp only [Array.getD_eq_getD_getElem?, ht, Option.getD_some]
          cases u <;> simp [isBool]

theorem Does.upon {o : Oper} {act : Act} {v : Value} (h : Does P (execOp act.eval o) σ st w v st') (n : Nat) (ro : Option Nat) {next : Act → World → Prop} {Q : Exit → Act → World → Prop}
    (hnext : ∀ σ' w' v', VR σ' v v' → Rel σ' st' w' → Ext σ st w σ' st' w' → next (act.put o.dst v') w') : o.uponIn (Fr ro) n P act next Q ((execOp act.eval o).run P w) := by
  obtain ⟨σ', w', v', h1, h2, h3, h4⟩ := h
  rcases h1 with h1 | ⟨h1, rfl⟩
  · rw [h1]; exact hnext σ' w' v' h2 h3 h4
  · rw [h1]; exact hnext σ' w' undef h2 h3 h4

theorem mapE_eq (a : Ac) (xs : List Operand) : mapE a xs = xs.map (evalA a) := by
  induction xs with
  | nil => rfl
  | cons x xs ih => show evalA a x :: mapE a xs = _; rw [ih]; rfl

theorem step_ok (hrec : CodeOk P rec) {o : Oper} {a : Ac} {act : Act} (hops : ∀ x, x ∈ o.op.operands.toList → VR σ (evalA a x) (act.eval x)) {v : Value} (h : stepS P rec (stpOf P o.op) a st = .ok v st') (hr : Rel σ st w)
    (n : Nat) (ro : Option Nat) {next : Act → World → Prop} {Q : Exit → Act → World → Prop} (hnext : ∀ σ' w' v', VR σ' v v' → Rel σ' st' w' → Ext σ st w σ' st' w' → next (act.put o.dst v') w') :
    o.wpIn (Fr ro) n P act w next Q := by
  refine ⟨fun _ _ => trivial, ?_⟩
  have hnd : ∀ c, o.op ≠ .defer c := by
    intro c e
    rw [e] at h
    cases h
  show o.uponIn (Fr ro) n P act next Q ((o.semAt ro act.eval).run P w)
  rw [Oper.semAt_eq ro _ o hnd]
  have plain : ∀ f, stpOf P o.op = .op (compOp P o.op) → compOp P o.op = .mk f → f a st = .ok v st' → o.uponIn (Fr ro) n P act next Q ((execOp act.eval o).run P w) :=
    fun f _ hc hf => (comp_ok hc hops hr hf).upon n ro hnext
  have other : stpOf P o.op = .op (compOp P o.op) → o.uponIn (Fr ro) n P act next Q ((execOp act.eval o).run P w) := by
    intro e
    rw [e] at h
    cases hc : compOp P o.op with
    | no => rw [hc] at h; cases h
    | mk f => rw [hc] at h; exact plain f e hc h
  by_cases hcall : ∃ f args ats, o.op = .call { callee := .value f, args := args, argTypes := ats }
  · obtain ⟨f, args, ats, e⟩ := hcall
    rw [e] at h
    have h : callV P rec (evalA a f) (mapE a args.toList) st = .ok v st' := h
    rw [mapE_eq] at h
    have hf := (hops f (by rw [e]; simp [Op.operands, Call.operands]))
    have hl := evalL_of (xs := args.toList) (fun x hx => hops x (by rw [e]; simp only [Op.operands, Call.operands, Array.toList_append, List.mem_append]; exact .inr hx))
    have := callV_ok hrec h hr hf hl n ro (o := o) (act := act) (next := next) (Q := Q) hnext
    have e2 : args.map act.eval = ⟨args.toList.map act.eval⟩ := by apply Array.ext'; simp
    have e3 : execOp act.eval o = (do let d ← Deferred.ofValue (act.eval f) ⟨args.toList.map act.eval⟩; invoke d.target d.args) := by
      unfold execOp
      rw [e]
      simp only [resolve, e2]
    rw [e3]; exact this
  · refine other ?_
    cases hop : o.op with
    | call c =>
      obtain ⟨callee, args, ats⟩ := c
      cases callee with
      | value f => exact absurd ⟨f, args, ats, hop⟩ hcall
      | invoke x m => rfl
      | builtin b => rfl
    | _ => rfl

theorem seq_ok (hrec : CodeOk P rec) {ops : Array Oper} (hok : OpsOk ops) (n : Nat) (ro : Option Nat) (Q : Exit → Act → World → Prop) : ∀ (l : List Oper) (a : Ac) (st : St) (a' : Ac) (st' : St), (∀ o, o ∈ l → o ∈ ops.toList) → seqOps P rec ops l a st = .ok a' st' →
    ∀ (σ : Nm) (w : World) (act : Act), Rel σ st w → AR σ a act → (∀ σ' w' act', Rel σ' st' w' → AR σ' a' act' → Ext σ st w σ' st' w' → Q .normal act' w') → wpListIn (Fr ro) n P ops Q l act w
  | [], a, st, a', st', _, h, σ, w, act, hr, hA, hQ => by
    cases h
    exact hQ σ w act hr hA (.refl σ st w)
  | o :: l, a, st, a', st', hm, h, σ, w, act, hr, hA, hQ => by
    have h : Ra.rec (motive := fun _ => Ra) .no (fun a st => seqOps P rec ops l a st) (seqOne P rec ops o a st) = .ok a' st' := h
    cases h1 : seqOne P rec ops o a st with
    | no => rw [h1] at h; cases h
    | ok a1 st1 =>
      rw [h1] at h
      have h : seqOps P rec ops l a1 st1 = .ok a' st' := h
      have ho := hm o (by simp)
      have rest : ∀ σ1 w1 act1, Rel σ1 st1 w1 → AR σ1 a1 act1 → Ext σ st w σ1 st1 w1 → wpListIn (Fr ro) n P ops Q l act1 w1 :=
        fun σ1 w1 act1 r1 a1r x1 => seq_ok hrec hok n ro Q l a1 st1 a' st' (fun o ho => hm o (by simp [ho])) h σ1 w1 act1 r1 a1r (fun σ' w' act' r2 a2 x2 => hQ σ' w' act' r2 a2 (x1.trans x2))
      unfold wpListIn
      rw [wanted_ok hok o hA]
      unfold seqOne at h1
      rw [bsel_eq] at h1
      by_cases hw : wantedA ops o a = true
      · rw [if_pos hw] at h1 ⊢
        cases hs : stepS P rec (stpOf P o.op) a st with
        | no => rw [hs] at h1; cases h1
        | ok v st2 =>
          rw [hs] at h1
          have h1 : a.put o.dst v st2 = .ok a1 st1 := h1
          obtain ⟨rfl, _⟩ := Ac.put_ok h1
          exact step_ok hrec (fun x hx => hA.eval (hok.opd o ho x hx)) hs hr n ro fun σ' w' v' g1 g2 g3 => rest σ' w' _ g2 ((hA.mono g3.sub).put h1 g1) g3
      · rw [if_neg hw] at h1 ⊢
        obtain ⟨rfl, _⟩ := Ac.put_ok h1
        exact ⟨fun _ _ => trivial, rest σ w _ hr (hA.put h1 (.junk σ)) (.refl σ _ w)⟩
end
end Go.Proofs.YtieclenlldjfjaaGreat.Ev

set_option autoImplicit false
set_option linter.unusedVariables false
set_option linter.unusedSimpArgs false
namespace Go.Proofs.YtieclenlldjfjaaGreat.Ev
open Go
section
variable {P : Program} {O : Orc} {rec : Rec} {σ : Nm} {st st' : St} {w : World}

/-! ## Scopes -/
def exNoGoto (Q : Exit → Act → World → Prop) : Exit → Act → World → Prop
  | .goto _, _, _ => False
  | e, a, w => Q e a w

theorem stepR_scopeE {b : Frame} {a : Act} {k : List Item} {cs : List Frame} {c : Code} : step P (lone (b.atR a (.code (.scope c) :: k)) cs w) = .next (lone (b.atR a (.code c :: .inScope c :: k)) cs w) :=
  step_lone_go (by simp [stepG, stepG.exec, Frame.atR])
theorem stepR_inScopeE {b : Frame} {a : Act} {k : List Item} {cs : List Frame} {c : Code} : step P (lone (b.atR a (.inScope c :: k)) cs w) = .next (lone (b.atR a k) cs w) :=
  step_lone_go (by simp [stepG, stepG.exec, Frame.atR])

theorem wpIn_scopeE {F : Fence} {n : Nat} {Q : Exit → Act → World → Prop} {a : Act} {c : Code} (h : c.wpIn F n P (exNoGoto Q) a w) : (Code.scope c).wpIn F n P Q a w := by
  intro b k cs hro hb hr
  have h0 : (lone (b.atR a (.code (.scope c) :: k)) cs w).fenced P F := fenced_calm hb hr rfl
  obtain ⟨e, a₁, w₁, hq, harr⟩ := h b (.inScope c :: k) cs hro hb hr
  cases e with
  | normal => exact ⟨.normal, a₁, w₁, hq, .head h0 stepR_scopeE (StepsIn.trans harr (.one (fenced_calm hb hr rfl) stepR_inScopeE))⟩
  | exit id =>
    have hx : exitTo id (.inScope c :: k) = exitTo id k := by simp [exitTo]
    exact ⟨.exit id, a₁, w₁, hq, fun k' hk => .head h0 stepR_scopeE (harr.1 k' (by rw [hx]; exact hk)),
      fun hr' hk => let ⟨k₁, h1, h2⟩ := harr.2 hr' (by rw [hx]; exact hk); ⟨k₁, h1, .head h0 stepR_scopeE h2⟩⟩
  | goto l => exact hq.elim
  | ret => exact ⟨_, a₁, w₁, hq, .of_steps (.one h0 stepR_scopeE) harr⟩
  | panic ch => exact ⟨_, a₁, w₁, hq, .of_steps (.one h0 stepR_scopeE) harr⟩
  | outgrown => exact ⟨_, a₁, w₁, hq, .of_steps (.one h0 stepR_scopeE) harr⟩

/-- What a region says. -/
def RegOk (P : Program) (rec : Rec) : Prop := ∀ (id : Nat) (ops : Array Oper) (draw : Bool) (ro : Option Nat) (a : Ac) (st : St) (x : Xit) (a' : Ac) (st' : St), evRegion P rec ops draw a st = .ok x a' st' →
  ∀ (σ : Nm) (w : World) (act : Act) (ro' : Option Nat), Rel σ st w → AR σ a act → RO σ ro ro' → ∀ (n : Nat) (Q : Exit → Act → World → Prop),
    (∀ σ' w' act', Rel σ' st' w' → AR σ' a' act' → Ext σ st w σ' st' w' → Q (exitOf x) act' w') → (Code.region id ops draw).wpIn (Fr ro') n P Q act w

theorem thenN_ok {r : Rc} {f : Ac → St → Rc} {x : Xit} {a' : Ac} {st' : St} (h : thenN r f = .ok x a' st') :
    (∃ a1 st1, r = .ok .normal a1 st1 ∧ f a1 st1 = .ok x a' st') ∨ (x ≠ .normal ∧ r = .ok x a' st') := by
  cases r with
  | no => cases h
  | ok y a1 st1 =>
    cases y with
    | normal => exact .inl ⟨a1, st1, rfl, h⟩
    | exit id => cases h; exact .inr ⟨by simp, rfl⟩
    | goto l => cases h; exact .inr ⟨by simp, rfl⟩
    | ret => cases h; exact .inr ⟨by simp, rfl⟩

theorem then_other {K : Act → World → Prop} {Q : Exit → Act → World → Prop} {x : Xit} (hx : x ≠ .normal) {a : Act} (h : Q (exitOf x) a w) : Exit.then K Q (exitOf x) a w := by
  cases x <;> first | exact absurd rfl hx | exact h

theorem least_of {p : Nat → Prop} : ∀ (b j : Nat), j ≤ b → p j → ∃ m, p m ∧ ∀ i, p i → m ≤ i
  | b, j, hb, hj => by
    classical
    by_cases h : ∃ i, i < j ∧ p i
    · obtain ⟨i, hi, hp⟩ := h
      cases b with
      | zero => omega
      | succ b => exact least_of b i (by omega) hp
    · exact ⟨j, hj, fun i hi => by
        rcases Nat.lt_or_ge i j with h' | h'
        · exact absurd ⟨i, h', hi⟩ h
        · exact h'⟩

/-- One turn, and the rest of the loop. -/
theorem loop_ok {c : Code} {ro : Option Nat} {x : Xit} {a' : Ac} {st' : St} (hall : ∀ j, CodeOk P (evCode P O j) ∨ True) {K : Nat} (hK : ∀ j, j < K → CodeOk P (evCode P O j)) {a : Ac} (h : evCode P O K (.loop c) ro a st = .ok x a' st')
    (hr : Rel σ st w) {act : Act} (hA : AR σ a act) {ro' : Option Nat} (hro : RO σ ro ro') (n : Nat) (Q : Exit → Act → World → Prop)
    (hQ : ∀ σ' w' act', Rel σ' st' w' → AR σ' a' act' → Ext σ st w σ' st' w' → Q (exitOf x) act' w') : (Code.loop c).wpIn (Fr ro') n P Q act w := by
  let J : Nat → Act → World → Prop := fun j act1 w1 => j ≤ K ∧ ∃ σ1 a1 st1, evCode P O j (.loop c) ro a1 st1 = .ok x a' st' ∧ Rel σ1 st1 w1 ∧ AR σ1 a1 act1 ∧ Ext σ st w σ1 st1 w1
  have hdec : ∀ act1 w1, (∃ j, J j act1 w1) → ∃ j, J j act1 w1 ∧ ∀ i, J i act1 w1 → j ≤ i := by
    intro act1 w1 ⟨j, hj⟩
    exact least_of j j (Nat.le_refl j) hj
  classical
  let μ : Act → World → Nat := fun act1 w1 => if h : ∃ j, J j act1 w1 then Classical.choose (hdec act1 w1 h) else 0
  have hμ : ∀ act1 w1 j, J j act1 w1 → J (μ act1 w1) act1 w1 ∧ μ act1 w1 ≤ j := by
    intro act1 w1 j hj
    have hex : ∃ j, J j act1 w1 := ⟨j, hj⟩
    have := Classical.choose_spec (hdec act1 w1 hex)
    show J (if h : ∃ j, J j act1 w1 then _ else 0) act1 w1 ∧ (if h : ∃ j, J j act1 w1 then _ else 0) ≤ j
    rw [dif_pos hex]
    exact ⟨this.1, this.2 j hj⟩
  refine wpIn_loop (fun act1 w1 => ∃ j, J j act1 w1) μ ⟨K, Nat.le_refl K, σ, a, st, h, hr, hA, .refl σ st w⟩ fun act1 w1 ⟨j, hj⟩ => ?_
  obtain ⟨⟨hle, σ1, a1, st1, hrun, r1, a1r, x1⟩, _⟩ := hμ act1 w1 j hj
  generalize hm : μ act1 w1 = m at hrun hle
  cases m with
  | zero => cases hrun
  | succ m =>
    have hrun : thenN (evCode P O m c ro a1 st1) (fun a st => evCode P O m (.loop c) ro a st) = .ok x a' st' := hrun
    rcases thenN_ok hrun with ⟨a2, st2, e1, e2⟩ | ⟨hx, e1⟩
    · refine (hK m (by omega)).code c ro a1 st1 .normal a2 st2 e1 σ1 w1 act1 ro' r1 a1r (hro.mono x1.sub) n _ fun σ2 w2 act2 r2 a2r x2 => ?_
      have hJ : J m act2 w2 := ⟨by omega, σ2, a2, st2, e2, r2, a2r, x1.trans x2⟩
      exact ⟨⟨m, hJ⟩, by have := (hμ act2 w2 m hJ).2; omega⟩
    · exact (hK m (by omega)).code c ro a1 st1 x a' st' e1 σ1 w1 act1 ro' r1 a1r (hro.mono x1.sub) n _ fun σ2 w2 act2 r2 a2r x2 => then_other hx (hQ σ2 w2 act2 r2 a2r (x1.trans x2))

theorem funcK_ok {β : Type} {v : Value} {no : β} {f : FuncId → Array Value → Array Value → β} {r : β} (h : funcK v no f = r) (hne : no ≠ r) : ∃ k as bs, v = .func (.func k) as bs ∧ f k as bs = r := by
  unfold funcK at h
  split at h
  · exact ⟨_, _, _, rfl, h⟩
  · exact absurd h hne

theorem Rc.no_ne {x : Xit} {a : Ac} {st : St} : (Rc.no : Rc) ≠ .ok x a st := by intro h; cases h

theorem ble_false {a b : Nat} (h : Nat.ble a b = false) : b < a := by
  rcases Nat.lt_or_ge b a with h' | h'
  · exact h'
  · rw [ble_iff.2 h'] at h; cases h

/-- The statement behind its record's block. -/
theorem range2_ok (hrec : CodeOk P rec) {g : Operand} (hg : okOpd g = true) {ps : Array Tmp} {as bo : Code} {ro ro' : Option Nat} {a : Ac} {act : Act} {df : Nat} {mark : List Nat} {ms : List Deferred} {x : Xit} {a' : Ac}
    (h : evRange2 P rec g ps as bo ro a df mark st = .ok x a' st') (hr : Rel σ st w) (hA : AR σ a act) (hro : RO σ ro ro') {kd : Blk} (hdf : σ df = some kd) (hm : DR σ mark ms) (n : Nat) (Q : Exit → Act → World → Prop)
    (hQ : ∀ σ' w' act', Rel σ' st' w' → AR σ' a' act' → Ext σ st w σ' st' w' → Q (exitOf x) act' w') (fn : FuncId) :
    ∃ (d : Deferred) (f : FuncId) (args : Array Value),
      let lp : Loop := { state := .ready, pending := none, fn, tmps := act.tmps, params := ps, assign := as, body := bo, defers := kd.b }
      let w₁ : World := { w with heap := w.heap.push (.loop lp) }
      (resolve act.eval (rangeCall g w.heap.size) 0).run P w₁ = .ok d w₁ ∧ (invoke d.target d.args).run P w₁ = .ok (.enter f args) w₁ ∧
      CallsIn (Fr ro') (n - 1) P f args w₁ (rangePost (Fr ro') n P w.heap.size Q { act with defers := ms ++ act.defers }) := by
  obtain ⟨m, t, ds⟩ := a
  obtain ⟨hp, nx⟩ := st
  have h : bsel (Nat.ble 65536 nx) .no (funcK (evalA ⟨m, t, ds⟩ g) .no fun k first cap =>
    (endRange rec nx ro ⟨m, t, mark ++ ds⟩ (callF P rec k (first.toList ++ [.func (.yield nx) #[] #[]] ++ cap.toList) (pushAt nx hp (.loop .ready none m t ps as bo df))))) = .ok x a' st' := h
  cases hb : Nat.ble 65536 nx with
  | true => rw [hb] at h; cases h
  | false =>
    rw [hb] at h
    have hlt : nx < 65536 := ble_false hb
    obtain ⟨k, first, cap, hfv, h⟩ := funcK_ok h Rc.no_ne
    have hf := hA.eval hg
    rw [hfv] at hf
    rw [pushAt_eq] at h
    obtain ⟨σ1, s1, r1, x1⟩ := hr.new (o := .loop .ready none m t ps as bo df) (ob := .loop { state := .ready, pending := none, fn, tmps := act.tmps, params := ps, assign := as, body := bo, defers := kd.b }) hlt (k := ⟨w.heap.size, 0, 0, 0, false⟩) rfl
      (fun τ w' hs ht hw => ⟨_, hw, rfl, rfl, hA.1.mono hs, rfl, rfl, rfl, kd, hs _ _ hdf, rfl⟩)
    generalize hv : Value.func (.func k) first cap = u at hf
    generalize heq : act.eval g = fv' at hf
    cases hf with
    | func f' as1 as1' bs1 bs1' h1 h2 h3 h4 =>
      cases hv
      cases hc : callF P rec k (as1 ++ [.func (.yield nx) #[] #[]] ++ bs1) ⟨putAt nx hp (.loop .ready none m t ps as bo df), nx + 1⟩ with
      | no =>
        have h : endRange rec nx ro ⟨m, t, mark ++ ds⟩ (callF P rec k (as1 ++ [.func (.yield nx) #[] #[]] ++ bs1) ⟨putAt nx hp (.loop .ready none m t ps as bo df), nx + 1⟩) = .ok x a' st' := h
        rw [hc] at h; cases h
      | ok v st2 =>
        have h : endRange rec nx ro ⟨m, t, mark ++ ds⟩ (callF P rec k (as1 ++ [.func (.yield nx) #[] #[]] ++ bs1) ⟨putAt nx hp (.loop .ready none m t ps as bo df), nx + 1⟩) = .ok x a' st' := h
        rw [hc] at h
        have hfe : ∃ c m fn, feOf P k = .mk c m fn := by
          unfold callF at hc
          cases hfe : feOf P k with
          | no => rw [hfe] at hc; cases hc
          | mk c m fn => exact ⟨c, m, fn, rfl⟩
        obtain ⟨c, mm, fn', hfe⟩ := hfe
        obtain ⟨hfn, hb2, hname, _⟩ := feOf_ok hfe
        have hal : VRL σ1 (as1 ++ [.func (.yield nx) #[] #[]] ++ bs1) (as1' ++ [.func (.yield w.heap.size) #[] #[]] ++ bs1') :=
          ((VRL.mono x1.sub ⟨h1, h2⟩).append (.one (.yield nx _ s1))).append (VRL.mono x1.sub ⟨h3, h4⟩)
        have hcall := callF_ok hrec hc r1 hal (n - 1) ro'
        have hres : ∀ W, (resolve act.eval (rangeCall g w.heap.size) 0).run P W = .ok { target := .fn (.func k) ⟨bs1'⟩, args := ⟨as1'⟩ ++ #[.func (.yield w.heap.size) #[] #[]] } W := by
          intro W
          simp [resolve, rangeCall, heq, Deferred.ofValue]
          rfl
        refine ⟨_, k, ⟨as1' ++ [.func (.yield w.heap.size) #[] #[]] ++ bs1'⟩, hres _, ?_, ?_⟩
        · simp [invoke, callFunc, hfn, hb2, beq_eq_false_iff_ne.1 hname]
        · refine CallsIn.mono hcall fun e w3 he => ?_
          obtain ⟨σ3, v3, rfl, g1, g2, g3⟩ := he
          have hk3 := g3.sub _ _ s1
          have hx := x1.trans g3
          have hA3 : AR σ3 ⟨m, t, mark ++ ds⟩ { act with defers := ms ++ act.defers } := by
            refine ⟨(hA.1).mono hx.sub, ?_, fun i nm f e1 e2 => ?_⟩
            · have e1 := hm.1
              have e2 := hA.2.1
              show (mark ++ ds).length = (ms ++ act.defers).length
              rw [List.length_append, List.length_append, e1]; exact congrArg _ e2
            · by_cases hi : i < mark.length
              · rw [List.getElem?_append_left hi] at e1
                rw [List.getElem?_append_left (by rw [← hm.1]; exact hi)] at e2
                obtain ⟨kk, q1, q2⟩ := hm.2 i nm f e1 e2
                exact ⟨kk, hx.sub _ _ q1, q2⟩
              · rw [List.getElem?_append_right (by omega)] at e1
                rw [List.getElem?_append_right (by rw [← hm.1]; omega), ← hm.1] at e2
                obtain ⟨kk, q1, q2⟩ := hA.2.2 _ nm f e1 e2
                exact ⟨kk, hx.sub _ _ q1, q2⟩
          have h : (match st2.obj nx with
            | .loop s pend n9 t9 ps as bo df =>
              match s with
              | .busy => .no
              | _ => osel pend (.ok .normal ⟨m, t, mark ++ ds⟩ (st2.setObj nx (.loop .exhausted none n9 t9 ps as bo df))) fun j => rec j ro ⟨m, t, mark ++ ds⟩ (st2.setObj nx (.loop .exhausted pend n9 t9 ps as bo df))
            | _ => .no) = Rc.ok x a' st' := h
          split at h
          · rename_i s p n2 t2 ps2 as2 bo2 df2 ho
            obtain ⟨lp, q1, ⟨q2, q3, _⟩, q4⟩ := g2.loopAt hk3 ho
            have q1 : w3.heap[w.heap.size]? = some (.loop lp) := q1
            obtain ⟨r4, x4⟩ := q4 .exhausted p
            have hend : s ≠ .busy → (Instr.endLoop w.heap.size).run P w3 = .ok p { w3 with heap := w3.heap.setIfInBounds w.heap.size (.loop { lp with state := .exhausted, pending := p }) } := by
              intro hs
              have hs2 : (lp.state == LoopState.busy) = false := by
                rw [q2]; cases s <;> first | rfl | exact absurd rfl hs
              unfold Instr.endLoop
              have e5 : ({ lp with state := .exhausted } : Loop) = { lp with state := .exhausted, pending := p } := by rw [← q3]
              rw [Sem.run_bind, run_getLoop q1, Result.andThen_ok, if_neg (by rw [hs2]; simp)]
              rw [Sem.run_bind, run_setLoop q1, Result.andThen_ok, e5, q3]
              rfl
            have fin : s ≠ .busy → (osel p (.ok .normal ⟨m, t, mark ++ ds⟩ (st2.setObj nx (.loop .exhausted none n2 t2 ps2 as2 bo2 df2))) fun j => rec j ro ⟨m, t, mark ++ ds⟩ (st2.setObj nx (.loop .exhausted p n2 t2 ps2 as2 bo2 df2))) = Rc.ok x a' st' →
                rangePost (Fr ro') n P w.heap.size Q { act with defers := ms ++ act.defers } (.returned v3) w3 := by
              intro hs h
              refine ⟨p, _, hend hs, ?_⟩
              cases p with
              | none => cases h; exact hQ σ3 _ _ r4 hA3 (hx.trans x4)
              | some j => exact hrec.code j ro _ _ x a' st' h σ3 _ _ ro' r4 hA3 (hro.mono hx.sub) n Q fun σ5 w5 act5 r5 a5 x5 => hQ σ5 w5 act5 r5 a5 ((hx.trans x4).trans x5)
            cases s with
            | busy => cases h
            | ready => exact fin (by simp) h
            | done => exact fin (by simp) h
            | exhausted => exact fin (by simp) h
          · cases h
    | _ => cases hv
end
end Go.Proofs.YtieclenlldjfjaaGreat.Ev

set_option autoImplicit false
set_option linter.unusedVariables false
set_option linter.unusedSimpArgs false
namespace Go.Proofs.YtieclenlldjfjaaGreat.Ev
open Go
section
variable {P : Program} {O : Orc} {rec : Rec} {σ : Nm} {st st' : St} {w : World}

theorem range_ok (hrec : CodeOk P rec) {g : Operand} {ps : Array Tmp} {as bo : Code} {ro ro' : Option Nat} {a : Ac} {act : Act} {x : Xit} {a' : Ac}
    (h : evRange P rec g ps as bo ro a st = .ok x a' st') (hr : Rel σ st w) (hA : AR σ a act) (hro : RO σ ro ro') (n : Nat) (Q : Exit → Act → World → Prop)
    (hQ : ∀ σ' w' act', Rel σ' st' w' → AR σ' a' act' → Ext σ st w σ' st' w' → Q (exitOf x) act' w') : (Code.rangeFunc g ps as bo).wpIn (Fr ro') n P Q act w := by
  unfold evRange at h
  obtain ⟨hg, h⟩ := bsel_ne h Rc.no_ne
  refine wpIn_rangeFunc fun fn _ => ?_
  cases ro with
  | none =>
    cases ro' with
    | some b => exact hro.elim
    | none =>
      obtain ⟨hp, r⟩ := st
      have h : bsel (Nat.ble 65536 r) .no (evRange2 P rec g ps as bo none a r [r] (pushAt r hp .deferred)) = Rc.ok x a' st' := h
      cases hb : Nat.ble 65536 r with
      | true => rw [hb] at h; cases h
      | false =>
        rw [hb] at h
        have h : evRange2 P rec g ps as bo none a r [r] (pushAt r hp .deferred) = Rc.ok x a' st' := h
        rw [pushAt_eq] at h
        obtain ⟨σ1, s1, r1, x1⟩ := hr.new (o := .deferred) (ob := .deferred (some [])) (ble_false hb) (k := ⟨w.heap.size, 0, 0, 0, false⟩) rfl (fun τ w' hs ht hw => hw)
        have hm : DR σ1 [r] [{ target := .collected w.heap.size, args := #[] }] := ⟨rfl, fun i nm f h1 h2 => by
          cases i with
          | zero => cases h1; cases h2; exact ⟨_, s1, rfl⟩
          | succ i => simp at h1⟩
        obtain ⟨d, f, args, e1, e2, e3⟩ := range2_ok (ro' := none) hrec hg h r1 (hA.mono x1.sub) trivial s1 hm n Q (fun σ' w' act' q1 q2 q3 => hQ σ' w' act' q1 q2 (x1.trans q3)) fn
        refine ⟨_, _, _, d, _, f, args, _, ?_, e1, fun _ _ => trivial, e2, (fun h => nomatch h), e3⟩
        simp [Instr.enterLoop, newObj, Sem.run, Result.andThen]
        exact ⟨rfl, rfl, rfl⟩
  | some l =>
    cases ro' with
    | none => exact hro.elim
    | some b =>
      obtain ⟨k, hk, rfl⟩ := hro
      have h : (match st.obj l with
        | .loop _ _ _ _ _ _ _ df => evRange2 P rec g ps as bo (some l) a df [] st
        | _ => .no) = Rc.ok x a' st' := h
      split at h
      · rename_i s p m t ps0 as0 bo0 df ho
        obtain ⟨lp, g1, ⟨_, _, _, _, _, _, kd, hdf, hdd⟩, _⟩ := hr.loopAt hk ho
        obtain ⟨d, f, args, e1, e2, e3⟩ := range2_ok (ro' := some k.b) (ms := []) hrec hg h hr hA ⟨k, hk, rfl⟩ hdf ⟨rfl, fun i nm f h1 => by simp at h1⟩ n Q hQ fn
        refine ⟨_, _, _, d, _, f, args, _, ?_, e1, fun _ _ => trivial, e2, (fun h => nomatch h), e3⟩
        show (Instr.enterLoop fn act.tmps ps as bo (some k.b)).run P w = _
        unfold Instr.enterLoop
        simp only [Sem.run_bind, run_getLoop g1, Result.andThen_ok, Sem.run_pure, hdd]
        rfl
      · cases h

theorem one_ok (hO : OrcOk P O) {K : Nat} (hK : ∀ j, j < K + 1 → CodeOk P (evCode P O j)) (hreg : RegOk P (evCode P O K)) : CodeOk P (evCode P O (K + 1)) := by
  refine ⟨?_, hO⟩
  intro c ro a st x a' st' h σ w act ro' hr hA hro n Q hQ
  have hrec := hK K (by omega)
  have h1 : evOne P (evCode P O K) c ro a st = .ok x a' st' := h
  cases c with
  | skip => cases h1; exact wpIn_skip (hQ σ w act hr hA (.refl σ st w))
  | label l => cases h1; exact wpIn_label (hQ σ w act hr hA (.refl σ st w))
  | region id ops draw => exact hreg id ops draw ro a st x a' st' h1 σ w act ro' hr hA hro n Q hQ
  | seq c1 c2 =>
    have h1 : thenN (evCode P O K c1 ro a st) (fun a st => evCode P O K c2 ro a st) = .ok x a' st' := h1
    refine wpIn_seq ?_
    rcases thenN_ok h1 with ⟨a1, st1, e1, e2⟩ | ⟨hx, e1⟩
    · exact hrec.code c1 ro a st .normal a1 st1 e1 σ w act ro' hr hA hro n _ fun σ1 w1 act1 r1 a1r x1 =>
        hrec.code c2 ro a1 st1 x a' st' e2 σ1 w1 act1 ro' r1 a1r (hro.mono x1.sub) n Q fun σ2 w2 act2 r2 a2 x2 => hQ σ2 w2 act2 r2 a2 (x1.trans x2)
    · exact hrec.code c1 ro a st x a' st' e1 σ w act ro' hr hA hro n _ fun σ1 w1 act1 r1 a1r x1 => then_other hx (hQ σ1 w1 act1 r1 a1r x1)
  | cond c c1 c2 =>
    have h1 : bsel (okOpd c) (evCond (evCode P O K) (evalA a c) c1 c2 ro a st) .no = .ok x a' st' := h1
    obtain ⟨hc, h1⟩ := bsel_ne h1 Rc.no_ne
    have hv := hA.eval hc
    unfold evCond at h1
    split at h1
    · rename_i b hb
      rw [hb] at hv
      have hv := bool_inv hv
      cases b with
      | true => exact wpIn_cond_true hv (hrec.code c1 ro a st x a' st' h1 σ w act ro' hr hA hro n Q hQ)
      | false => exact wpIn_cond_false hv (hrec.code c2 ro a st x a' st' h1 σ w act ro' hr hA hro n Q hQ)
    · cases h1
  | block id c =>
    have h1 : inBlock id (evCode P O K c ro a st) = .ok x a' st' := h1
    refine wpIn_block ?_
    cases hr1 : evCode P O K c ro a st with
    | no => rw [hr1] at h1; cases h1
    | ok y a1 st1 =>
      rw [hr1] at h1
      refine hrec.code c ro a st y a1 st1 hr1 σ w act ro' hr hA hro n _ fun σ1 w1 act1 r1 a1r x1 => ?_
      cases y with
      | normal => cases h1; exact hQ σ1 w1 act1 r1 a1r x1
      | goto l => cases h1; exact hQ σ1 w1 act1 r1 a1r x1
      | ret => cases h1; exact hQ σ1 w1 act1 r1 a1r x1
      | exit j =>
        have h1 : bsel (Nat.beq j id) (Rc.ok .normal a1 st1) (.ok (.exit j) a1 st1) = .ok x a' st' := h1
        show (if j = id then Q .normal act1 w1 else Q (.exit j) act1 w1)
        rw [bsel_eq] at h1
        by_cases hj : j = id
        · rw [if_pos (beq_iff.2 hj)] at h1
          rw [if_pos hj]
          cases h1; exact hQ σ1 w1 act1 r1 a1r x1
        · rw [if_neg (fun e => hj (beq_iff.1 e))] at h1
          rw [if_neg hj]
          cases h1; exact hQ σ1 w1 act1 r1 a1r x1
  | loop c => exact loop_ok (fun _ => .inr trivial) hK h hr hA hro n Q hQ
  | rangeFunc g ps as bo => exact range_ok hrec h1 hr hA hro n Q hQ
  | exit id => cases h1; exact wpIn_exit (hQ σ w act hr hA (.refl σ st w))
  | ret => cases h1; exact wpIn_ret (hQ σ w act hr hA (.refl σ st w))
  | goto l => cases h1; exact wpIn_goto (hQ σ w act hr hA (.refl σ st w))
  | scope c =>
    have h1 : noGoto (evCode P O K c ro a st) = .ok x a' st' := h1
    refine wpIn_scopeE ?_
    cases hr1 : evCode P O K c ro a st with
    | no => rw [hr1] at h1; cases h1
    | ok y a1 st1 =>
      rw [hr1] at h1
      refine hrec.code c ro a st y a1 st1 hr1 σ w act ro' hr hA hro n _ fun σ1 w1 act1 r1 a1r x1 => ?_
      cases y with
      | normal => cases h1; exact hQ σ1 w1 act1 r1 a1r x1
      | goto l => cases h1
      | ret => cases h1; exact hQ σ1 w1 act1 r1 a1r x1
      | exit j => cases h1; exact hQ σ1 w1 act1 r1 a1r x1
  | refuse r => cases h1

theorem code_ok (hO : OrcOk P O) (hreg : ∀ rec, CodeOk P rec → RegOk P rec) : ∀ K, CodeOk P (evCode P O K) := by
  intro K
  induction K using Nat.strongRecOn with
  | _ K ih =>
    cases K with
    | zero => exact ⟨fun c ro a st x a' st' h => (by cases h), fun f args st v st' h => (by cases h)⟩
    | succ K => exact one_ok hO ih (hreg _ (ih K (by omega)))

/-- The top: a call that the interpreter follows. -/
theorem calls_ok (hO : OrcOk P O) (hreg : ∀ rec, CodeOk P rec → RegOk P rec) {K : Nat} {f : FuncId} {args args' : List Value} {v : Value} (h : callF P (evCode P O K) f args st = .ok v st') (hr : Rel σ st w) (ha : VRL σ args args') :
    Calls P f ⟨args'⟩ w (Ends σ st w v st') :=
  callsIn_wide.1 (callF_ok (code_ok hO hreg K) h hr ha 0 none)
end
end Go.Proofs.YtieclenlldjfjaaGreat.Ev

set_option autoImplicit false
set_option linter.unusedVariables false
set_option linter.unusedSimpArgs false
namespace Go.Proofs.YtieclenlldjfjaaGreat.Ev
open Go
section
variable {P : Program} {rec : Rec} {σ : Nm} {st st' : St} {w : World}

theorem parts_congr {a b : Ac} {ps : List (Nat × Operand)} (h : ∀ x, x ∈ ps.map (·.2) → evalA a x = evalA b x) : (ps.map fun (i, x) => (i, evalA a x)) = ps.map fun (i, x) => (i, evalA b x) := by
  apply List.map_congr_left
  intro q hq
  obtain ⟨i, x⟩ := q
  show (i, evalA a x) = (i, evalA b x)
  rw [h x (List.mem_map.2 ⟨(i, x), hq, rfl⟩)]

theorem map_congr {a b : Ac} {xs : List Operand} (h : ∀ x, x ∈ xs → evalA a x = evalA b x) : xs.map (evalA a) = xs.map (evalA b) := List.map_congr_left h

/-- A step looks at its operands alone. -/
theorem stepS_congr {op : Op} {a b : Ac} (h : ∀ x, x ∈ op.operands.toList → evalA a x = evalA b x) (st : St) : stepS P rec (stpOf P op) a st = stepS P rec (stpOf P op) b st := by
  cases op with
  | call c =>
    obtain ⟨callee, args, ats⟩ := c
    cases callee with
    | value f =>
      have h1 := h f (by simp [Op.operands, Call.operands])
      have h2 := map_congr (a := a) (b := b) (xs := args.toList) (fun x hx => h x (by simp only [Op.operands, Call.operands, Array.toList_append, List.mem_append]; exact .inr hx))
      show callV P rec (evalA a f) (mapE a args.toList) st = callV P rec (evalA b f) (mapE b args.toList) st
      rw [mapE_eq, mapE_eq, h1, h2]
    | invoke x m => rfl
    | builtin bi =>
      have h2 := map_congr (a := a) (b := b) (xs := args.toList) (fun x hx => h x (by simpa [Op.operands, Call.operands] using hx))
      show builtinA P bi ats (args.toList.map (evalA a)) st = builtinA P bi ats (args.toList.map (evalA b)) st
      rw [h2]
  | build t ps =>
    have h2 := parts_congr (a := a) (b := b) (ps := ps.toList) (fun x hx => h x (by simpa [Op.operands] using hx))
    show reO (buildA _ (ps.toList.map fun (i, x) => (i, evalA a x))) st = reO (buildA _ (ps.toList.map fun (i, x) => (i, evalA b x))) st
    rw [h2]
  | buildSlice t n ps =>
    have h2 := parts_congr (a := a) (b := b) (ps := ps.toList) (fun x hx => h x (by simpa [Op.operands] using hx))
    show buildSliceA _ n (ps.toList.map fun (i, x) => (i, evalA a x)) st = buildSliceA _ n (ps.toList.map fun (i, x) => (i, evalA b x)) st
    rw [h2]
  | makeFunc fn first captured =>
    cases fn with
    | func f =>
      have h1 := map_congr (a := a) (b := b) (xs := first.toList) (fun x hx => h x (by simp only [Op.operands, Array.toList_append, List.mem_append]; exact .inl hx))
      have h2 := map_congr (a := a) (b := b) (xs := captured.toList) (fun x hx => h x (by simp only [Op.operands, Array.toList_append, List.mem_append]; exact .inr hx))
      show Re.ok (.func (.func f) ⟨first.toList.map (evalA a)⟩ ⟨captured.toList.map (evalA a)⟩) st = .ok (.func (.func f) ⟨first.toList.map (evalA b)⟩ ⟨captured.toList.map (evalA b)⟩) st
      rw [h1, h2]
    | _ => rfl
  | makeMap t r => cases r <;> rfl
  | slice t x lo hi mx =>
    have h1 := h x (by simp [Op.operands])
    have h2 : lo.map (evalA a) = lo.map (evalA b) := by
      cases lo with
      | none => rfl
      | some l => exact congrArg some (h l (by simp [Op.operands]))
    have h3 : hi.map (evalA a) = hi.map (evalA b) := by
      cases hi with
      | none => rfl
      | some l => exact congrArg some (h l (by simp [Op.operands]))
    show bsel mx.isSome .no (reO (sliceK _ (evalA a x) (lo.map (evalA a)) (hi.map (evalA a)) st) st) = bsel mx.isSome .no (reO (sliceK _ (evalA b x) (lo.map (evalA b)) (hi.map (evalA b)) st) st)
    rw [h1, h2, h3]
  | pick c x y => simp only [stpOf, stepS, compOp, h c (by simp [Op.operands]), h x (by simp [Op.operands]), h y (by simp [Op.operands])]
  | mapUpdate t m k x => simp only [stpOf, stepS, compOp, h m (by simp [Op.operands]), h k (by simp [Op.operands]), h x (by simp [Op.operands])]
  | entryStore t m k x => simp only [stpOf, stepS, compOp, h m (by simp [Op.operands]), h k (by simp [Op.operands]), h x (by simp [Op.operands])]
  | insert t m k x => simp only [stpOf, stepS, compOp, h m (by simp [Op.operands]), h k (by simp [Op.operands]), h x (by simp [Op.operands])]
  | store t x y => simp only [stpOf, stepS, compOp, h x (by simp [Op.operands]), h y (by simp [Op.operands])]
  | binOp o t x y k => simp only [stpOf, stepS, compOp, h x (by simp [Op.operands]), h y (by simp [Op.operands])]
  | makeSlice t x y => simp only [stpOf, stepS, compOp, h x (by simp [Op.operands]), h y (by simp [Op.operands])]
  | indexAddr t x y => simp only [stpOf, stepS, compOp, h x (by simp [Op.operands]), h y (by simp [Op.operands])]
  | index t x y => simp only [stpOf, stepS, compOp, h x (by simp [Op.operands]), h y (by simp [Op.operands])]
  | lookup t x y ok => simp only [stpOf, stepS, compOp, h x (by simp [Op.operands]), h y (by simp [Op.operands])]
  | mapEntry t x y => simp only [stpOf, stepS, compOp, h x (by simp [Op.operands]), h y (by simp [Op.operands])]
  | move x => simp only [stpOf, stepS, compOp, h x (by simp [Op.operands])]
  | assign x => simp only [stpOf, stepS, compOp, h x (by simp [Op.operands])]
  | box t x => simp only [stpOf, stepS, compOp, h x (by simp [Op.operands])]
  | load t x => simp only [stpOf, stepS, compOp, h x (by simp [Op.operands])]
  | nilCheck x => simp only [stpOf, stepS, compOp, h x (by simp [Op.operands])]
  | unOp o t x => simp only [stpOf, stepS, compOp, h x (by simp [Op.operands])]
  | convert s d x => simp only [stpOf, stepS, compOp, h x (by simp [Op.operands])]
  | makeInterface t x => simp only [stpOf, stepS, compOp, h x (by simp [Op.operands])]
  | fieldAddr t x f => simp only [stpOf, stepS, compOp, h x (by simp [Op.operands])]
  | field t x f => simp only [stpOf, stepS, compOp, h x (by simp [Op.operands])]
  | typeAssert x t u ok => simp only [stpOf, stepS, compOp, h x (by simp [Op.operands])]
  | extract x i => simp only [stpOf, stepS, compOp, h x (by simp [Op.operands])]
  | _ => rfl

theorem reO_any {x : Option Value} {v : Value} (h : reO x st = .ok v st') : st' = st ∧ ∀ s2, reO x s2 = .ok v s2 := by
  obtain ⟨rfl, rfl⟩ := reO_ok h
  exact ⟨rfl, fun _ => rfl⟩

theorem pickK_any {c x y v : Value} (h : pickK c x y st = .ok v st') : st' = st ∧ ∀ s2, pickK c x y s2 = .ok v s2 := by
  unfold pickK at h
  split at h
  · obtain ⟨rfl, rfl⟩ := Re.ok_inj h; exact ⟨rfl, fun _ => rfl⟩
  · cases h

theorem nilK_any {x v : Value} (h : nilK x st = .ok v st') : st' = st ∧ ∀ s2, nilK x s2 = .ok v s2 := by
  unfold nilK at h
  split at h
  · obtain ⟨rfl, rfl⟩ := Re.ok_inj h; exact ⟨rfl, fun _ => rfl⟩
  · obtain ⟨rfl, rfl⟩ := Re.ok_inj h; exact ⟨rfl, fun _ => rfl⟩
  · obtain ⟨rfl, rfl⟩ := Re.ok_inj h; exact ⟨rfl, fun _ => rfl⟩
  · cases h

theorem extractK_any {x v : Value} {i : Nat} (h : extractK x i st = .ok v st') : st' = st ∧ ∀ s2, extractK x i s2 = .ok v s2 := by
  unfold extractK at h
  split at h
  · exact reO_any h
  · cases h

/-- What is pure is the same at every memory, and leaves it. -/
theorem pure_any {op : Op} (hc : cls op = .pure) {a : Ac} {v : Value} (h : stepS P rec (stpOf P op) a st = .ok v st') : st' = st ∧ ∀ s2, stepS P rec (stpOf P op) a s2 = .ok v s2 := by
  cases op with
  | move x => obtain ⟨rfl, rfl⟩ := Re.ok_inj h; exact ⟨rfl, fun _ => rfl⟩
  | assign x => obtain ⟨rfl, rfl⟩ := Re.ok_inj h; exact ⟨rfl, fun _ => rfl⟩
  | pick c x y => exact pickK_any h
  | build t ps => exact reO_any h
  | nilCheck x => exact nilK_any h
  | binOp o t x y k => exact reO_any h
  | unOp o t x => exact reO_any h
  | makeInterface t x => exact reO_any h
  | makeFunc fn f c =>
    cases fn with
    | func k => obtain ⟨rfl, rfl⟩ := Re.ok_inj h; exact ⟨rfl, fun _ => rfl⟩
    | _ => cases h
  | fieldAddr t x f => exact reO_any h
  | field t x f => exact reO_any h
  | indexAddr t x i => exact reO_any h
  | index t x i => exact reO_any h
  | typeAssert x t u ok => exact reO_any h
  | extract x i => exact extractK_any h
  | makeMap t r => cases r <;> cases hc
  | call c =>
    obtain ⟨callee, args, ats⟩ := c
    cases callee with
    | builtin b => cases b <;> cases hc
    | _ => cases hc
  | _ => cases hc

/-- What reads leaves memory as it is, and makes no call. -/
theorem reads_any {op : Op} (hc : cls op = .reads) {a : Ac} {v : Value} (h : stepS P rec (stpOf P op) a st = .ok v st') : st' = st := by
  cases op with
  | load t x =>
    have h : ptrK (evalA a x) .no (fun nm off => loadK (tyOf P t) nm off st) = Re.ok v st' := h
    obtain ⟨ad, _, h⟩ := ptrK_ok h Re.no_ne
    unfold loadK at h
    obtain ⟨d, n, es, ex, tr, ho, h⟩ := cellsK_ok h Re.no_ne
    cases hty : tyOf P t with
    | no => rw [hty] at h; cases h
    | agg kk =>
      rw [hty] at h
      obtain ⟨_, h⟩ := bsel_ne h Re.no_ne
      exact (Re.ok_inj h).2.symm
    | one =>
      rw [hty] at h
      obtain ⟨_, h⟩ := bsel_ne h Re.no_ne
      exact (Re.ok_inj h).2.symm
  | lookup t x i ok => exact (reO_ok h).2
  | convert s d x => exact (reO_ok h).2
  | slice t x lo hi mx =>
    cases mx with
    | some m => cases h
    | none => exact (reO_ok (st := st) h).2
  | makeMap t r => cases r <;> cases hc
  | call c =>
    obtain ⟨callee, args, ats⟩ := c
    cases callee with
    | builtin b =>
      cases b with
      | len =>
        have h : builtinA P .len ats (args.toList.map (evalA a)) st = .ok v st' := h
        generalize args.toList.map (evalA a) = xs at h
        cases xs with
        | nil => cases h
        | cons x xs =>
          cases xs with
          | cons y ys => cases h
          | nil =>
            have h : (match ats[0]? with | some t => reO (lenK (lnOf P t) x st) st | none => .no) = Re.ok v st' := h
            split at h
            · exact (reO_ok h).2
            · cases h
      | min =>
        have h : reO (minMaxA true (args.toList.map (evalA a))) st = .ok v st' := h
        exact (reO_ok h).2
      | max =>
        have h : reO (minMaxA false (args.toList.map (evalA a))) st = .ok v st' := h
        exact (reO_ok h).2
      | _ => cases hc
    | _ => cases hc
  | _ => cases hc

theorem reads_rec {op : Op} (hc : cls op = .reads) (rec rec' : Rec) (a : Ac) (st : St) : stepS P rec (stpOf P op) a st = stepS P rec' (stpOf P op) a st := by
  cases op with
  | call c =>
    obtain ⟨callee, args, ats⟩ := c
    cases callee with
    | value f => cases hc
    | _ => rfl
  | _ => rfl
end
end Go.Proofs.YtieclenlldjfjaaGreat.Ev

set_option autoImplicit false
set_option linter.unusedVariables false
set_option linter.unusedSimpArgs false
namespace Go.Proofs.YtieclenlldjfjaaGreat.Ev
open Go
section
variable {P : Program} {rec : Rec} {σ τ : Nm} {st st' : St} {w : World}

theorem same1_eq {u v : Value} (h : same1 u v = true) : u = v := by
  unfold same1 at h
  split at h
  · simp at h; rw [h]
  · rename_i j a k b
    rw [bsel_eq] at h
    split at h
    · rename_i hk
      rw [kEq_iff.1 hk]
      rw [iEq_eq] at h
      rw [beq_iff_eq.1 h]
    · cases h
  · rename_i a b
    have h : a.data.toList = b.data.toList := by simpa using h
    congr 1
    obtain ⟨⟨a⟩⟩ := a
    obtain ⟨⟨b⟩⟩ := b
    simp only at h
    rw [h]
  · rfl
  · rename_i a b
    obtain ⟨a1, a2, a3⟩ := a
    obtain ⟨b1, b2, b3⟩ := b
    simp only [Bool.and_eq_true, Nat.beq_eq, Option.isNone_iff_eq_none] at h
    obtain ⟨⟨⟨rfl, rfl⟩, rfl⟩, rfl⟩ := h
    rfl
  · rfl
  · rename_i a n m b n' m'
    obtain ⟨a1, a2, a3⟩ := a
    obtain ⟨b1, b2, b3⟩ := b
    simp only [Bool.and_eq_true, Nat.beq_eq, Option.isNone_iff_eq_none] at h
    obtain ⟨⟨⟨⟨⟨rfl, rfl⟩, rfl⟩, rfl⟩, rfl⟩, rfl⟩ := h
    rfl
  · rfl
  · rw [beq_iff.1 h]
  · rfl
  · rfl
  · cases h

theorem sameL_eq : ∀ {as bs : List Value}, sameL as bs = true → as = bs
  | [], [], _ => rfl
  | [], _ :: _, h => by cases h
  | _ :: _, [], h => by cases h
  | a :: as, b :: bs, h => by
    have h : bsel (same1 a b) (sameL as bs) false = true := h
    obtain ⟨h1, h2⟩ := bsel_ne h (by simp)
    rw [same1_eq h1, sameL_eq h2]

theorem sameV_eq {u v : Value} (h : sameV u v = true) : u = v := by
  unfold sameV at h
  split at h
  · rename_i as bs; exact congrArg _ (Array.ext' (sameL_eq h))
  · rename_i as bs; exact congrArg _ (Array.ext' (sameL_eq h))
  · rename_i t v u w
    rw [Bool.and_eq_true] at h
    rw [beq_iff.1 h.1, same1_eq h.2]
  · rename_i f as bs g cs ds
    simp only [Bool.and_eq_true, decide_eq_true_eq] at h
    obtain ⟨⟨rfl, h2⟩, h3⟩ := h
    rw [Array.ext' (sameL_eq h2), Array.ext' (sameL_eq h3)]
  · exact same1_eq h

/-! ## Names below -/
def cut (N : Nat) (τ : Nm) : Nm := fun nm => if nm < N then τ nm else none

theorem cut_some {N nm : Nat} {k : Blk} (h : τ nm = some k) (hn : nm < N) : cut N τ nm = some k := by unfold cut; rw [if_pos hn]; exact h
theorem cut_sub (N : Nat) (τ : Nm) : Sub (cut N τ) τ := fun nm k h => by
  unfold cut at h
  split at h
  · exact h
  · cases h

theorem all_mem {f : Value → Bool} {as : List Value} (h : as.all f = true) {i : Nat} {u : Value} (hu : as[i]? = some u) : f u = true := List.all_eq_true.1 h u (List.mem_of_getElem? hu)

theorem below_vr (hτ : ∀ nm, 65536 ≤ nm → τ nm = none) {N : Nat} : ∀ (d : Nat) {v v' : Value}, belowV d N v = true → VR τ v v' → VR (cut N τ) v v' := by
  intro d
  induction d with
  | zero =>
    intro v v' h hv
    have h : flat v = true := by simpa [belowV] using h
    cases hv with
    | bool b => exact .bool b
    | int k n => exact .int k n
    | string s => exact .string s
    | nilptr => exact .nilptr
    | nilslice => exact .nilslice
    | nilmap => exact .nilmap
    | nilFunc => exact .nilFunc
    | nilIface => exact .nilIface
    | void a c' => exact .void a c'
    | _ => cases h
  | succ d ih =>
    intro v v' h hv
    cases hv with
    | bool b => exact .bool b
    | int k n => exact .int k n
    | string s => exact .string s
    | nilptr => exact .nilptr
    | nilslice => exact .nilslice
    | nilmap => exact .nilmap
    | nilFunc => exact .nilFunc
    | nilIface => exact .nilIface
    | void a c' => exact .void a c'
    | ptr nm off k hk => exact .ptr nm off k (cut_some hk (ble_iff.1 h))
    | slice nm off n c c' k hk h1 h2 h3 =>
      have h : bsel (Nat.beq nm voidNm) true (Nat.ble (Nat.succ nm) N) = true := h
      rw [bsel_eq] at h
      split at h
      · rename_i hb
        have := beq_iff.1 hb
        subst this
        rw [hτ voidNm (by simp [voidNm])] at hk
        cases hk
      · exact .slice nm off n c c' k (cut_some hk (ble_iff.1 h)) h1 h2 h3
    | map nm k hk => exact .map nm k (cut_some hk (ble_iff.1 h))
    | func f as as' bs bs' h1 h2 h3 h4 =>
      have h : bsel (as.all (belowV d N)) (bs.all (belowV d N)) false = true := h
      obtain ⟨g1, g2⟩ := bsel_ne h (by simp)
      exact .func f as as' bs bs' h1 (fun i u v hu hv => ih (all_mem g1 hu) (h2 i u v hu hv)) h3 (fun i u v hu hv => ih (all_mem g2 hu) (h4 i u v hu hv))
    | yield l k hk => exact .yield l k (cut_some hk (ble_iff.1 h))
    | iface t u v hu =>
      have h : belowV d N u = true := h
      exact .iface t u v (ih h hu)
    | agg as as' h0 h1 h2 =>
      have h : as.all (belowV d N) = true := h
      exact .agg as as' h0 h1 (fun i u v hu hv => ih (all_mem h hu) (h2 i u v hu hv))
    | tuple as as' h1 h2 =>
      have h : as.all (belowV d N) = true := h
      exact .tuple as as' h1 (fun i u v hu hv => ih (all_mem h hu) (h2 i u v hu hv))

theorem opsBelow_ok {op : Op} {a : Ac} (h : opsBelow op a st = true) {x : Operand} (hx : x ∈ op.operands.toList) : belowV 6 st.next (evalA a x) = true := by
  obtain ⟨hp, n⟩ := st
  have h : (op.operands.toList.all fun x => belowV 6 n (evalA a x)) = true := h
  exact List.all_eq_true.1 h x hx

theorem nextLe_ok (h : nextLe st st' = true) : st.next ≤ st'.next := by
  obtain ⟨hp, n⟩ := st
  obtain ⟨hp', n'⟩ := st'
  exact ble_iff.1 h

/-- Nothing is alive: what is then related. -/
theorem Rel.nothing {τ : Nm} {w : World} (hτ : ∀ nm, 65536 ≤ nm → τ nm = none) (hb : ∀ nm k, τ nm = some k → k.b < w.heap.size) : Rel τ ⟨heap0, 65536⟩ w := by
  have hd : ∀ nm, ¬ Alive ⟨heap0, 65536⟩ nm := by
    intro nm h
    apply h
    rw [St.obj_mk]
    by_cases hn : nm < 65536
    · unfold objAt
      rw [bsel_eq, if_neg (by rw [ble_iff]; omega)]
      exact heap0_get hn
    · exact objAt_big (by omega)
  exact ⟨fun nm h => absurd h (hd nm), fun nm nm' k k' h => absurd h (hd nm), fun nm h => ⟨hτ nm h, hd nm⟩, hb, Nat.le_refl _⟩

/-! ## The check of a drawn region -/
theorem bit_test (m i : Nat) : bit m i = m.testBit i := by
  have e : bit m i = Nat.beq (Nat.land (Nat.shiftRight m i) 1) 1 := rfl
  rw [e, Nat.testBit]
  have h1 : Nat.land (Nat.shiftRight m i) 1 = 1 &&& (m >>> i) := by rw [Nat.and_comm]; rfl
  rw [h1]
  have h2 : 1 &&& (m >>> i) = (m >>> i) % 2 := by rw [Nat.and_comm]; exact Nat.and_one_is_mod _
  rw [h2]
  rcases Nat.mod_two_eq_zero_or_one (m >>> i) with h | h <;> rw [h] <;> rfl

theorem or_test (a b i : Nat) : (Nat.lor a b).testBit i = (a.testBit i || b.testBit i) := Nat.testBit_or a b i
theorem and_test (a b i : Nat) : (Nat.land a b).testBit i = (a.testBit i && b.testBit i) := Nat.testBit_and a b i
theorem one_test (n i : Nat) : (Nat.shiftLeft 1 n).testBit i = decide (n = i) := by
  show (1 <<< n).testBit i = _
  rw [Nat.one_shiftLeft, Nat.testBit_two_pow]

theorem dstBit_test (d : Option Tmp) (t : Nat) : (dstBit d).testBit t = true ↔ d = some t := by
  cases d with
  | none => simp [dstBit, osel]
  | some u =>
    show (Nat.shiftLeft 1 u).testBit t = true ↔ _
    rw [one_test]; simp

theorem tmpBits_test : ∀ (xs : List Operand) (t : Nat), .tmp t ∈ xs → (tmpBits xs).testBit t = true
  | [], t, h => by simp at h
  | x :: xs, t, h => by
    have e : tmpBits (x :: xs) = Operand.casesOn x (fun t => Nat.lor (tmpBits xs) (Nat.shiftLeft 1 t)) (fun _ => tmpBits xs) (fun _ => tmpBits xs) (fun _ => tmpBits xs) := rfl
    rw [e]
    rcases List.mem_cons.1 h with h1 | h1
    · subst h1
      show (Nat.lor (tmpBits xs) (Nat.shiftLeft 1 t)).testBit t = true
      rw [or_test, one_test]; simp
    · have := tmpBits_test xs t h1
      cases x with
      | tmp u =>
        show (Nat.lor (tmpBits xs) (Nat.shiftLeft 1 u)).testBit t = true
        rw [or_test, this]; rfl
      | _ => exact this

/-- The edges of an operation. -/
theorem nthI_eq : ∀ (xs : List Inf) (i : Nat), nthI xs i = xs[i]?
  | [], i => rfl
  | x :: xs, 0 => rfl
  | x :: xs, i + 1 => nthI_eq xs i

theorem edges_ok : ∀ {es : List Edge} {acc : List Inf} {c m : Nat}, edges acc es = some (c, m) →
    (∀ i, c.testBit i = true ↔ ∃ e, e ∈ es ∧ Region.binds .any e = true ∧ (e.on = i ∨ ∃ x, acc[e.on]? = some x ∧ x.cl.testBit i = true)) ∧
    (∀ t, m.testBit t = true → ∃ e, e ∈ es ∧ Region.binds .any e = true ∧ ∃ x, acc[e.on]? = some x ∧ (x.dst.testBit t = true ∨ x.dm.testBit t = true))
  | [], acc, c, m, h => by
    cases h
    exact ⟨fun i => by simp, fun t ht => by simp at ht⟩
  | e :: es, acc, c, m, h => by
    have h : bsel (Region.binds .any e) (osel (edges acc es) none fun p => osel (nthI acc e.on) none fun x =>
      some (Nat.lor p.1 (Nat.lor (Nat.shiftLeft 1 e.on) x.cl), Nat.lor p.2 (Nat.lor x.dst x.dm))) (edges acc es) = some (c, m) := h
    rw [bsel_eq] at h
    split at h
    · rename_i hb
      obtain ⟨p, hp, h⟩ := osel_ne h (by simp)
      obtain ⟨x, hx, h⟩ := osel_ne h (by simp)
      rw [nthI_eq] at hx
      obtain ⟨c0, m0⟩ := p
      obtain ⟨i1, i2⟩ := edges_ok hp
      cases h
      refine ⟨fun i => ?_, fun t ht => ?_⟩
      · rw [or_test, or_test, one_test, Bool.or_eq_true, Bool.or_eq_true, i1 i]
        constructor
        · rintro (⟨e', h1, h2⟩ | h1 | h1)
          · exact ⟨e', by simp [h1], h2⟩
          · exact ⟨e, by simp, hb, .inl (by simpa using h1)⟩
          · exact ⟨e, by simp, hb, .inr ⟨x, hx, h1⟩⟩
        · rintro ⟨e', h1, h2, h3⟩
          rcases List.mem_cons.1 h1 with rfl | h1
          · rcases h3 with h3 | ⟨y, hy, h3⟩
            · exact .inr (.inl (by simpa using h3))
            · rw [hx] at hy; cases hy; exact .inr (.inr h3)
          · exact .inl ⟨e', h1, h2, h3⟩
      · rw [or_test, or_test, Bool.or_eq_true, Bool.or_eq_true] at ht
        rcases ht with h1 | h1
        · obtain ⟨e', q1, q2⟩ := i2 t h1
          exact ⟨e', by simp [q1], q2⟩
        · exact ⟨e, by simp, hb, x, hx, h1⟩
    · rename_i hb
      obtain ⟨i1, i2⟩ := edges_ok h
      refine ⟨fun i => ?_, fun t ht => ?_⟩
      · rw [i1 i]
        constructor
        · rintro ⟨e', h1, h2⟩; exact ⟨e', by simp [h1], h2⟩
        · rintro ⟨e', h1, h2, h3⟩
          rcases List.mem_cons.1 h1 with rfl | h1
          · exact absurd h2 hb
          · exact ⟨e', h1, h2, h3⟩
      · obtain ⟨e', q1, q2⟩ := i2 t ht
        exact ⟨e', by simp [q1], q2⟩
end
end Go.Proofs.YtieclenlldjfjaaGreat.Ev

set_option autoImplicit false
set_option linter.unusedVariables false
set_option linter.unusedSimpArgs false
namespace Go.Proofs.YtieclenlldjfjaaGreat.Ev
open Go

def wr (xs : List Inf) : Nat := xs.foldl (fun m x => Nat.lor m x.dst) 0
def rd (xs : List Inf) : Nat := xs.foldl (fun m x => Nat.lor m x.looks) 0

theorem wr_snoc (xs : List Inf) (x : Inf) : wr (xs ++ [x]) = Nat.lor (wr xs) x.dst := by simp [wr]
theorem rd_snoc (xs : List Inf) (x : Inf) : rd (xs ++ [x]) = Nat.lor (rd xs) x.looks := by simp [rd]

theorem fold_test (f : Inf → Nat) (t : Nat) : ∀ (xs : List Inf) (m : Nat), (xs.foldl (fun m x => Nat.lor m (f x)) m).testBit t = true ↔ m.testBit t = true ∨ ∃ x, x ∈ xs ∧ (f x).testBit t = true
  | [], m => by simp
  | x :: xs, m => by
    rw [List.foldl_cons, fold_test f t xs, or_test, Bool.or_eq_true]
    constructor
    · rintro ((h | h) | ⟨y, h1, h2⟩)
      · exact .inl h
      · exact .inr ⟨x, by simp, h⟩
      · exact .inr ⟨y, by simp [h1], h2⟩
    · rintro (h | ⟨y, h1, h2⟩)
      · exact .inl (.inl h)
      · rcases List.mem_cons.1 h1 with rfl | h1
        · exact .inl (.inr h2)
        · exact .inr ⟨y, h1, h2⟩

theorem wr_test {xs : List Inf} {t : Nat} : (wr xs).testBit t = true ↔ ∃ x, x ∈ xs ∧ x.dst.testBit t = true := by
  unfold wr; rw [fold_test (·.dst)]; simp
theorem rd_test {xs : List Inf} {t : Nat} : (rd xs).testBit t = true ↔ ∃ x, x ∈ xs ∧ x.looks.testBit t = true := by
  unfold rd; rw [fold_test (·.looks)]; simp

theorem infs_ok {ops : Array Oper} {xs : List Inf} : ∀ (l : List Oper) (acc : List Inf), infs ops l acc (wr acc) (rd acc) = some xs →
    xs.length = acc.length + l.length ∧ xs.take acc.length = acc ∧
    ∀ i o, l[i]? = some o → ∃ x, xs[acc.length + i]? = some x ∧ infOf ops (xs.take (acc.length + i)) o = some x ∧ infOk x (xs.take (acc.length + i)) (wr (xs.take (acc.length + i))) (rd (xs.take (acc.length + i))) = true
  | [], acc, h => by
    have h : some acc = some xs := h
    cases h
    exact ⟨by simp, by simp, fun i o h => by simp at h⟩
  | o :: l, acc, h => by
    have h : (osel (infOf ops acc o) none fun x => bsel (infOk x acc (wr acc) (rd acc)) (infs ops l (acc ++ [x]) (Nat.lor (wr acc) x.dst) (Nat.lor (rd acc) x.looks)) none) = some xs := h
    obtain ⟨x, hx, h⟩ := osel_ne h (by simp)
    obtain ⟨hb, h⟩ := bsel_ne h (by simp)
    rw [← wr_snoc, ← rd_snoc] at h
    obtain ⟨h1, h2, h3⟩ := infs_ok l (acc ++ [x]) h
    simp only [List.length_append, List.length_singleton] at h1 h2 h3
    have ht : xs.take acc.length = acc := by
      have := congrArg (List.take acc.length) h2
      rw [List.take_take, Nat.min_eq_left (by omega), List.take_left'] at this
      · exact this
      · rfl
    refine ⟨by simp [h1]; omega, ht, fun i o' ho => ?_⟩
    cases i with
    | zero =>
      simp at ho
      subst ho
      refine ⟨x, ?_, ?_⟩
      · have : (xs.take (acc.length + 1))[acc.length]? = some x := by rw [h2]; simp
        rw [List.getElem?_take] at this
        split at this
        · exact this
        · cases this
      · rw [Nat.add_zero, ht]; exact ⟨hx, hb⟩
    | succ i =>
      have := h3 i o' (by simpa using ho)
      rw [show acc.length + 1 + i = acc.length + (i + 1) by omega] at this
      exact this

/-- What the check says of a region. -/
structure RegionOk (ops : Array Oper) (xs : List Inf) : Prop where
  len : xs.length = ops.size
  inf : ∀ i o, ops[i]? = some o → ∃ x, xs[i]? = some x ∧ infOf ops (xs.take i) o = some x ∧ infOk x (xs.take i) (wr (xs.take i)) (rd (xs.take i)) = true

theorem infs_region {ops : Array Oper} {xs : List Inf} (h : infs ops ops.toList [] 0 0 = some xs) : RegionOk ops xs := by
  obtain ⟨h1, h2, h3⟩ := infs_ok ops.toList [] h
  refine ⟨by simpa using h1, fun i o ho => ?_⟩
  have := h3 i o (by simpa using ho)
  simpa using this

section
variable {ops : Array Oper} {xs : List Inf}

theorem infOf_ok {acc : List Inf} {o : Oper} {x : Inf} (h : infOf ops acc o = some x) : edges acc o.after.toList = some (x.cl, x.dm) ∧ x.looks = Nat.lor (tmpBits o.op.operands.toList) (guardBit ops o) ∧ x.dst = dstBit o.dst ∧ x.strict = isStrict o.op ∧ x.mem = isMem o.op := by
  unfold infOf at h
  obtain ⟨p, hp, h⟩ := osel_ne h (by simp)
  cases h
  exact ⟨hp, rfl, rfl, rfl, rfl⟩

theorem take_at {i j : Nat} {x : Inf} (h : (xs.take i)[j]? = some x) : j < i ∧ xs[j]? = some x := by
  rw [List.getElem?_take] at h
  split at h
  · rename_i hj; exact ⟨hj, h⟩
  · cases h

theorem RegionOk.op (hR : RegionOk ops xs) {i : Nat} {x : Inf} (h : xs[i]? = some x) : ∃ o, ops[i]? = some o ∧ infOf ops (xs.take i) o = some x ∧ infOk x (xs.take i) (wr (xs.take i)) (rd (xs.take i)) = true := by
  have hi : i < ops.size := by rw [← hR.len]; exact (List.getElem?_eq_some_iff.1 h).1
  obtain ⟨y, h1, h2, h3⟩ := hR.inf i ops[i] (by simp [hi])
  rw [h] at h1; cases h1
  exact ⟨ops[i], by simp [hi], h2, h3⟩

/-- A set that edges do not leave holds what lies ahead. -/
theorem RegionOk.closed (hR : RegionOk ops xs) {D : Nat → Prop} (hD : ∀ j o, D j → ops[j]? = some o → ∀ e, e ∈ o.after.toList → Region.binds .any e = true → D e.on) :
    ∀ (i : Nat) (x : Inf) (o : Oper), xs[i]? = some x → ops[i]? = some o → (∀ e, e ∈ o.after.toList → Region.binds .any e = true → D e.on) → ∀ k, x.cl.testBit k = true → D k := by
  intro i
  induction i using Nat.strongRecOn with
  | _ i ih =>
    intro x o hx ho he k hk
    obtain ⟨o', ho', h1, _⟩ := hR.op hx
    rw [ho] at ho'; cases ho'
    obtain ⟨e, e1, e2, e3⟩ := ((edges_ok (infOf_ok h1).1).1 k).1 hk
    rcases e3 with rfl | ⟨y, hy, e3⟩
    · exact he e e1 e2
    · obtain ⟨hlt, hy⟩ := take_at hy
      obtain ⟨o2, ho2, _⟩ := hR.op hy
      exact ih e.on hlt y o2 hy ho2 (fun e' h1 h2 => hD e.on o2 (he e e1 e2) ho2 e' h1 h2) k e3

/-- What is marked as written ahead is written by something ahead. -/
theorem RegionOk.dm (hR : RegionOk ops xs) {t : Nat} : ∀ (i : Nat) (x : Inf), xs[i]? = some x → x.dm.testBit t = true → ∃ k y, k < i ∧ x.cl.testBit k = true ∧ xs[k]? = some y ∧ y.dst.testBit t = true := by
  intro i
  induction i using Nat.strongRecOn with
  | _ i ih =>
    intro x hx ht
    obtain ⟨o, ho, h1, _⟩ := hR.op hx
    have hE := edges_ok (infOf_ok h1).1
    obtain ⟨e, e1, e2, y, hy, e3⟩ := hE.2 t ht
    obtain ⟨hlt, hy'⟩ := take_at hy
    rcases e3 with e3 | e3
    · exact ⟨e.on, y, hlt, (hE.1 e.on).2 ⟨e, e1, e2, .inl rfl⟩, hy', e3⟩
    · obtain ⟨k, z, k1, k2, k3, k4⟩ := ih e.on hlt y hy' e3
      exact ⟨k, z, by omega, (hE.1 k).2 ⟨e, e1, e2, .inr ⟨y, hy, k2⟩⟩, k3, k4⟩

theorem mem_take {i j : Nat} {y : Inf} (hy : xs[i]? = some y) (h : i < j) : y ∈ xs.take j := List.mem_of_getElem? (i := i) (by rw [List.getElem?_take, if_pos h]; exact hy)

theorem readers_ok {cl d : Nat} : ∀ (acc : List Inf) (i : Nat), readersOk cl d acc i = true → ∀ j y, acc[j]? = some y → Nat.land y.looks d ≠ 0 → bit cl (i + j) = true
  | [], i, h, j, y, hy, _ => by simp at hy
  | x :: acc, i, h, j, y, hy, hne => by
    have h : bsel (Nat.beq (Nat.land x.looks d) 0) (readersOk cl d acc (Nat.succ i)) (bsel (bit cl i) (readersOk cl d acc (Nat.succ i)) false) = true := h
    rw [bsel_eq, bsel_eq] at h
    cases j with
    | zero =>
      cases hy
      rw [if_neg (fun e => hne (beq_iff.1 e))] at h
      split at h
      · assumption
      · cases h
    | succ j =>
      have h2 : readersOk cl d acc (Nat.succ i) = true := by
        split at h
        · exact h
        · split at h
          · exact h
          · cases h
      have := readers_ok acc (Nat.succ i) h2 j y (by simpa using hy) hne
      rw [show i + (j + 1) = Nat.succ i + j by omega]; exact this

theorem actors_ok {cl : Nat} : ∀ (acc : List Inf) (i : Nat), actorsOk cl acc i = true → ∀ j y, acc[j]? = some y → y.mem = true → bit cl (i + j) = true
  | [], i, h, j, y, hy, _ => by simp at hy
  | x :: acc, i, h, j, y, hy, hne => by
    have h : bsel x.mem (bsel (bit cl i) (actorsOk cl acc (Nat.succ i)) false) (actorsOk cl acc (Nat.succ i)) = true := h
    rw [bsel_eq, bsel_eq] at h
    cases j with
    | zero =>
      cases hy
      rw [if_pos hne] at h
      split at h
      · assumption
      · cases h
    | succ j =>
      have h2 : actorsOk cl acc (Nat.succ i) = true := by
        split at h
        · split at h
          · exact h
          · cases h
        · exact h
      have := actors_ok acc (Nat.succ i) h2 j y (by simpa using hy) hne
      rw [show i + (j + 1) = Nat.succ i + j by omega]; exact this

theorem zero_test {a b t : Nat} (h : Nat.land a b = 0) (ha : a.testBit t = true) (hb : b.testBit t = true) : False := by
  have := and_test a b t
  rw [h, ha, hb] at this
  simp at this

/-- One temporary, one writer. -/
theorem RegionOk.uniq (hR : RegionOk ops xs) {i j : Nat} {x y : Inf} (hi : xs[i]? = some x) (hj : xs[j]? = some y) (hlt : i < j) {t : Nat} (h1 : x.dst.testBit t = true) (h2 : y.dst.testBit t = true) : False := by
  obtain ⟨o, _, _, h⟩ := hR.op hj
  unfold infOk at h
  obtain ⟨hb, _⟩ := bsel_ne h (by simp)
  exact zero_test (beq_iff.1 hb) h2 (wr_test.2 ⟨x, mem_take hi hlt, h1⟩)

/-- Who looks at what an earlier one writes has it ahead. -/
theorem RegionOk.reads (hR : RegionOk ops xs) {i j : Nat} {x y : Inf} (hi : xs[i]? = some x) (hj : xs[j]? = some y) (hlt : i < j) {t : Nat} (h1 : x.dst.testBit t = true) (h2 : y.looks.testBit t = true) : y.cl.testBit i = true := by
  obtain ⟨o, _, _, h⟩ := hR.op hj
  unfold infOk at h
  obtain ⟨_, h⟩ := bsel_ne h (by simp)
  obtain ⟨hb, _⟩ := bsel_ne h (by simp)
  have e := beq_iff.1 hb
  have hlw : (Nat.land y.looks (wr (xs.take j))).testBit t = true := by rw [and_test, h2, wr_test.2 ⟨x, mem_take hi hlt, h1⟩]; rfl
  have hdm : y.dm.testBit t = true := by
    rw [← e, and_test, Bool.and_eq_true] at hlw
    exact hlw.2
  obtain ⟨k, z, k1, k2, k3, k4⟩ := hR.dm j y hj hdm
  rcases Nat.lt_trichotomy i k with h | h | h
  · exact (hR.uniq hi k3 h h1 k4).elim
  · subst h; exact k2
  · exact (hR.uniq k3 hi h k4 h1).elim

/-- Who writes what an earlier one looks at has that one ahead. -/
theorem RegionOk.writes (hR : RegionOk ops xs) {i j : Nat} {x y : Inf} (hi : xs[i]? = some x) (hj : xs[j]? = some y) (hlt : i < j) {t : Nat} (h1 : x.looks.testBit t = true) (h2 : y.dst.testBit t = true) : y.cl.testBit i = true := by
  obtain ⟨o, _, _, h⟩ := hR.op hj
  unfold infOk at h
  obtain ⟨_, h⟩ := bsel_ne h (by simp)
  obtain ⟨_, h⟩ := bsel_ne h (by simp)
  obtain ⟨hb, _⟩ := bsel_ne h (by simp)
  rw [bsel_eq] at hb
  split at hb
  · rename_i hz
    exact (zero_test (beq_iff.1 hz) h2 (rd_test.2 ⟨x, mem_take hi hlt, h1⟩)).elim
  · have := readers_ok _ 0 hb i x (by rw [List.getElem?_take, if_pos hlt]; exact hi) (fun e => zero_test e h1 h2)
    rwa [Nat.zero_add, bit_test] at this

/-- What works on memory, but an alloc, has all ahead that works on memory before it. -/
theorem RegionOk.order (hR : RegionOk ops xs) {i j : Nat} {x y : Inf} (hi : xs[i]? = some x) (hj : xs[j]? = some y) (hlt : i < j) (h1 : x.mem = true) (h2 : y.strict = true) : y.cl.testBit i = true := by
  obtain ⟨o, _, _, h⟩ := hR.op hj
  unfold infOk at h
  obtain ⟨_, h⟩ := bsel_ne h (by simp)
  obtain ⟨_, h⟩ := bsel_ne h (by simp)
  obtain ⟨_, h⟩ := bsel_ne h (by simp)
  rw [bsel_eq, if_pos h2] at h
  have := actors_ok _ 0 h i x (by rw [List.getElem?_take, if_pos hlt]; exact hi) h1
  rwa [Nat.zero_add, bit_test] at this
end
end Go.Proofs.YtieclenlldjfjaaGreat.Ev

set_option autoImplicit false
set_option linter.unusedVariables false
set_option linter.unusedSimpArgs false
namespace Go.Proofs.YtieclenlldjfjaaGreat.Ev
open Go

/-- What is known of one operation of a drawn region that has been followed in the list's order. -/
structure Fact (P : Program) (rec : Rec) (ops : Array Oper) (A : Nat → Ac) (S : Nat → St) (V : Nat → Value) (lo : Nat) (hist : List (Nat × St)) (watch : List Watch) (k : Nat) (o : Oper) (m : Nat) : Prop where
  put : (A k).put o.dst (V k) (S k) = .ok (A (k + 1)) (S k)
  off : wantedA ops o (A k) = false → V k = junk ∧ S (k + 1) = S k
  on : wantedA ops o (A k) = true → stepS P rec (stpOf P o.op) (A k) (S k) = .ok (V k) (S (k + 1))
  rd : wantedA ops o (A k) = true → cls o.op = .reads → opsBelow o.op (A k) (S k) = true ∧ (∀ q, q ∈ hist → bit m q.1 = true ∨ readsV P o.op (A k) (V k) q.2 = true) ∧
    ∀ j oj, lo ≤ j → j < k → ops[j]? = some oj → wantedA ops oj (A j) = true → isMem oj.op = true → bit m j = true ∨ readsV P o.op (A k) (V k) (S j) = true
  mm : wantedA ops o (A k) = true → isMem o.op = true → opsBelow o.op (A k) (S k) = true ∧ (S k).next ≤ (S (k + 1)).next ∧ (∀ q, q ∈ watch → bit m q.i = true ∨ readsV P q.op q.a q.v (S (k + 1)) = true) ∧
    ∀ j oj, lo ≤ j → j < k → ops[j]? = some oj → wantedA ops oj (A j) = true → cls oj.op = .reads → bit m j = true ∨ readsV P oj.op (A j) (V j) (S (k + 1)) = true

theorem or_of_bsel {b c : Bool} (h : bsel b true c = true) : b = true ∨ c = true := by cases b <;> simp_all [bsel]

section
variable {P : Program} {rec : Rec} {ops : Array Oper}

theorem put_st {a : Ac} {dst : Option Tmp} {v : Value} {st st2 : St} {a' : Ac} (h : a.put dst v st = .ok a' st2) : a.put dst v st = .ok a' st := by
  have := (Ac.put_ok h).1
  subst this; exact h

/-- One operation ahead of the others. -/
theorem Fact.cons {o : Oper} {l : List Oper} {m : Nat} {cl : List Nat} {i : Nat} {a a1 : Ac} {st st1 : St} {v : Value} {hist hist' : List (Nat × St)} {watch watch' : List Watch} {A' : Nat → Ac} {S' : Nat → St} {V' : Nat → Value}
    (hops : ops[i]? = some o) (hA' : A' (i + 1) = a1) (hS' : S' (i + 1) = st1)
    (hput : a.put o.dst v st = .ok a1 st) (hoff : wantedA ops o a = false → v = junk ∧ st1 = st) (hon : wantedA ops o a = true → stepS P rec (stpOf P o.op) a st = .ok v st1)
    (hrd : wantedA ops o a = true → cls o.op = .reads → opsBelow o.op a st = true ∧ ∀ q, q ∈ hist → bit m q.1 = true ∨ readsV P o.op a v q.2 = true)
    (hmm : wantedA ops o a = true → isMem o.op = true → opsBelow o.op a st = true ∧ st.next ≤ st1.next ∧ ∀ q, q ∈ watch → bit m q.i = true ∨ readsV P q.op q.a q.v st1 = true)
    (hh : ∀ q, q ∈ hist → q ∈ hist') (hh2 : wantedA ops o a = true → isMem o.op = true → (i, st) ∈ hist')
    (hw : ∀ q, q ∈ watch → q ∈ watch') (hw2 : wantedA ops o a = true → cls o.op = .reads → ({ op := o.op, i, a, v } : Watch) ∈ watch')
    (hF : ∀ j o' m', l[j]? = some o' → cl[j]? = some m' → Fact P rec ops A' S' V' (i + 1) hist' watch' (i + 1 + j) o' m') :
    ∃ A S V, A i = a ∧ S i = st ∧ (∀ k, i < k → A k = A' k) ∧ (∀ k, i < k → S k = S' k) ∧
      ∀ j o' m', (o :: l)[j]? = some o' → (m :: cl)[j]? = some m' → Fact P rec ops A S V i hist watch (i + j) o' m' := by
  let A : Nat → Ac := fun k => if k = i then a else A' k
  let S : Nat → St := fun k => if k = i then st else S' k
  let V : Nat → Value := fun k => if k = i then v else V' k
  have hAi : A i = a := if_pos rfl
  have hSi : S i = st := if_pos rfl
  have hVi : V i = v := if_pos rfl
  have hA : ∀ k, i < k → A k = A' k := fun k hk => if_neg (by omega)
  have hS : ∀ k, i < k → S k = S' k := fun k hk => if_neg (by omega)
  have hV : ∀ k, i < k → V k = V' k := fun k hk => if_neg (by omega)
  refine ⟨A, S, V, hAi, hSi, hA, hS, fun j o' m' ho hm => ?_⟩
  cases j with
  | zero =>
    cases ho; cases hm
    rw [Nat.add_zero]
    have e1 : A (i + 1) = a1 := by rw [hA _ (by omega), hA']
    have e2 : S (i + 1) = st1 := by rw [hS _ (by omega), hS']
    refine ⟨?_, ?_, ?_, ?_, ?_⟩
    · rw [hAi, hSi, hVi, e1]; exact hput
    · rw [hAi, hSi, hVi, e2]; exact hoff
    · rw [hAi, hSi, hVi, e2]; exact hon
    · rw [hAi, hSi, hVi]
      exact fun h1 h2 => ⟨(hrd h1 h2).1, (hrd h1 h2).2, fun j oj h3 h4 => by omega⟩
    · rw [hAi, hSi, e2]
      exact fun h1 h2 => ⟨(hmm h1 h2).1, (hmm h1 h2).2.1, (hmm h1 h2).2.2, fun j oj h3 h4 => by omega⟩
  | succ j =>
    have hf := hF j o' m' (by simpa using ho) (by simpa using hm)
    have hk : i + 1 + j = i + (j + 1) := by omega
    rw [hk] at hf
    have q1 := hA (i + (j + 1)) (by omega)
    have q2 := hS (i + (j + 1)) (by omega)
    have q3 := hV (i + (j + 1)) (by omega)
    have q4 := hA (i + (j + 1) + 1) (by omega)
    have q5 := hS (i + (j + 1) + 1) (by omega)
    refine ⟨?_, ?_, ?_, ?_, ?_⟩
    · rw [q1, q2, q3, q4]; exact hf.put
    · rw [q1, q2, q3, q5]; exact hf.off
    · rw [q1, q2, q3, q5]; exact hf.on
    · rw [q1, q2, q3]
      intro h1 h2
      obtain ⟨g1, g2, g3⟩ := hf.rd h1 h2
      refine ⟨g1, fun q hq => g2 q (hh q hq), fun j2 oj h3 h4 h5 h6 h7 => ?_⟩
      by_cases e : j2 = i
      · subst e
        rw [hops] at h5; cases h5
        rw [hAi] at h6
        rw [hSi]
        exact g2 _ (hh2 h6 h7)
      · rw [hA j2 (by omega)] at h6
        rw [hS j2 (by omega)]
        exact g3 j2 oj (by omega) h4 h5 h6 h7
    · rw [q1, q2, q5]
      intro h1 h2
      obtain ⟨g1, g2, g3, g4⟩ := hf.mm h1 h2
      refine ⟨g1, g2, fun q hq => g3 q (hw q hq), fun j2 oj h3 h4 h5 h6 h7 => ?_⟩
      by_cases e : j2 = i
      · subst e
        rw [hops] at h5; cases h5
        rw [hAi] at h6
        rw [hAi, hVi]
        exact g3 _ (hw2 h6 h7)
      · rw [hA j2 (by omega)] at h6
        rw [hA j2 (by omega), hV j2 (by omega)]
        exact g4 j2 oj (by omega) h4 h5 h6 h7

theorem isMem_cls {op : Op} (h : isMem op = true) : cls op = .acts ∨ cls op = .makes := by
  unfold isMem at h
  cases hc : cls op <;> rw [hc] at h <;> simp_all

theorem draw_trace : ∀ (l : List Oper) (cl : List Nat) (i : Nat) (a : Ac) (st : St) (hist : List (Nat × St)) (watch : List Watch) (a' : Ac) (st' : St), (∀ j, l[j]? = ops[i + j]?) → drawOps P rec ops l cl i a st hist watch = .ok a' st' →
    ∃ A S V, A i = a ∧ S i = st ∧ A (i + l.length) = a' ∧ S (i + l.length) = st' ∧ ∀ j o m, l[j]? = some o → cl[j]? = some m → Fact P rec ops A S V i hist watch (i + j) o m
  | [], cl, i, a, st, hist, watch, a', st', hl, h => by
    cases h
    exact ⟨fun _ => a, fun _ => st, fun _ => junk, rfl, rfl, rfl, rfl, fun j o m h => by simp at h⟩
  | o :: l, [], i, a, st, hist, watch, a', st', hl, h => by cases h
  | o :: l, m :: cl, i, a, st, hist, watch, a', st', hl, h => by
    have hops : ops[i]? = some o := by have := hl 0; simpa using this.symm
    have hl' : ∀ j, l[j]? = ops[i + 1 + j]? := fun j => by have := hl (j + 1); rw [show i + 1 + j = i + (j + 1) by omega]; simpa using this
    have wrap : ∀ {a1 : Ac} {st1 : St} {v : Value} {hist' : List (Nat × St)} {watch' : List Watch}, drawOps P rec ops l cl (i + 1) a1 st1 hist' watch' = .ok a' st' →
        a.put o.dst v st = .ok a1 st → (wantedA ops o a = false → v = junk ∧ st1 = st) → (wantedA ops o a = true → stepS P rec (stpOf P o.op) a st = .ok v st1) →
        (wantedA ops o a = true → cls o.op = .reads → opsBelow o.op a st = true ∧ ∀ q, q ∈ hist → bit m q.1 = true ∨ readsV P o.op a v q.2 = true) →
        (wantedA ops o a = true → isMem o.op = true → opsBelow o.op a st = true ∧ st.next ≤ st1.next ∧ ∀ q, q ∈ watch → bit m q.i = true ∨ readsV P q.op q.a q.v st1 = true) →
        (∀ q, q ∈ hist → q ∈ hist') → (wantedA ops o a = true → isMem o.op = true → (i, st) ∈ hist') → (∀ q, q ∈ watch → q ∈ watch') → (wantedA ops o a = true → cls o.op = .reads → ({ op := o.op, i, a, v } : Watch) ∈ watch') →
        ∃ A S V, A i = a ∧ S i = st ∧ A (i + (o :: l).length) = a' ∧ S (i + (o :: l).length) = st' ∧ ∀ j o' m', (o :: l)[j]? = some o' → (m :: cl)[j]? = some m' → Fact P rec ops A S V i hist watch (i + j) o' m' := by
      intro a1 st1 v hist' watch' hrun hput hoff hon hrd hmm hh hh2 hw hw2
      obtain ⟨A', S', V', e1, e2, e3, e4, hF⟩ := draw_trace l cl (i + 1) a1 st1 hist' watch' a' st' hl' hrun
      obtain ⟨A, S, V, f1, f2, f3, f4, f5⟩ := Fact.cons hops e1 e2 hput hoff hon hrd hmm hh hh2 hw hw2 hF
      have hlen : i + (o :: l).length = i + 1 + l.length := by simp; omega
      exact ⟨A, S, V, f1, f2, by rw [hlen, f3 _ (by omega)]; exact e3, by rw [hlen, f4 _ (by omega)]; exact e4, f5⟩
    unfold drawOps at h
    rw [bsel_eq] at h
    by_cases hwa : wantedA ops o a = true
    · rw [if_pos hwa] at h
      cases hs : stepS P rec (stpOf P o.op) a st with
      | no => rw [hs] at h; cases h
      | ok v st1 =>
        rw [hs] at h
        simp only [] at h
        cases hp : a.put o.dst v st with
        | no => rw [hp] at h; cases h
        | ok a1 st2 =>
          rw [hp] at h
          simp only [] at h
          have hp := put_st hp
          cases hc : cls o.op with
          | pure =>
            rw [hc] at h
            simp only [] at h
            obtain ⟨rfl, _⟩ := pure_any hc hs
            exact wrap h hp (fun e => by rw [hwa] at e; cases e) (fun _ => hs) (fun _ e => by rw [hc] at e; cases e) (fun _ e => by rcases isMem_cls e with e | e <;> rw [hc] at e <;> cases e) (fun q hq => hq)
              (fun _ e => by rcases isMem_cls e with e | e <;> rw [hc] at e <;> cases e) (fun q hq => hq) (fun _ e => by rw [hc] at e; cases e)
          | reads =>
            rw [hc] at h
            simp only [] at h
            have := reads_any hc hs
            subst this
            obtain ⟨hb1, h⟩ := bsel_ne (α := Ra) h (by simp)
            obtain ⟨hb2, h⟩ := bsel_ne (α := Ra) h (by simp)
            refine wrap h hp (fun e => by rw [hwa] at e; cases e) (fun _ => hs) (fun _ _ => ⟨hb1, fun q hq => or_of_bsel (List.all_eq_true.1 hb2 q hq)⟩) (fun _ e => by rcases isMem_cls e with e | e <;> rw [hc] at e <;> cases e) (fun q hq => hq)
              (fun _ e => by rcases isMem_cls e with e | e <;> rw [hc] at e <;> cases e) (fun q hq => List.mem_cons_of_mem _ hq) (fun _ _ => List.mem_cons_self ..)
          | makes =>
            rw [hc] at h
            simp only [] at h
            obtain ⟨hb1, h⟩ := bsel_ne (α := Ra) h (by simp)
            obtain ⟨hb2, h⟩ := bsel_ne (α := Ra) h (by simp)
            obtain ⟨hb3, h⟩ := bsel_ne (α := Ra) h (by simp)
            exact wrap h hp (fun e => by rw [hwa] at e; cases e) (fun _ => hs) (fun _ e => by rw [hc] at e; cases e) (fun _ _ => ⟨hb1, nextLe_ok hb2, fun q hq => or_of_bsel (List.all_eq_true.1 hb3 q hq)⟩) (fun q hq => List.mem_cons_of_mem _ hq)
              (fun _ _ => List.mem_cons_self ..) (fun q hq => hq) (fun _ e => by rw [hc] at e; cases e)
          | acts =>
            rw [hc] at h
            simp only [] at h
            obtain ⟨hb1, h⟩ := bsel_ne (α := Ra) h (by simp)
            obtain ⟨hb2, h⟩ := bsel_ne (α := Ra) h (by simp)
            obtain ⟨hb3, h⟩ := bsel_ne (α := Ra) h (by simp)
            exact wrap h hp (fun e => by rw [hwa] at e; cases e) (fun _ => hs) (fun _ e => by rw [hc] at e; cases e) (fun _ _ => ⟨hb1, nextLe_ok hb2, fun q hq => or_of_bsel (List.all_eq_true.1 hb3 q hq)⟩) (fun q hq => List.mem_cons_of_mem _ hq)
              (fun _ _ => List.mem_cons_self ..) (fun q hq => hq) (fun _ e => by rw [hc] at e; cases e)
    · rw [if_neg hwa] at h
      cases hp : a.put o.dst junk st with
      | no => rw [hp] at h; cases h
      | ok a1 st2 =>
        rw [hp] at h
        simp only [] at h
        exact wrap h (put_st hp) (fun _ => ⟨rfl, rfl⟩) (fun e => absurd e hwa) (fun e => absurd e hwa) (fun e => absurd e hwa) (fun q hq => hq) (fun e => absurd e hwa) (fun q hq => hq) (fun e => absurd e hwa)
end
end Go.Proofs.YtieclenlldjfjaaGreat.Ev

set_option autoImplicit false
set_option linter.unusedVariables false
set_option linter.unusedSimpArgs false
namespace Go.Proofs.YtieclenlldjfjaaGreat.Ev
open Go

structure Tr (P : Program) (rec : Rec) (ops : Array Oper) (xs : List Inf) (A : Nat → Ac) (S : Nat → St) (V : Nat → Value) : Prop where
  R : RegionOk ops xs
  ok : OpsOk ops
  fact : ∀ k o x, ops[k]? = some o → xs[k]? = some x → Fact P rec ops A S V 0 [] [] k o x.cl

def WM (ops : Array Oper) (A : Nat → Ac) (k : Nat) : Prop := ∃ o, ops[k]? = some o ∧ wantedA ops o (A k) = true ∧ isMem o.op = true

/-- The temporaries, when the operations of D have been done. -/
def Regs0 (ops : Array Oper) (V : Nat → Value) (a0 : Ac) (D : Nat → Prop) (b : Ac) : Prop := b.n = a0.n ∧ b.defers = a0.defers ∧ ∀ t, t < 512 →
  (∀ j o, D j → ops[j]? = some o → o.dst = some t → (regAt t).g b.t = V j) ∧ ((∀ j o, D j → ops[j]? = some o → o.dst ≠ some t) → (regAt t).g b.t = (regAt t).g a0.t)

section
variable {P : Program} {rec : Rec} {ops : Array Oper} {xs : List Inf} {A : Nat → Ac} {S : Nat → St} {V : Nat → Value}

theorem mem_ops {i : Nat} {o : Oper} (h : ops[i]? = some o) : o ∈ ops.toList := by
  rw [← Array.getElem?_toList] at h
  exact List.mem_of_getElem? h

theorem Tr.op (T : Tr P rec ops xs A S V) {k : Nat} {o : Oper} (h : ops[k]? = some o) : ∃ x, xs[k]? = some x ∧ Fact P rec ops A S V 0 [] [] k o x.cl := by
  obtain ⟨x, hx, _⟩ := T.R.inf k o h
  exact ⟨x, hx, T.fact k o x h hx⟩

theorem get_op {k : Nat} (h : k < ops.size) : ∃ o, ops[k]? = some o := ⟨ops[k], by simp [h]⟩
theorem op_lt {k : Nat} {o : Oper} (h : ops[k]? = some o) : k < ops.size := (Array.getElem?_eq_some_iff.1 h).1

theorem Tr.uniq (T : Tr P rec ops xs A S V) {i j : Nat} {o o' : Oper} (hi : ops[i]? = some o) (hj : ops[j]? = some o') (hne : i ≠ j) {t : Nat} (h : o.dst = some t) : o'.dst ≠ some t := by
  intro h'
  obtain ⟨x, hx, hx2, _⟩ := T.R.inf i o hi
  obtain ⟨y, hy, hy2, _⟩ := T.R.inf j o' hj
  have h1 : x.dst.testBit t = true := by rw [(infOf_ok hx2).2.2.1]; exact (dstBit_test _ _).2 h
  have h2 : y.dst.testBit t = true := by rw [(infOf_ok hy2).2.2.1]; exact (dstBit_test _ _).2 h'
  rcases Nat.lt_or_gt_of_ne hne with hlt | hlt
  · exact T.R.uniq hx hy hlt h1 h2
  · exact T.R.uniq hy hx hlt h2 h1

theorem put_ok2 {a : Ac} {dst : Option Tmp} {v : Value} {st : St} {a' : Ac} {st' : St} (h : a.put dst v st = .ok a' st') :
    a'.n = a.n ∧ a'.defers = a.defers ∧ (dst = none → a' = a) ∧ ∀ d, dst = some d → @LT.lt Nat _ d a.n ∧ a'.t = (regAt d).s v a.t := by
  cases dst with
  | none =>
    obtain ⟨_, p1, p2, p3⟩ := Ac.put_ok h
    exact ⟨p1, p2, fun _ => p3, fun d h => by cases h⟩
  | some d =>
    obtain ⟨_, p1, p2, p3⟩ := Ac.put_ok h
    exact ⟨p1, p2, fun h => (by cases h), fun d' h => by cases h; exact p3⟩

/-- One more is done. -/
theorem Regs0.put (hok : OpsOk ops) {a0 : Ac} {D D' : Nat → Prop} {b b' : Ac} (h : Regs0 ops V a0 D b) {i : Nat} {o : Oper} (hi : ops[i]? = some o) {st st2 : St} (hp : b.put o.dst (V i) st = .ok b' st2)
    (hu : ∀ j o' t, ops[j]? = some o' → i ≠ j → o.dst = some t → o'.dst ≠ some t) (hD : ∀ k, D' k ↔ D k ∨ k = i) : Regs0 ops V a0 D' b' := by
  obtain ⟨h1, h2, h3⟩ := h
  obtain ⟨p1, p2, p3, p5⟩ := put_ok2 hp
  refine ⟨p1.trans h1, p2.trans h2, fun t ht => ?_⟩
  cases hd : o.dst with
  | none =>
    have p3 : b' = b := p3 hd
    subst p3
    refine ⟨fun j o' hj ho' hdst => ?_, fun hno => (h3 t ht).2 fun j o' hj => hno j o' ((hD j).2 (.inl hj))⟩
    rcases (hD j).1 hj with hj | rfl
    · exact (h3 t ht).1 j o' hj ho' hdst
    · rw [hi] at ho'; cases ho'; rw [hd] at hdst; cases hdst
  | some d =>
    obtain ⟨p3, p4⟩ := p5 d hd
    have hd5 : @LT.lt Nat _ d 512 := by
      have := hok.dst o (mem_ops hi)
      rw [hd] at this
      exact ble_iff.1 this
    rw [p4]
    by_cases e : t = d
    · subst e
      rw [regAt_same ht]
      refine ⟨fun j o' hj ho' hdst => ?_, fun hno => ?_⟩
      · by_cases hji : i = j
        · subst hji; rfl
        · exact absurd hdst (hu j o' t ho' hji hd)
      · exact absurd hd (hno i o ((hD i).2 (.inr rfl)) hi)
    · rw [regAt_other ht hd5 e]
      refine ⟨fun j o' hj ho' hdst => ?_, fun hno => (h3 t ht).2 fun j o' hj => hno j o' ((hD j).2 (.inl hj))⟩
      rcases (hD j).1 hj with hj | rfl
      · exact (h3 t ht).1 j o' hj ho' hdst
      · rw [hi] at ho'; cases ho'; rw [hd] at hdst; cases hdst; exact absurd rfl e

theorem Tr.canon (T : Tr P rec ops xs A S V) : ∀ k, k ≤ ops.size → Regs0 ops V (A 0) (fun j => j < k) (A k)
  | 0, _ => ⟨rfl, rfl, fun t ht => ⟨fun j o hj => absurd hj (Nat.not_lt_zero j), fun _ => rfl⟩⟩
  | k + 1, hk => by
    obtain ⟨o, ho⟩ := get_op (ops := ops) (k := k) hk
    obtain ⟨x, hx, hf⟩ := T.op ho
    exact (Tr.canon T k (by omega)).put T.ok ho hf.put (fun j o' t hj hne hd => T.uniq ho hj hne hd) (fun j => by omega)

/-- A region is looked at in the state that the list's order gives. -/
theorem Tr.look (T : Tr P rec ops xs A S V) {D : Nat → Prop} (hcl : ∀ j x, D j → xs[j]? = some x → ∀ k, x.cl.testBit k = true → D k) {b : Ac} (hb : Regs0 ops V (A 0) D b) {i : Nat} {x : Inf} (hx : xs[i]? = some x) (hni : ¬ D i)
    (hci : ∀ k, x.cl.testBit k = true → D k) (hin : ∀ j, D j → j < ops.size) {t : Nat} (ht : t < 512) (hl : x.looks.testBit t = true) : (regAt t).g b.t = (regAt t).g (A i).t := by
  have hi : i < ops.size := by rw [← T.R.len]; exact (List.getElem?_eq_some_iff.1 hx).1
  have hA := (T.canon i (by omega)).2.2 t ht
  have hB := hb.2.2 t ht
  have dbit : ∀ (j : Nat) (o : Oper), ops[j]? = some o → o.dst = some t → ∃ y : Inf, xs[j]? = some y ∧ y.dst.testBit t = true := by
    intro j o ho hd
    obtain ⟨y, hy, hy2, _⟩ := T.R.inf j o ho
    exact ⟨y, hy, by rw [(infOf_ok hy2).2.2.1]; exact (dstBit_test _ _).2 hd⟩
  by_cases hex : ∃ (j : Nat) (o : Oper), j < i ∧ ops[j]? = some o ∧ o.dst = some t
  · obtain ⟨j, o, hj, ho, hd⟩ := hex
    obtain ⟨y, hy, hyd⟩ := dbit j o ho hd
    have hDj : D j := hci j (T.R.reads hy hx hj hyd hl)
    rw [hA.1 j o hj ho hd, hB.1 j o hDj ho hd]
  · rw [hA.2 (fun j o hj ho hd => hex ⟨j, o, hj, ho, hd⟩)]
    refine hB.2 fun j o hj ho hd => ?_
    rcases Nat.lt_trichotomy j i with h | h | h
    · exact hex ⟨j, o, h, ho, hd⟩
    · subst h; exact hni hj
    · obtain ⟨y, hy, hyd⟩ := dbit j o ho hd
      exact hni (hcl j y hj hy i (T.R.writes hx hy h hl hyd))

theorem Tr.evals (T : Tr P rec ops xs A S V) {i : Nat} {o : Oper} {x : Inf} (ho : ops[i]? = some o) (hx : xs[i]? = some x) {b : Ac} (hl : ∀ t, t < 512 → x.looks.testBit t = true → (regAt t).g b.t = (regAt t).g (A i).t) :
    (∀ y, y ∈ o.op.operands.toList → evalA b y = evalA (A i) y) ∧ wantedA ops o b = wantedA ops o (A i) := by
  obtain ⟨o', ho', h1, _⟩ := T.R.op hx
  rw [ho] at ho'; cases ho'
  have hlk := (infOf_ok h1).2.1
  refine ⟨fun y hy => ?_, ?_⟩
  · cases y with
    | tmp t =>
      have ht : @LT.lt Nat _ t 512 := ble_iff.1 (T.ok.opd o (mem_ops ho) _ hy)
      show b.get t = (A i).get t
      rw [Ac.get_eq, Ac.get_eq]
      exact hl t ht (by rw [hlk, or_test, tmpBits_test _ t hy]; rfl)
    | _ => rfl
  · unfold wantedA gdOf
    cases hg : o.guard with
    | none => rfl
    | some q =>
      obtain ⟨j, want⟩ := q
      simp only []
      cases hj : ops[j]? with
      | none => rfl
      | some g =>
        simp only []
        cases hd : g.dst with
        | none => rfl
        | some d =>
          have hd5 : @LT.lt Nat _ d 512 := by
            have := T.ok.dst g (mem_ops hj)
            rw [hd] at this
            exact ble_iff.1 this
          show isBool (b.get d) want = isBool ((A i).get d) want
          rw [Ac.get_eq, Ac.get_eq, hl d hd5]
          rw [hlk, or_test]
          have : (guardBit ops o).testBit d = true := by
            unfold guardBit
            rw [hg]
            simp only [hj]
            exact (dstBit_test _ _).2 hd
          rw [this, Bool.or_true]

theorem not_mem_cls {op : Op} (h : isMem op = false) : cls op = .pure ∨ cls op = .reads := by
  unfold isMem at h
  cases hc : cls op <;> rw [hc] at h <;> simp_all

theorem Tr.still (T : Tr P rec ops xs A S V) {k : Nat} (hk : k < ops.size) (hn : ¬ WM ops A k) : S (k + 1) = S k := by
  obtain ⟨o, ho⟩ := get_op hk
  obtain ⟨x, hx, hf⟩ := T.op ho
  cases hw : wantedA ops o (A k) with
  | false => exact (hf.off hw).2
  | true =>
    cases hm : isMem o.op with
    | true => exact absurd ⟨o, ho, hw, hm⟩ hn
    | false =>
      rcases not_mem_cls hm with hc | hc
      · exact (pure_any hc (hf.on hw)).1
      · exact reads_any hc (hf.on hw)

theorem Tr.le1 (T : Tr P rec ops xs A S V) {k : Nat} (hk : k < ops.size) : (S k).next ≤ (S (k + 1)).next := by
  by_cases h : WM ops A k
  · obtain ⟨o, ho, hw, hm⟩ := h
    obtain ⟨x, hx, hf⟩ := T.op ho
    exact (hf.mm hw hm).2.1
  · rw [T.still hk h]; exact Nat.le_refl _

theorem Tr.le (T : Tr P rec ops xs A S V) {i : Nat} : ∀ j, i ≤ j → j ≤ ops.size → (S i).next ≤ (S j).next
  | 0, h, _ => by have : i = 0 := by omega
                  subst this; exact Nat.le_refl _
  | j + 1, h, hj => by
    by_cases e : i = j + 1
    · subst e; exact Nat.le_refl _
    · exact Nat.le_trans (Tr.le T j (by omega) (by omega)) (T.le1 (by omega))

/-- Where nothing worked on memory. -/
theorem Tr.stills (T : Tr P rec ops xs A S V) {i : Nat} : ∀ j, i ≤ j → j ≤ ops.size → (∀ k, i ≤ k → k < j → ¬ WM ops A k) → S j = S i
  | 0, h, _, _ => by have : i = 0 := by omega
                     subst this; rfl
  | j + 1, h, hj, hn => by
    by_cases e : i = j + 1
    · subst e; rfl
    · rw [T.still (by omega) (hn j (by omega) (by omega))]
      exact Tr.stills T j (by omega) (by omega) (fun k h1 h2 => hn k h1 (by omega))

/-- An alloc, in the list's order. -/
theorem Tr.alloc (T : Tr P rec ops xs A S V) {e : Nat} {o : Oper} (ho : ops[e]? = some o) (hw : wantedA ops o (A e) = true) {el : TypeId} (hop : o.op = .alloc el) :
    ∃ z, zeroL P el = some z ∧ V e = ptr (S e).next 0 ∧ S (e + 1) = ⟨putAt (S e).next (S e).heap (rowOf z 0 true), (S e).next + 1⟩ ∧ (S e).next < 65536 := by
  obtain ⟨x, hx, hf⟩ := T.op ho
  have h := hf.on hw
  rw [hop] at h
  have h : osel (zeroL P el) .no (fun z => boxK z (S e)) = .ok (V e) (S (e + 1)) := h
  obtain ⟨z, hz, h⟩ := osel_ne h Re.no_ne
  obtain ⟨h1, h2, h3⟩ := allK_ok h
  exact ⟨z, hz, h1, h2, h3⟩
end
end Go.Proofs.YtieclenlldjfjaaGreat.Ev

