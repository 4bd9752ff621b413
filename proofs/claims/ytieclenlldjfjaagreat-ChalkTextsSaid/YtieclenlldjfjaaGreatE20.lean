import Derived.Test.YtieclenlldjfjaaGreatE19
set_option autoImplicit false
set_option linter.unusedVariables false
set_option linter.unusedSimpArgs false
namespace Go.Proofs.YtieclenlldjfjaaGreat.Ev
open Go
section
variable {P : Program} {O : Orc} {rec : Rec} {σ : Nm} {st st' : St} {w : World}

/-! ## Scopes -/
def exNoGoto (Q : Exit → Act → World → Prop) : Exit → Act → World → Prop
  | .goto _, _, _ => False
  | e, a, w => Q e a w

theorem stepR_scopeE {b : Frame} {a : Act} {k : List Item} {cs : List Frame} {c : Code} : step P (lone (b.atR a (.code (.scope c) :: k)) cs w) = .next (lone (b.atR a (.code c :: .inScope c :: k)) cs w) :=
  step_lone_go (by simp [stepG, stepG.exec, Frame.atR])
theorem stepR_inScopeE {b : Frame} {a : Act} {k : List Item} {cs : List Frame} {c : Code} : step P (lone (b.atR a (.inScope c :: k)) cs w) = .next (lone (b.atR a k) cs w) :=
  step_lone_go (by simp [stepG, stepG.exec, Frame.atR])

theorem wpIn_scopeE {F : Fence} {n : Nat} {Q : Exit → Act → World → Prop} {a : Act} {c : Code} (h : c.wpIn F n P (exNoGoto Q) a w) : (Code.scope c).wpIn F n P Q a w := by
  intro b k cs hro hb hr
  have h0 : (lone (b.atR a (.code (.scope c) :: k)) cs w).fenced P F := fenced_calm hb hr rfl
  obtain ⟨e, a₁, w₁, hq, harr⟩ := h b (.inScope c :: k) cs hro hb hr
  cases e with
  | normal => exact ⟨.normal, a₁, w₁, hq, .head h0 stepR_scopeE (StepsIn.trans harr (.one (fenced_calm hb hr rfl) stepR_inScopeE))⟩
  | exit id =>
    have hx : exitTo id (.inScope c :: k) = exitTo id k := by simp [exitTo]
    exact ⟨.exit id, a₁, w₁, hq, fun k' hk => .head h0 stepR_scopeE (harr.1 k' (by rw [hx]; exact hk)),
      fun hr' hk => let ⟨k₁, h1, h2⟩ := harr.2 hr' (by rw [hx]; exact hk); ⟨k₁, h1, .head h0 stepR_scopeE h2⟩⟩
  | goto l => exact hq.elim
  | ret => exact ⟨_, a₁, w₁, hq, .of_steps (.one h0 stepR_scopeE) harr⟩
  | panic ch => exact ⟨_, a₁, w₁, hq, .of_steps (.one h0 stepR_scopeE) harr⟩
  | outgrown => exact ⟨_, a₁, w₁, hq, .of_steps (.one h0 stepR_scopeE) harr⟩

/-- What a region says. -/
def RegOk (P : Program) (rec : Rec) : Prop := ∀ (id : Nat) (ops : Array Oper) (draw : Bool) (ro : Option Nat) (a : Ac) (st : St) (x : Xit) (a' : Ac) (st' : St), evRegion P rec ops draw a st = .ok x a' st' →
  ∀ (σ : Nm) (w : World) (act : Act) (ro' : Option Nat), Rel σ st w → AR σ a act → RO σ ro ro' → ∀ (n : Nat) (Q : Exit → Act → World → Prop),
    (∀ σ' w' act', Rel σ' st' w' → AR σ' a' act' → Ext σ st w σ' st' w' → Q (exitOf x) act' w') → (Code.region id ops draw).wpIn (Fr ro') n P Q act w

theorem thenN_ok {r : Rc} {f : Ac → St → Rc} {x : Xit} {a' : Ac} {st' : St} (h : thenN r f = .ok x a' st') :
    (∃ a1 st1, r = .ok .normal a1 st1 ∧ f a1 st1 = .ok x a' st') ∨ (x ≠ .normal ∧ r = .ok x a' st') := by
  cases r with
  | no => cases h
  | ok y a1 st1 =>
    cases y with
    | normal => exact .inl ⟨a1, st1, rfl, h⟩
    | exit id => cases h; exact .inr ⟨by simp, rfl⟩
    | goto l => cases h; exact .inr ⟨by simp, rfl⟩
    | ret => cases h; exact .inr ⟨by simp, rfl⟩

theorem then_other {K : Act → World → Prop} {Q : Exit → Act → World → Prop} {x : Xit} (hx : x ≠ .normal) {a : Act} (h : Q (exitOf x) a w) : Exit.then K Q (exitOf x) a w := by
  cases x <;> first | exact absurd rfl hx | exact h

theorem least_of {p : Nat → Prop} : ∀ (b j : Nat), j ≤ b → p j → ∃ m, p m ∧ ∀ i, p i → m ≤ i
  | b, j, hb, hj => by
    classical
    by_cases h : ∃ i, i < j ∧ p i
    · obtain ⟨i, hi, hp⟩ := h
      cases b with
      | zero => omega
      | succ b => exact least_of b i (by omega) hp
    · exact ⟨j, hj, fun i hi => by
        rcases Nat.lt_or_ge i j with h' | h'
        · exact absurd ⟨i, h', hi⟩ h
        · exact h'⟩

/-- One turn, and the rest of the loop. -/
theorem loop_ok {c : Code} {ro : Option Nat} {x : Xit} {a' : Ac} {st' : St} (hall : ∀ j, CodeOk P (evCode P O j) ∨ True) {K : Nat} (hK : ∀ j, j < K → CodeOk P (evCode P O j)) {a : Ac} (h : evCode P O K (.loop c) ro a st = .ok x a' st')
    (hr : Rel σ st w) {act : Act} (hA : AR σ a act) {ro' : Option Nat} (hro : RO σ ro ro') (n : Nat) (Q : Exit → Act → World → Prop)
    (hQ : ∀ σ' w' act', Rel σ' st' w' → AR σ' a' act' → Ext σ st w σ' st' w' → Q (exitOf x) act' w') : (Code.loop c).wpIn (Fr ro') n P Q act w := by
  let J : Nat → Act → World → Prop := fun j act1 w1 => j ≤ K ∧ ∃ σ1 a1 st1, evCode P O j (.loop c) ro a1 st1 = .ok x a' st' ∧ Rel σ1 st1 w1 ∧ AR σ1 a1 act1 ∧ Ext σ st w σ1 st1 w1
  have hdec : ∀ act1 w1, (∃ j, J j act1 w1) → ∃ j, J j act1 w1 ∧ ∀ i, J i act1 w1 → j ≤ i := by
    intro act1 w1 ⟨j, hj⟩
    exact least_of j j (Nat.le_refl j) hj
  classical
  let μ : Act → World → Nat := fun act1 w1 => if h : ∃ j, J j act1 w1 then Classical.choose (hdec act1 w1 h) else 0
  have hμ : ∀ act1 w1 j, J j act1 w1 → J (μ act1 w1) act1 w1 ∧ μ act1 w1 ≤ j := by
    intro act1 w1 j hj
    have hex : ∃ j, J j act1 w1 := ⟨j, hj⟩
    have := Classical.choose_spec (hdec act1 w1 hex)
    show J (if h : ∃ j, J j act1 w1 then _ else 0) act1 w1 ∧ (if h : ∃ j, J j act1 w1 then _ else 0) ≤ j
    rw [dif_pos hex]
    exact ⟨this.1, this.2 j hj⟩
  refine wpIn_loop (fun act1 w1 => ∃ j, J j act1 w1) μ ⟨K, Nat.le_refl K, σ, a, st, h, hr, hA, .refl σ st w⟩ fun act1 w1 ⟨j, hj⟩ => ?_
  obtain ⟨⟨hle, σ1, a1, st1, hrun, r1, a1r, x1⟩, _⟩ := hμ act1 w1 j hj
  generalize hm : μ act1 w1 = m at hrun hle
  cases m with
  | zero => cases hrun
  | succ m =>
    have hrun : thenN (evCode P O m c ro a1 st1) (fun a st => evCode P O m (.loop c) ro a st) = .ok x a' st' := hrun
    rcases thenN_ok hrun with ⟨a2, st2, e1, e2⟩ | ⟨hx, e1⟩
    · refine (hK m (by omega)).code c ro a1 st1 .normal a2 st2 e1 σ1 w1 act1 ro' r1 a1r (hro.mono x1.sub) n _ fun σ2 w2 act2 r2 a2r x2 => ?_
      have hJ : J m act2 w2 := ⟨by omega, σ2, a2, st2, e2, r2, a2r, x1.trans x2⟩
      exact ⟨⟨m, hJ⟩, by have := (hμ act2 w2 m hJ).2; omega⟩
    · exact (hK m (by omega)).code c ro a1 st1 x a' st' e1 σ1 w1 act1 ro' r1 a1r (hro.mono x1.sub) n _ fun σ2 w2 act2 r2 a2r x2 => then_other hx (hQ σ2 w2 act2 r2 a2r (x1.trans x2))

theorem funcK_ok {β : Type} {v : Value} {no : β} {f : FuncId → Array Value → Array Value → β} {r : β} (h : funcK v no f = r) (hne : no ≠ r) : ∃ k as bs, v = .func (.func k) as bs ∧ f k as bs = r := by
  unfold funcK at h
  split at h
  · exact ⟨_, _, _, rfl, h⟩
  · exact absurd h hne

theorem Rc.no_ne {x : Xit} {a : Ac} {st : St} : (Rc.no : Rc) ≠ .ok x a st := by intro h; cases h

theorem ble_false {a b : Nat} (h : Nat.ble a b = false) : b < a := by
  rcases Nat.lt_or_ge b a with h' | h'
  · exact h'
  · rw [ble_iff.2 h'] at h; cases h

/-- The statement behind its record's block. -/
theorem range2_ok (hrec : CodeOk P rec) {g : Operand} (hg : okOpd g = true) {ps : Array Tmp} {as bo : Code} {ro ro' : Option Nat} {a : Ac} {act : Act} {df : Nat} {mark : List Nat} {ms : List Deferred} {x : Xit} {a' : Ac}
    (h : evRange2 P rec g ps as bo ro a df mark st = .ok x a' st') (hr : Rel σ st w) (hA : AR σ a act) (hro : RO σ ro ro') {kd : Blk} (hdf : σ df = some kd) (hm : DR σ mark ms) (n : Nat) (Q : Exit → Act → World → Prop)
    (hQ : ∀ σ' w' act', Rel σ' st' w' → AR σ' a' act' → Ext σ st w σ' st' w' → Q (exitOf x) act' w') (fn : FuncId) :
    ∃ (d : Deferred) (f : FuncId) (args : Array Value),
      let lp : Loop := { state := .ready, pending := none, fn, tmps := act.tmps, params := ps, assign := as, body := bo, defers := kd.b }
      let w₁ : World := { w with heap := w.heap.push (.loop lp) }
      (resolve act.eval (rangeCall g w.heap.size) 0).run P w₁ = .ok d w₁ ∧ (invoke d.target d.args).run P w₁ = .ok (.enter f args) w₁ ∧
      CallsIn (Fr ro') (n - 1) P f args w₁ (rangePost (Fr ro') n P w.heap.size Q { act with defers := ms ++ act.defers }) := by
  obtain ⟨m, t, ds⟩ := a
  obtain ⟨hp, nx⟩ := st
  have h : bsel (Nat.ble 65536 nx) .no (funcK (evalA ⟨m, t, ds⟩ g) .no fun k first cap =>
    (endRange rec nx ro ⟨m, t, mark ++ ds⟩ (callF P rec k (first.toList ++ [.func (.yield nx) #[] #[]] ++ cap.toList) (pushAt nx hp (.loop .ready none m t ps as bo df))))) = .ok x a' st' := h
  cases hb : Nat.ble 65536 nx with
  | true => rw [hb] at h; cases h
  | false =>
    rw [hb] at h
    have hlt : nx < 65536 := ble_false hb
    obtain ⟨k, first, cap, hfv, h⟩ := funcK_ok h Rc.no_ne
    have hf := hA.eval hg
    rw [hfv] at hf
    rw [pushAt_eq] at h
    obtain ⟨σ1, s1, r1, x1⟩ := hr.new (o := .loop .ready none m t ps as bo df) (ob := .loop { state := .ready, pending := none, fn, tmps := act.tmps, params := ps, assign := as, body := bo, defers := kd.b }) hlt (k := ⟨w.heap.size, 0, 0, 0, false⟩) rfl
      (fun τ w' hs ht hw => ⟨_, hw, rfl, rfl, hA.1.mono hs, rfl, rfl, rfl, kd, hs _ _ hdf, rfl⟩)
    generalize hv : Value.func (.func k) first cap = u at hf
    generalize heq : act.eval g = fv' at hf
    cases hf with
    | func f' as1 as1' bs1 bs1' h1 h2 h3 h4 =>
      cases hv
      cases hc : callF P rec k (as1 ++ [.func (.yield nx) #[] #[]] ++ bs1) ⟨putAt nx hp (.loop .ready none m t ps as bo df), nx + 1⟩ with
      | no =>
        have h : endRange rec nx ro ⟨m, t, mark ++ ds⟩ (callF P rec k (as1 ++ [.func (.yield nx) #[] #[]] ++ bs1) ⟨putAt nx hp (.loop .ready none m t ps as bo df), nx + 1⟩) = .ok x a' st' := h
        rw [hc] at h; cases h
      | ok v st2 =>
        have h : endRange rec nx ro ⟨m, t, mark ++ ds⟩ (callF P rec k (as1 ++ [.func (.yield nx) #[] #[]] ++ bs1) ⟨putAt nx hp (.loop .ready none m t ps as bo df), nx + 1⟩) = .ok x a' st' := h
        rw [hc] at h
        have hfe : ∃ c m fn, feOf P k = .mk c m fn := by
          unfold callF at hc
          cases hfe : feOf P k with
          | no => rw [hfe] at hc; cases hc
          | mk c m fn => exact ⟨c, m, fn, rfl⟩
        obtain ⟨c, mm, fn', hfe⟩ := hfe
        obtain ⟨hfn, hb2, hname, _⟩ := feOf_ok hfe
        have hal : VRL σ1 (as1 ++ [.func (.yield nx) #[] #[]] ++ bs1) (as1' ++ [.func (.yield w.heap.size) #[] #[]] ++ bs1') :=
          ((VRL.mono x1.sub ⟨h1, h2⟩).append (.one (.yield nx _ s1))).append (VRL.mono x1.sub ⟨h3, h4⟩)
        have hcall := callF_ok hrec hc r1 hal (n - 1) ro'
        have hres : ∀ W, (resolve act.eval (rangeCall g w.heap.size) 0).run P W = .ok { target := .fn (.func k) ⟨bs1'⟩, args := ⟨as1'⟩ ++ #[.func (.yield w.heap.size) #[] #[]] } W := by
          intro W
          simp [resolve, rangeCall, heq, Deferred.ofValue]
          rfl
        refine ⟨_, k, ⟨as1' ++ [.func (.yield w.heap.size) #[] #[]] ++ bs1'⟩, hres _, ?_, ?_⟩
        · simp [invoke, callFunc, hfn, hb2, beq_eq_false_iff_ne.1 hname]
        · refine CallsIn.mono hcall fun e w3 he => ?_
          obtain ⟨σ3, v3, rfl, g1, g2, g3⟩ := he
          have hk3 := g3.sub _ _ s1
          have hx := x1.trans g3
          have hA3 : AR σ3 ⟨m, t, mark ++ ds⟩ { act with defers := ms ++ act.defers } := by
            refine ⟨(hA.1).mono hx.sub, ?_, fun i nm f e1 e2 => ?_⟩
            · have e1 := hm.1
              have e2 := hA.2.1
              show (mark ++ ds).length = (ms ++ act.defers).length
              rw [List.length_append, List.length_append, e1]; exact congrArg _ e2
            · by_cases hi : i < mark.length
              · rw [List.getElem?_append_left hi] at e1
                rw [List.getElem?_append_left (by rw [← hm.1]; exact hi)] at e2
                obtain ⟨kk, q1, q2⟩ := hm.2 i nm f e1 e2
                exact ⟨kk, hx.sub _ _ q1, q2⟩
              · rw [List.getElem?_append_right (by omega)] at e1
                rw [List.getElem?_append_right (by rw [← hm.1]; omega), ← hm.1] at e2
                obtain ⟨kk, q1, q2⟩ := hA.2.2 _ nm f e1 e2
                exact ⟨kk, hx.sub _ _ q1, q2⟩
          have h : (match st2.obj nx with
            | .loop s pend n9 t9 ps as bo df =>
              match s with
              | .busy => .no
              | _ => osel pend (.ok .normal ⟨m, t, mark ++ ds⟩ (st2.setObj nx (.loop .exhausted none n9 t9 ps as bo df))) fun j => rec j ro ⟨m, t, mark ++ ds⟩ (st2.setObj nx (.loop .exhausted pend n9 t9 ps as bo df))
            | _ => .no) = Rc.ok x a' st' := h
          split at h
          · rename_i s p n2 t2 ps2 as2 bo2 df2 ho
            obtain ⟨lp, q1, ⟨q2, q3, _⟩, q4⟩ := g2.loopAt hk3 ho
            have q1 : w3.heap[w.heap.size]? = some (.loop lp) := q1
            obtain ⟨r4, x4⟩ := q4 .exhausted p
            have hend : s ≠ .busy → (Instr.endLoop w.heap.size).run P w3 = .ok p { w3 with heap := w3.heap.setIfInBounds w.heap.size (.loop { lp with state := .exhausted, pending := p }) } := by
              intro hs
              have hs2 : (lp.state == LoopState.busy) = false := by
                rw [q2]; cases s <;> first | rfl | exact absurd rfl hs
              unfold Instr.endLoop
              have e5 : ({ lp with state := .exhausted } : Loop) = { lp with state := .exhausted, pending := p } := by rw [← q3]
              rw [Sem.run_bind, run_getLoop q1, Result.andThen_ok, if_neg (by rw [hs2]; simp)]
              rw [Sem.run_bind, run_setLoop q1, Result.andThen_ok, e5, q3]
              rfl
            have fin : s ≠ .busy → (osel p (.ok .normal ⟨m, t, mark ++ ds⟩ (st2.setObj nx (.loop .exhausted none n2 t2 ps2 as2 bo2 df2))) fun j => rec j ro ⟨m, t, mark ++ ds⟩ (st2.setObj nx (.loop .exhausted p n2 t2 ps2 as2 bo2 df2))) = Rc.ok x a' st' →
                rangePost (Fr ro') n P w.heap.size Q { act with defers := ms ++ act.defers } (.returned v3) w3 := by
              intro hs h
              refine ⟨p, _, hend hs, ?_⟩
              cases p with
              | none => cases h; exact hQ σ3 _ _ r4 hA3 (hx.trans x4)
              | some j => exact hrec.code j ro _ _ x a' st' h σ3 _ _ ro' r4 hA3 (hro.mono hx.sub) n Q fun σ5 w5 act5 r5 a5 x5 => hQ σ5 w5 act5 r5 a5 ((hx.trans x4).trans x5)
            cases s with
            | busy => cases h
            | ready => exact fin (by simp) h
            | done => exact fin (by simp) h
            | exhausted => exact fin (by simp) h
          · cases h
    | _ => cases hv
end
end Go.Proofs.YtieclenlldjfjaaGreat.Ev
