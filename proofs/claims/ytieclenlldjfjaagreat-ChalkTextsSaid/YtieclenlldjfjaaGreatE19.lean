import Derived.Test.YtieclenlldjfjaaGreatE18
set_option autoImplicit false
set_option linter.unusedVariables false
set_option linter.unusedSimpArgs false
namespace Go.Proofs.YtieclenlldjfjaaGreat.Ev
open Go
section
variable {P : Program} {rec : Rec} {σ : Nm} {st st' : St} {w : World}

theorem isBool_iff {v : Value} {b : Bool} : isBool v b = true ↔ v = .bool b := by
  unfold isBool
  split
  · rename_i c
    simp
  · rename_i h
    constructor
    · intro h'; cases h'
    · intro e; exact absurd e (h b)

theorem isBool_eq {v v' : Value} (h : VR σ v v') (b : Bool) : isBool v b = isBool v' b := by cases h <;> rfl

/-- The operations of a region are of the form that is looked at. -/
structure OpsOk (ops : Array Oper) : Prop where
  opd : ∀ o, o ∈ ops.toList → ∀ x, x ∈ o.op.operands.toList → okOpd x = true
  dst : ∀ o, o ∈ ops.toList → okDst o.dst = true

theorem opsOk_ok {ops : Array Oper} (h : opsOk ops.toList = true) : OpsOk ops := by
  unfold opsOk at h
  rw [List.all_eq_true] at h
  refine ⟨fun o ho x hx => ?_, fun o ho => ?_⟩
  · have := h o ho
    rw [Bool.and_eq_true, List.all_eq_true] at this
    exact this.1 x hx
  · have := h o ho
    rw [Bool.and_eq_true] at this
    exact this.2

theorem wanted_ok {ops : Array Oper} (hok : OpsOk ops) (o : Oper) {a : Ac} {act : Act} (hA : AR σ a act) : Region.wanted o (yielded ops act.tmps) = wantedA ops o a := by
  unfold Region.wanted wantedA gdOf
  cases hg : o.guard with
  | none => rfl
  | some q =>
    obtain ⟨j, want⟩ := q
    simp only []
    cases hj : ops[j]? with
    | none => simp [yielded, hj]
    | some g =>
      simp only []
      cases hd : g.dst with
      | none => simp [yielded, hj, hd]
      | some d =>
        have hd5 : @LT.lt Nat _ d 512 := by
          have := hok.dst g (by
            rw [← Array.getElem?_toList] at hj
            exact List.mem_of_getElem? hj)
          rw [hd] at this
          exact ble_iff.1 this
        have hv := hA.1.2.2 d hd5
        show (yielded ops act.tmps j == some want) = isBool (a.get d) want
        rw [Ac.get_eq, isBool_eq hv want]
        unfold yielded
        simp only [hj, Option.bind_some, hd]
        cases ht : act.tmps[d]? with
        | none => simp [Array.getD_eq_getD_getElem?, ht, isBool, undef]
        | some u =>
          simp only [Array.getD_eq_getD_getElem?, ht, Option.getD_some]
          cases u <;> simp [isBool]

theorem Does.upon {o : Oper} {act : Act} {v : Value} (h : Does P (execOp act.eval o) σ st w v st') (n : Nat) (ro : Option Nat) {next : Act → World → Prop} {Q : Exit → Act → World → Prop}
    (hnext : ∀ σ' w' v', VR σ' v v' → Rel σ' st' w' → Ext σ st w σ' st' w' → next (act.put o.dst v') w') : o.uponIn (Fr ro) n P act next Q ((execOp act.eval o).run P w) := by
  obtain ⟨σ', w', v', h1, h2, h3, h4⟩ := h
  rcases h1 with h1 | ⟨h1, rfl⟩
  · rw [h1]; exact hnext σ' w' v' h2 h3 h4
  · rw [h1]; exact hnext σ' w' undef h2 h3 h4

theorem mapE_eq (a : Ac) (xs : List Operand) : mapE a xs = xs.map (evalA a) := by
  induction xs with
  | nil => rfl
  | cons x xs ih => show evalA a x :: mapE a xs = _; rw [ih]; rfl

theorem step_ok (hrec : CodeOk P rec) {o : Oper} {a : Ac} {act : Act} (hops : ∀ x, x ∈ o.op.operands.toList → VR σ (evalA a x) (act.eval x)) {v : Value} (h : stepS P rec (stpOf P o.op) a st = .ok v st') (hr : Rel σ st w)
    (n : Nat) (ro : Option Nat) {next : Act → World → Prop} {Q : Exit → Act → World → Prop} (hnext : ∀ σ' w' v', VR σ' v v' → Rel σ' st' w' → Ext σ st w σ' st' w' → next (act.put o.dst v') w') :
    o.wpIn (Fr ro) n P act w next Q := by
  refine ⟨fun _ _ => trivial, ?_⟩
  have hnd : ∀ c, o.op ≠ .defer c := by
    intro c e
    rw [e] at h
    cases h
  show o.uponIn (Fr ro) n P act next Q ((o.semAt ro act.eval).run P w)
  rw [Oper.semAt_eq ro _ o hnd]
  have plain : ∀ f, stpOf P o.op = .op (compOp P o.op) → compOp P o.op = .mk f → f a st = .ok v st' → o.uponIn (Fr ro) n P act next Q ((execOp act.eval o).run P w) :=
    fun f _ hc hf => (comp_ok hc hops hr hf).upon n ro hnext
  have other : stpOf P o.op = .op (compOp P o.op) → o.uponIn (Fr ro) n P act next Q ((execOp act.eval o).run P w) := by
    intro e
    rw [e] at h
    cases hc : compOp P o.op with
    | no => rw [hc] at h; cases h
    | mk f => rw [hc] at h; exact plain f e hc h
  by_cases hcall : ∃ f args ats, o.op = .call { callee := .value f, args := args, argTypes := ats }
  · obtain ⟨f, args, ats, e⟩ := hcall
    rw [e] at h
    have h : callV P rec (evalA a f) (mapE a args.toList) st = .ok v st' := h
    rw [mapE_eq] at h
    have hf := (hops f (by rw [e]; simp [Op.operands, Call.operands]))
    have hl := evalL_of (xs := args.toList) (fun x hx => hops x (by rw [e]; simp only [Op.operands, Call.operands, Array.toList_append, List.mem_append]; exact .inr hx))
    have := callV_ok hrec h hr hf hl n ro (o := o) (act := act) (next := next) (Q := Q) hnext
    have e2 : args.map act.eval = ⟨args.toList.map act.eval⟩ := by apply Array.ext'; simp
    have e3 : execOp act.eval o = (do let d ← Deferred.ofValue (act.eval f) ⟨args.toList.map act.eval⟩; invoke d.target d.args) := by
      unfold execOp
      rw [e]
      simp only [resolve, e2]
    rw [e3]; exact this
  · refine other ?_
    cases hop : o.op with
    | call c =>
      obtain ⟨callee, args, ats⟩ := c
      cases callee with
      | value f => exact absurd ⟨f, args, ats, hop⟩ hcall
      | invoke x m => rfl
      | builtin b => rfl
    | _ => rfl

theorem seq_ok (hrec : CodeOk P rec) {ops : Array Oper} (hok : OpsOk ops) (n : Nat) (ro : Option Nat) (Q : Exit → Act → World → Prop) : ∀ (l : List Oper) (a : Ac) (st : St) (a' : Ac) (st' : St), (∀ o, o ∈ l → o ∈ ops.toList) → seqOps P rec ops l a st = .ok a' st' →
    ∀ (σ : Nm) (w : World) (act : Act), Rel σ st w → AR σ a act → (∀ σ' w' act', Rel σ' st' w' → AR σ' a' act' → Ext σ st w σ' st' w' → Q .normal act' w') → wpListIn (Fr ro) n P ops Q l act w
  | [], a, st, a', st', _, h, σ, w, act, hr, hA, hQ => by
    cases h
    exact hQ σ w act hr hA (.refl σ st w)
  | o :: l, a, st, a', st', hm, h, σ, w, act, hr, hA, hQ => by
    have h : Ra.rec (motive := fun _ => Ra) .no (fun a st => seqOps P rec ops l a st) (seqOne P rec ops o a st) = .ok a' st' := h
    cases h1 : seqOne P rec ops o a st with
    | no => rw [h1] at h; cases h
    | ok a1 st1 =>
      rw [h1] at h
      have h : seqOps P rec ops l a1 st1 = .ok a' st' := h
      have ho := hm o (by simp)
      have rest : ∀ σ1 w1 act1, Rel σ1 st1 w1 → AR σ1 a1 act1 → Ext σ st w σ1 st1 w1 → wpListIn (Fr ro) n P ops Q l act1 w1 :=
        fun σ1 w1 act1 r1 a1r x1 => seq_ok hrec hok n ro Q l a1 st1 a' st' (fun o ho => hm o (by simp [ho])) h σ1 w1 act1 r1 a1r (fun σ' w' act' r2 a2 x2 => hQ σ' w' act' r2 a2 (x1.trans x2))
      unfold wpListIn
      rw [wanted_ok hok o hA]
      unfold seqOne at h1
      rw [bsel_eq] at h1
      by_cases hw : wantedA ops o a = true
      · rw [if_pos hw] at h1 ⊢
        cases hs : stepS P rec (stpOf P o.op) a st with
        | no => rw [hs] at h1; cases h1
        | ok v st2 =>
          rw [hs] at h1
          have h1 : a.put o.dst v st2 = .ok a1 st1 := h1
          obtain ⟨rfl, _⟩ := Ac.put_ok h1
          exact step_ok hrec (fun x hx => hA.eval (hok.opd o ho x hx)) hs hr n ro fun σ' w' v' g1 g2 g3 => rest σ' w' _ g2 ((hA.mono g3.sub).put h1 g1) g3
      · rw [if_neg hw] at h1 ⊢
        obtain ⟨rfl, _⟩ := Ac.put_ok h1
        exact ⟨fun _ _ => trivial, rest σ w _ hr (hA.put h1 (.junk σ)) (.refl σ _ w)⟩
end
end Go.Proofs.YtieclenlldjfjaaGreat.Ev
