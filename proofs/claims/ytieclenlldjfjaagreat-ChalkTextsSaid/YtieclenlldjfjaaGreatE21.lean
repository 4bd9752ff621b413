import Derived.Test.YtieclenlldjfjaaGreatE20
set_option autoImplicit false
set_option linter.unusedVariables false
set_option linter.unusedSimpArgs false
namespace Go.Proofs.YtieclenlldjfjaaGreat.Ev
open Go
section
variable {P : Program} {O : Orc} {rec : Rec} {σ : Nm} {st st' : St} {w : World}

theorem range_ok (hrec : CodeOk P rec) {g : Operand} {ps : Array Tmp} {as bo : Code} {ro ro' : Option Nat} {a : Ac} {act : Act} {x : Xit} {a' : Ac}
    (h : evRange P rec g ps as bo ro a st = .ok x a' st') (hr : Rel σ st w) (hA : AR σ a act) (hro : RO σ ro ro') (n : Nat) (Q : Exit → Act → World → Prop)
    (hQ : ∀ σ' w' act', Rel σ' st' w' → AR σ' a' act' → Ext σ st w σ' st' w' → Q (exitOf x) act' w') : (Code.rangeFunc g ps as bo).wpIn (Fr ro') n P Q act w := by
  unfold evRange at h
  obtain ⟨hg, h⟩ := bsel_ne h Rc.no_ne
  refine wpIn_rangeFunc fun fn _ => ?_
  cases ro with
  | none =>
    cases ro' with
    | some b => exact hro.elim
    | none =>
      obtain ⟨hp, r⟩ := st
      have h : bsel (Nat.ble 65536 r) .no (evRange2 P rec g ps as bo none a r [r] (pushAt r hp .deferred)) = Rc.ok x a' st' := h
      cases hb : Nat.ble 65536 r with
      | true => rw [hb] at h; cases h
      | false =>
        rw [hb] at h
        have h : evRange2 P rec g ps as bo none a r [r] (pushAt r hp .deferred) = Rc.ok x a' st' := h
        rw [pushAt_eq] at h
        obtain ⟨σ1, s1, r1, x1⟩ := hr.new (o := .deferred) (ob := .deferred (some [])) (ble_false hb) (k := ⟨w.heap.size, 0, 0, 0, false⟩) rfl (fun τ w' hs ht hw => hw)
        have hm : DR σ1 [r] [{ target := .collected w.heap.size, args := #[] }] := ⟨rfl, fun i nm f h1 h2 => by
          cases i with
          | zero => cases h1; cases h2; exact ⟨_, s1, rfl⟩
          | succ i => simp at h1⟩
        obtain ⟨d, f, args, e1, e2, e3⟩ := range2_ok (ro' := none) hrec hg h r1 (hA.mono x1.sub) trivial s1 hm n Q (fun σ' w' act' q1 q2 q3 => hQ σ' w' act' q1 q2 (x1.trans q3)) fn
        refine ⟨_, _, _, d, _, f, args, _, ?_, e1, fun _ _ => trivial, e2, (fun h => nomatch h), e3⟩
        simp [Instr.enterLoop, newObj, Sem.run, Result.andThen]
        exact ⟨rfl, rfl, rfl⟩
  | some l =>
    cases ro' with
    | none => exact hro.elim
    | some b =>
      obtain ⟨k, hk, rfl⟩ := hro
      have h : (match st.obj l with
        | .loop _ _ _ _ _ _ _ df => evRange2 P rec g ps as bo (some l) a df [] st
        | _ => .no) = Rc.ok x a' st' := h
      split at h
      · rename_i s p m t ps0 as0 bo0 df ho
        obtain ⟨lp, g1, ⟨_, _, _, _, _, _, kd, hdf, hdd⟩, _⟩ := hr.loopAt hk ho
        obtain ⟨d, f, args, e1, e2, e3⟩ := range2_ok (ro' := some k.b) (ms := []) hrec hg h hr hA ⟨k, hk, rfl⟩ hdf ⟨rfl, fun i nm f h1 => by simp at h1⟩ n Q hQ fn
        refine ⟨_, _, _, d, _, f, args, _, ?_, e1, fun _ _ => trivial, e2, (fun h => nomatch h), e3⟩
        show (Instr.enterLoop fn act.tmps ps as bo (some k.b)).run P w = _
        unfold Instr.enterLoop
        simp only [Sem.run_bind, run_getLoop g1, Result.andThen_ok, Sem.run_pure, hdd]
        rfl
      · cases h

theorem one_ok (hO : OrcOk P O) {K : Nat} (hK : ∀ j, j < K + 1 → CodeOk P (evCode P O j)) (hreg : RegOk P (evCode P O K)) : CodeOk P (evCode P O (K + 1)) := by
  refine ⟨?_, hO⟩
  intro c ro a st x a' st' h σ w act ro' hr hA hro n Q hQ
  have hrec := hK K (by omega)
  have h1 : evOne P (evCode P O K) c ro a st = .ok x a' st' := h
  cases c with
  | skip => cases h1; exact wpIn_skip (hQ σ w act hr hA (.refl σ st w))
  | label l => cases h1; exact wpIn_label (hQ σ w act hr hA (.refl σ st w))
  | region id ops draw => exact hreg id ops draw ro a st x a' st' h1 σ w act ro' hr hA hro n Q hQ
  | seq c1 c2 =>
    have h1 : thenN (evCode P O K c1 ro a st) (fun a st => evCode P O K c2 ro a st) = .ok x a' st' := h1
    refine wpIn_seq ?_
    rcases thenN_ok h1 with ⟨a1, st1, e1, e2⟩ | ⟨hx, e1⟩
    · exact hrec.code c1 ro a st .normal a1 st1 e1 σ w act ro' hr hA hro n _ fun σ1 w1 act1 r1 a1r x1 =>
        hrec.code c2 ro a1 st1 x a' st' e2 σ1 w1 act1 ro' r1 a1r (hro.mono x1.sub) n Q fun σ2 w2 act2 r2 a2 x2 => hQ σ2 w2 act2 r2 a2 (x1.trans x2)
    · exact hrec.code c1 ro a st x a' st' e1 σ w act ro' hr hA hro n _ fun σ1 w1 act1 r1 a1r x1 => then_other hx (hQ σ1 w1 act1 r1 a1r x1)
  | cond c c1 c2 =>
    have h1 : bsel (okOpd c) (evCond (evCode P O K) (evalA a c) c1 c2 ro a st) .no = .ok x a' st' := h1
    obtain ⟨hc, h1⟩ := bsel_ne h1 Rc.no_ne
    have hv := hA.eval hc
    unfold evCond at h1
    split at h1
    · rename_i b hb
      rw [hb] at hv
      have hv := bool_inv hv
      cases b with
      | true => exact wpIn_cond_true hv (hrec.code c1 ro a st x a' st' h1 σ w act ro' hr hA hro n Q hQ)
      | false => exact wpIn_cond_false hv (hrec.code c2 ro a st x a' st' h1 σ w act ro' hr hA hro n Q hQ)
    · cases h1
  | block id c =>
    have h1 : inBlock id (evCode P O K c ro a st) = .ok x a' st' := h1
    refine wpIn_block ?_
    cases hr1 : evCode P O K c ro a st with
    | no => rw [hr1] at h1; cases h1
    | ok y a1 st1 =>
      rw [hr1] at h1
      refine hrec.code c ro a st y a1 st1 hr1 σ w act ro' hr hA hro n _ fun σ1 w1 act1 r1 a1r x1 => ?_
      cases y with
      | normal => cases h1; exact hQ σ1 w1 act1 r1 a1r x1
      | goto l => cases h1; exact hQ σ1 w1 act1 r1 a1r x1
      | ret => cases h1; exact hQ σ1 w1 act1 r1 a1r x1
      | exit j =>
        have h1 : bsel (Nat.beq j id) (Rc.ok .normal a1 st1) (.ok (.exit j) a1 st1) = .ok x a' st' := h1
        show (if j = id then Q .normal act1 w1 else Q (.exit j) act1 w1)
        rw [bsel_eq] at h1
        by_cases hj : j = id
        · rw [if_pos (beq_iff.2 hj)] at h1
          rw [if_pos hj]
          cases h1; exact hQ σ1 w1 act1 r1 a1r x1
        · rw [if_neg (fun e => hj (beq_iff.1 e))] at h1
          rw [if_neg hj]
          cases h1; exact hQ σ1 w1 act1 r1 a1r x1
  | loop c => exact loop_ok (fun _ => .inr trivial) hK h hr hA hro n Q hQ
  | rangeFunc g ps as bo => exact range_ok hrec h1 hr hA hro n Q hQ
  | exit id => cases h1; exact wpIn_exit (hQ σ w act hr hA (.refl σ st w))
  | ret => cases h1; exact wpIn_ret (hQ σ w act hr hA (.refl σ st w))
  | goto l => cases h1; exact wpIn_goto (hQ σ w act hr hA (.refl σ st w))
  | scope c =>
    have h1 : noGoto (evCode P O K c ro a st) = .ok x a' st' := h1
    refine wpIn_scopeE ?_
    cases hr1 : evCode P O K c ro a st with
    | no => rw [hr1] at h1; cases h1
    | ok y a1 st1 =>
      rw [hr1] at h1
      refine hrec.code c ro a st y a1 st1 hr1 σ w act ro' hr hA hro n _ fun σ1 w1 act1 r1 a1r x1 => ?_
      cases y with
      | normal => cases h1; exact hQ σ1 w1 act1 r1 a1r x1
      | goto l => cases h1
      | ret => cases h1; exact hQ σ1 w1 act1 r1 a1r x1
      | exit j => cases h1; exact hQ σ1 w1 act1 r1 a1r x1
  | refuse r => cases h1

theorem code_ok (hO : OrcOk P O) (hreg : ∀ rec, CodeOk P rec → RegOk P rec) : ∀ K, CodeOk P (evCode P O K) := by
  intro K
  induction K using Nat.strongRecOn with
  | _ K ih =>
    cases K with
    | zero => exact ⟨fun c ro a st x a' st' h => (by cases h), fun f args st v st' h => (by cases h)⟩
    | succ K => exact one_ok hO ih (hreg _ (ih K (by omega)))

/-- The top: a call that the interpreter follows. -/
theorem calls_ok (hO : OrcOk P O) (hreg : ∀ rec, CodeOk P rec → RegOk P rec) {K : Nat} {f : FuncId} {args args' : List Value} {v : Value} (h : callF P (evCode P O K) f args st = .ok v st') (hr : Rel σ st w) (ha : VRL σ args args') :
    Calls P f ⟨args'⟩ w (Ends σ st w v st') :=
  callsIn_wide.1 (callF_ok (code_ok hO hreg K) h hr ha 0 none)
end
end Go.Proofs.YtieclenlldjfjaaGreat.Ev
