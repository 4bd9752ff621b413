import Derived.Test.YtieclenlldjfjaaGreatE15
set_option autoImplicit false
set_option linter.unusedVariables false
set_option linter.unusedSimpArgs false
namespace Go.Proofs.YtieclenlldjfjaaGreat.Ev
open Go
section
variable {P : Program} {σ : Nm} {st st' : St} {w : World}

theorem eval_mk {f f' : Ac → St → Re} (h : OpF.mk f' = .mk f) : f' = f := by cases h; rfl

theorem AR.evalL {a : Ac} {act : Act} (h : AR σ a act) : ∀ {xs : List Operand}, (∀ x, x ∈ xs → okOpd x = true) → VRL σ (xs.map (evalA a)) (xs.map act.eval)
  | [], _ => .nil
  | x :: xs, hx => .cons (h.eval (hx x (by simp))) (AR.evalL h fun y hy => hx y (by simp [hy]))

theorem parts_ok {a : Ac} {act : Act} (h : AR σ a act) {ps : List (Nat × Operand)} (hx : ∀ x, x ∈ ps.map (·.2) → okOpd x = true) :
    PR σ (ps.map fun (i, x) => (i, evalA a x)) (ps.map fun (i, x) => (i, act.eval x)) := by
  refine ⟨by simp [List.map_map, Function.comp_def], ?_⟩
  have := AR.evalL h hx
  simpa [List.map_map, Function.comp_def] using this

theorem ores {s : Sem Value} {x : Option Value} {v : Value} (h : reO x st = .ok v st') (hr : Rel σ st w) (hg : ∀ v, x = some v → Gives P s σ w v) : Does P (do pure (.value (← s))) σ st w v st' := by
  obtain ⟨h2, rfl⟩ := reO_ok h
  exact (hg v h2).does hr

theorem sres {s : Sem Unit} {x : Option St} {v : Value} (h : reS x = .ok v st') (hg : ∀ st', x = some st' → ∃ w', s.run P w = .ok () w' ∧ Rel σ st' w' ∧ Ext σ st w σ st' w') : Does P (do s; pure .skip) σ st w v st' := by
  obtain ⟨rfl, hh⟩ := reS_ok h
  obtain ⟨w', h1, h2, h3⟩ := hg st' hh
  exact ⟨σ, w', undef, .inr ⟨by rw [Sem.run_bind, h1]; rfl, rfl⟩, .junk σ, h2, h3⟩

theorem evalL_of {a : Ac} {act : Act} : ∀ {xs : List Operand}, (∀ x, x ∈ xs → VR σ (evalA a x) (act.eval x)) → VRL σ (xs.map (evalA a)) (xs.map act.eval)
  | [], _ => .nil
  | x :: xs, hx => .cons (hx x (by simp)) (evalL_of fun y hy => hx y (by simp [hy]))

theorem parts_of {a : Ac} {act : Act} {ps : List (Nat × Operand)} (hx : ∀ x, x ∈ ps.map (·.2) → VR σ (evalA a x) (act.eval x)) :
    PR σ (ps.map fun (i, x) => (i, evalA a x)) (ps.map fun (i, x) => (i, act.eval x)) := by
  refine ⟨by simp [List.map_map, Function.comp_def], ?_⟩
  have := evalL_of hx
  simpa [List.map_map, Function.comp_def] using this

set_option maxHeartbeats 2000000 in
/-- What an operation does. -/
theorem comp_ok {o : Oper} {f : Ac → St → Re} (hc : compOp P o.op = .mk f) {a : Ac} {act : Act} (hops : ∀ x, x ∈ o.op.operands.toList → VR σ (evalA a x) (act.eval x)) (hr : Rel σ st w) {v : Value} (h : f a st = .ok v st') :
    Does P (execOp act.eval o) σ st w v st' := by
  obtain ⟨dst, op, ty, pos, after, guard⟩ := o
  simp only at hc hops
  cases op with
  | move x =>
    have := eval_mk hc; subst this
    dsimp only [execOp]
    obtain ⟨rfl, rfl⟩ := Re.ok_inj h
    exact ⟨σ, w, act.eval x, .inl rfl, (hops x (by simp [Op.operands])), hr, .refl σ st w⟩
  | assign x =>
    have := eval_mk hc; subst this
    dsimp only [execOp]
    obtain ⟨rfl, rfl⟩ := Re.ok_inj h
    exact ⟨σ, w, act.eval x, .inl rfl, (hops x (by simp [Op.operands])), hr, .refl σ st w⟩
  | pick c x y =>
    have := eval_mk hc; subst this
    dsimp only [execOp]
    have e1 := (hops c (by simp [Op.operands]))
    have e2 := (hops x (by simp [Op.operands]))
    have e3 := (hops y (by simp [Op.operands]))
    obtain ⟨rfl, g⟩ := pickK_ok (P := P) (w := w) h e1 e2 e3
    obtain ⟨v', g1, g2⟩ := g
    refine ⟨σ, w, v', .inl ?_, g2, hr, .refl σ st' w⟩
    simp only [Sem.run_bind] at g1 ⊢
    cases hb : (asBool (act.eval c)).run P w with
    | ok b w2 => rw [hb] at g1; simp only [Result.andThen_ok, Sem.run_pure] at g1 ⊢; cases g1; rfl
    | halt e w2 => rw [hb] at g1; cases g1
  | alloc e =>
    have := eval_mk hc; subst this
    dsimp only [execOp]
    exact alloc_ok h hr
  | box e x =>
    have := eval_mk hc; subst this
    dsimp only [execOp]
    exact box_ok h hr ((hops x (by simp [Op.operands])))
  | build t ps =>
    have := eval_mk hc; subst this
    dsimp only [execOp]
    have hp := parts_of (ps := ps.toList) (fun x hx => hops x (by simpa [Op.operands] using hx))
    refine ores h hr fun v hv => ?_
    have := build_ok (w := w) hv hp
    have e : ps.map (fun (i, x) => (i, act.eval x)) = ⟨ps.toList.map fun (i, x) => (i, act.eval x)⟩ := by apply Array.ext'; simp
    rw [e]; exact this
  | buildSlice t n ps =>
    have := eval_mk hc; subst this
    dsimp only [execOp]
    have hp := parts_of (ps := ps.toList) (fun x hx => hops x (by simpa [Op.operands] using hx))
    have := buildSlice_ok h hr hp
    have e : ps.map (fun (i, x) => (i, act.eval x)) = ⟨ps.toList.map fun (i, x) => (i, act.eval x)⟩ := by apply Array.ext'; simp
    rw [e]; exact this
  | load t x =>
    have := eval_mk hc; subst this
    dsimp only [execOp]
    obtain ⟨rfl, g⟩ := load_ok h hr ((hops x (by simp [Op.operands])))
    exact g.does hr
  | store t x y =>
    have := eval_mk hc; subst this
    dsimp only [execOp]
    exact store_ok h hr ((hops x (by simp [Op.operands]))) ((hops y (by simp [Op.operands])))
  | nilCheck x =>
    have := eval_mk hc; subst this
    dsimp only [execOp]
    have e1 := (hops x (by simp [Op.operands]))
    obtain ⟨rfl, rfl, g⟩ := nilK_ok h e1
    refine ⟨σ, w, act.eval x, .inl ?_, e1, hr, .refl σ st' w⟩
    rcases g with ⟨ad, e⟩ | ⟨f, as, bs, e⟩ | ⟨l, as, bs, e⟩ <;> rw [e] <;> rfl
  | binOp op t x y k =>
    have := eval_mk hc; subst this
    dsimp only [execOp]
    exact ores h hr fun v hv => binK_ok hv ((hops x (by simp [Op.operands]))) ((hops y (by simp [Op.operands]))) x y
  | unOp op t x =>
    have := eval_mk hc; subst this
    dsimp only [execOp]
    exact ores h hr fun v hv => unA_ok hv ((hops x (by simp [Op.operands])))
  | convert s d x =>
    have := eval_mk hc; subst this
    dsimp only [execOp]
    exact ores h hr fun v hv => convK_ok hv hr ((hops x (by simp [Op.operands])))
  | makeInterface t x =>
    have := eval_mk hc; subst this
    dsimp only [execOp]
    exact ores h hr fun v hv => mkIface_ok hv ((hops x (by simp [Op.operands])))
  | makeFunc fn first captured =>
    cases fn with
    | func f =>
      have := eval_mk hc; subst this
      dsimp only [execOp]
      obtain ⟨rfl, rfl⟩ := Re.ok_inj h
      have h1 := evalL_of (xs := first.toList) (fun x hx => hops x (by simp only [Op.operands, Array.toList_append, List.mem_append]; exact .inl hx))
      have h2 := evalL_of (xs := captured.toList) (fun x hx => hops x (by simp only [Op.operands, Array.toList_append, List.mem_append]; exact .inr hx))
      have e1 : first.map act.eval = ⟨first.toList.map act.eval⟩ := by apply Array.ext'; simp
      have e2 : captured.map act.eval = ⟨captured.toList.map act.eval⟩ := by apply Array.ext'; simp
      rw [e1, e2]
      exact ⟨σ, w, _, .inl rfl, .func f _ _ _ _ h1.1 h1.2 h2.1 h2.2, hr, .refl σ st w⟩
    | _ => cases hc
  | makeMap t r =>
    cases r with
    | none =>
      have := eval_mk hc; subst this
      dsimp only [execOp]
      exact makeMap_ok h hr
    | some r => cases hc
  | makeSlice t l c =>
    have := eval_mk hc; subst this
    dsimp only [execOp]
    exact makeSlice_ok h hr ((hops l (by simp [Op.operands]))) ((hops c (by simp [Op.operands])))
  | slice t x lo hi mx =>
    have := eval_mk hc; subst this
    dsimp only [execOp]
    cases mx with
    | some m => cases h
    | none =>
      refine ores h hr fun v hv => sliceK_ok hv hr ((hops x (by simp [Op.operands]))) ?_ ?_
      · cases lo with
        | none => trivial
        | some l => exact (hops l (by simp [Op.operands]))
      · cases hi with
        | none => trivial
        | some l => exact (hops l (by simp [Op.operands]))
  | fieldAddr s x f =>
    have := eval_mk hc; subst this
    dsimp only [execOp]
    exact ores h hr fun v hv => fieldPtr_ok hv ((hops x (by simp [Op.operands])))
  | field t x f =>
    have := eval_mk hc; subst this
    dsimp only [execOp]
    exact ores h hr fun v hv => field_ok hv ((hops x (by simp [Op.operands])))
  | indexAddr t x i =>
    have := eval_mk hc; subst this
    dsimp only [execOp]
    exact ores h hr fun v hv => idxK_ok hv ((hops x (by simp [Op.operands]))) ((hops i (by simp [Op.operands])))
  | index t x i =>
    have := eval_mk hc; subst this
    dsimp only [execOp]
    exact ores h hr fun v hv => indexK_ok hv ((hops x (by simp [Op.operands]))) ((hops i (by simp [Op.operands])))
  | lookup t x i ok =>
    have := eval_mk hc; subst this
    dsimp only [execOp]
    exact ores h hr fun v hv => lookupK_ok hv hr ((hops x (by simp [Op.operands]))) ((hops i (by simp [Op.operands])))
  | mapUpdate t m k x =>
    have := eval_mk hc; subst this
    dsimp only [execOp]
    exact sres h fun st' hs => mapSetK_ok hs hr ((hops m (by simp [Op.operands]))) ((hops k (by simp [Op.operands]))) ((hops x (by simp [Op.operands])))
  | insert t m k x =>
    have := eval_mk hc; subst this
    dsimp only [execOp]
    exact sres h fun st' hs => mapSetK_ok hs hr ((hops m (by simp [Op.operands]))) ((hops k (by simp [Op.operands]))) ((hops x (by simp [Op.operands])))
  | mapEntry t m k =>
    have := eval_mk hc; subst this
    dsimp only [execOp]
    obtain ⟨w', v', h1, h2, h3, h4⟩ := mapEntryK_ok h hr ((hops m (by simp [Op.operands]))) ((hops k (by simp [Op.operands])))
    exact DoesV.does ⟨σ, w', v', h1, h2, h3, h4⟩
  | entryStore t m s x =>
    have := eval_mk hc; subst this
    dsimp only [execOp]
    exact sres h fun st' hs => entryStoreK_ok hs hr ((hops m (by simp [Op.operands]))) ((hops s (by simp [Op.operands]))) ((hops x (by simp [Op.operands])))
  | typeAssert x xt asserted ok =>
    have := eval_mk hc; subst this
    dsimp only [execOp]
    exact ores h hr fun v hv => assertA_ok hv ((hops x (by simp [Op.operands])))
  | extract t i =>
    have := eval_mk hc; subst this
    dsimp only [execOp]
    obtain ⟨rfl, g⟩ := extractK_ok (P := P) (w := w) h ((hops t (by simp [Op.operands])))
    exact g.does hr
  | call c =>
    obtain ⟨callee, args, argTypes⟩ := c
    cases callee with
    | builtin b =>
      have := eval_mk hc; subst this
      dsimp only [execOp]
      have hl := evalL_of (xs := args.toList) (fun x hx => hops x (by simpa [Op.operands, Call.operands] using hx))
      have := builtin_ok (ty := ty) (consts := args.map fun | .const _ => true | _ => false) h hr hl
      have e : args.map act.eval = ⟨args.toList.map act.eval⟩ := by apply Array.ext'; simp
      simp only [resolve, e]
      exact this
    | value f => cases hc
    | invoke x n => cases hc
  | _ => cases hc
end
end Go.Proofs.YtieclenlldjfjaaGreat.Ev
