import Derived.Test.YtieclenlldjfjaaGreatE21
set_option autoImplicit false
set_option linter.unusedVariables false
set_option linter.unusedSimpArgs false
namespace Go.Proofs.YtieclenlldjfjaaGreat.Ev
open Go
section
variable {P : Program} {rec : Rec} {σ : Nm} {st st' : St} {w : World}

theorem parts_congr {a b : Ac} {ps : List (Nat × Operand)} (h : ∀ x, x ∈ ps.map (·.2) → evalA a x = evalA b x) : (ps.map fun (i, x) => (i, evalA a x)) = ps.map fun (i, x) => (i, evalA b x) := by
  apply List.map_congr_left
  intro q hq
  obtain ⟨i, x⟩ := q
  show (i, evalA a x) = (i, evalA b x)
  rw [h x (List.mem_map.2 ⟨(i, x), hq, rfl⟩)]

theorem map_congr {a b : Ac} {xs : List Operand} (h : ∀ x, x ∈ xs → evalA a x = evalA b x) : xs.map (evalA a) = xs.map (evalA b) := List.map_congr_left h

/-- A step looks at its operands alone. -/
theorem stepS_congr {op : Op} {a b : Ac} (h : ∀ x, x ∈ op.operands.toList → evalA a x = evalA b x) (st : St) : stepS P rec (stpOf P op) a st = stepS P rec (stpOf P op) b st := by
  cases op with
  | call c =>
    obtain ⟨callee, args, ats⟩ := c
    cases callee with
    | value f =>
      have h1 := h f (by simp [Op.operands, Call.operands])
      have h2 := map_congr (a := a) (b := b) (xs := args.toList) (fun x hx => h x (by simp only [Op.operands, Call.operands, Array.toList_append, List.mem_append]; exact .inr hx))
      show callV P rec (evalA a f) (mapE a args.toList) st = callV P rec (evalA b f) (mapE b args.toList) st
      rw [mapE_eq, mapE_eq, h1, h2]
    | invoke x m => rfl
    | builtin bi =>
      have h2 := map_congr (a := a) (b := b) (xs := args.toList) (fun x hx => h x (by simpa [Op.operands, Call.operands] using hx))
      show builtinA P bi ats (args.toList.map (evalA a)) st = builtinA P bi ats (args.toList.map (evalA b)) st
      rw [h2]
  | build t ps =>
    have h2 := parts_congr (a := a) (b := b) (ps := ps.toList) (fun x hx => h x (by simpa [Op.operands] using hx))
    show reO (buildA _ (ps.toList.map fun (i, x) => (i, evalA a x))) st = reO (buildA _ (ps.toList.map fun (i, x) => (i, evalA b x))) st
    rw [h2]
  | buildSlice t n ps =>
    have h2 := parts_congr (a := a) (b := b) (ps := ps.toList) (fun x hx => h x (by simpa [Op.operands] using hx))
    show buildSliceA _ n (ps.toList.map fun (i, x) => (i, evalA a x)) st = buildSliceA _ n (ps.toList.map fun (i, x) => (i, evalA b x)) st
    rw [h2]
  | makeFunc fn first captured =>
    cases fn with
    | func f =>
      have h1 := map_congr (a := a) (b := b) (xs := first.toList) (fun x hx => h x (by simp only [Op.operands, Array.toList_append, List.mem_append]; exact .inl hx))
      have h2 := map_congr (a := a) (b := b) (xs := captured.toList) (fun x hx => h x (by simp only [Op.operands, Array.toList_append, List.mem_append]; exact .inr hx))
      show Re.ok (.func (.func f) ⟨first.toList.map (evalA a)⟩ ⟨captured.toList.map (evalA a)⟩) st = .ok (.func (.func f) ⟨first.toList.map (evalA b)⟩ ⟨captured.toList.map (evalA b)⟩) st
      rw [h1, h2]
    | _ => rfl
  | makeMap t r => cases r <;> rfl
  | slice t x lo hi mx =>
    have h1 := h x (by simp [Op.operands])
    have h2 : lo.map (evalA a) = lo.map (evalA b) := by
      cases lo with
      | none => rfl
      | some l => exact congrArg some (h l (by simp [Op.operands]))
    have h3 : hi.map (evalA a) = hi.map (evalA b) := by
      cases hi with
      | none => rfl
      | some l => exact congrArg some (h l (by simp [Op.operands]))
    show bsel mx.isSome .no (reO (sliceK _ (evalA a x) (lo.map (evalA a)) (hi.map (evalA a)) st) st) = bsel mx.isSome .no (reO (sliceK _ (evalA b x) (lo.map (evalA b)) (hi.map (evalA b)) st) st)
    rw [h1, h2, h3]
  | pick c x y => simp only [stpOf, stepS, compOp, h c (by simp [Op.operands]), h x (by simp [Op.operands]), h y (by simp [Op.operands])]
  | mapUpdate t m k x => simp only [stpOf, stepS, compOp, h m (by simp [Op.operands]), h k (by simp [Op.operands]), h x (by simp [Op.operands])]
  | entryStore t m k x => simp only [stpOf, stepS, compOp, h m (by simp [Op.operands]), h k (by simp [Op.operands]), h x (by simp [Op.operands])]
  | insert t m k x => simp only [stpOf, stepS, compOp, h m (by simp [Op.operands]), h k (by simp [Op.operands]), h x (by simp [Op.operands])]
  | store t x y => simp only [stpOf, stepS, compOp, h x (by simp [Op.operands]), h y (by simp [Op.operands])]
  | binOp o t x y k => simp only [stpOf, stepS, compOp, h x (by simp [Op.operands]), h y (by simp [Op.operands])]
  | makeSlice t x y => simp only [stpOf, stepS, compOp, h x (by simp [Op.operands]), h y (by simp [Op.operands])]
  | indexAddr t x y => simp only [stpOf, stepS, compOp, h x (by simp [Op.operands]), h y (by simp [Op.operands])]
  | index t x y => simp only [stpOf, stepS, compOp, h x (by simp [Op.operands]), h y (by simp [Op.operands])]
  | lookup t x y ok => simp only [stpOf, stepS, compOp, h x (by simp [Op.operands]), h y (by simp [Op.operands])]
  | mapEntry t x y => simp only [stpOf, stepS, compOp, h x (by simp [Op.operands]), h y (by simp [Op.operands])]
  | move x => simp only [stpOf, stepS, compOp, h x (by simp [Op.operands])]
  | assign x => simp only [stpOf, stepS, compOp, h x (by simp [Op.operands])]
  | box t x => simp only [stpOf, stepS, compOp, h x (by simp [Op.operands])]
  | load t x => simp only [stpOf, stepS, compOp, h x (by simp [Op.operands])]
  | nilCheck x => simp only [stpOf, stepS, compOp, h x (by simp [Op.operands])]
  | unOp o t x => simp only [stpOf, stepS, compOp, h x (by simp [Op.operands])]
  | convert s d x => simp only [stpOf, stepS, compOp, h x (by simp [Op.operands])]
  | makeInterface t x => simp only [stpOf, stepS, compOp, h x (by simp [Op.operands])]
  | fieldAddr t x f => simp only [stpOf, stepS, compOp, h x (by simp [Op.operands])]
  | field t x f => simp only [stpOf, stepS, compOp, h x (by simp [Op.operands])]
  | typeAssert x t u ok => simp only [stpOf, stepS, compOp, h x (by simp [Op.operands])]
  | extract x i => simp only [stpOf, stepS, compOp, h x (by simp [Op.operands])]
  | _ => rfl

theorem reO_any {x : Option Value} {v : Value} (h : reO x st = .ok v st') : st' = st ∧ ∀ s2, reO x s2 = .ok v s2 := by
  obtain ⟨rfl, rfl⟩ := reO_ok h
  exact ⟨rfl, fun _ => rfl⟩

theorem pickK_any {c x y v : Value} (h : pickK c x y st = .ok v st') : st' = st ∧ ∀ s2, pickK c x y s2 = .ok v s2 := by
  unfold pickK at h
  split at h
  · obtain ⟨rfl, rfl⟩ := Re.ok_inj h; exact ⟨rfl, fun _ => rfl⟩
  · cases h

theorem nilK_any {x v : Value} (h : nilK x st = .ok v st') : st' = st ∧ ∀ s2, nilK x s2 = .ok v s2 := by
  unfold nilK at h
  split at h
  · obtain ⟨rfl, rfl⟩ := Re.ok_inj h; exact ⟨rfl, fun _ => rfl⟩
  · obtain ⟨rfl, rfl⟩ := Re.ok_inj h; exact ⟨rfl, fun _ => rfl⟩
  · obtain ⟨rfl, rfl⟩ := Re.ok_inj h; exact ⟨rfl, fun _ => rfl⟩
  · cases h

theorem extractK_any {x v : Value} {i : Nat} (h : extractK x i st = .ok v st') : st' = st ∧ ∀ s2, extractK x i s2 = .ok v s2 := by
  unfold extractK at h
  split at h
  · exact reO_any h
  · cases h

/-- What is pure is the same at every memory, and leaves it. -/
theorem pure_any {op : Op} (hc : cls op = .pure) {a : Ac} {v : Value} (h : stepS P rec (stpOf P op) a st = .ok v st') : st' = st ∧ ∀ s2, stepS P rec (stpOf P op) a s2 = .ok v s2 := by
  cases op with
  | move x => obtain ⟨rfl, rfl⟩ := Re.ok_inj h; exact ⟨rfl, fun _ => rfl⟩
  | assign x => obtain ⟨rfl, rfl⟩ := Re.ok_inj h; exact ⟨rfl, fun _ => rfl⟩
  | pick c x y => exact pickK_any h
  | build t ps => exact reO_any h
  | nilCheck x => exact nilK_any h
  | binOp o t x y k => exact reO_any h
  | unOp o t x => exact reO_any h
  | makeInterface t x => exact reO_any h
  | makeFunc fn f c =>
    cases fn with
    | func k => obtain ⟨rfl, rfl⟩ := Re.ok_inj h; exact ⟨rfl, fun _ => rfl⟩
    | _ => cases h
  | fieldAddr t x f => exact reO_any h
  | field t x f => exact reO_any h
  | indexAddr t x i => exact reO_any h
  | index t x i => exact reO_any h
  | typeAssert x t u ok => exact reO_any h
  | extract x i => exact extractK_any h
  | makeMap t r => cases r <;> cases hc
  | call c =>
    obtain ⟨callee, args, ats⟩ := c
    cases callee with
    | builtin b => cases b <;> cases hc
    | _ => cases hc
  | _ => cases hc

/-- What reads leaves memory as it is, and makes no call. -/
theorem reads_any {op : Op} (hc : cls op = .reads) {a : Ac} {v : Value} (h : stepS P rec (stpOf P op) a st = .ok v st') : st' = st := by
  cases op with
  | load t x =>
    have h : ptrK (evalA a x) .no (fun nm off => loadK (tyOf P t) nm off st) = Re.ok v st' := h
    obtain ⟨ad, _, h⟩ := ptrK_ok h Re.no_ne
    unfold loadK at h
    obtain ⟨d, n, es, ex, tr, ho, h⟩ := cellsK_ok h Re.no_ne
    cases hty : tyOf P t with
    | no => rw [hty] at h; cases h
    | agg kk =>
      rw [hty] at h
      obtain ⟨_, h⟩ := bsel_ne h Re.no_ne
      exact (Re.ok_inj h).2.symm
    | one =>
      rw [hty] at h
      obtain ⟨_, h⟩ := bsel_ne h Re.no_ne
      exact (Re.ok_inj h).2.symm
  | lookup t x i ok => exact (reO_ok h).2
  | convert s d x => exact (reO_ok h).2
  | slice t x lo hi mx =>
    cases mx with
    | some m => cases h
    | none => exact (reO_ok (st := st) h).2
  | makeMap t r => cases r <;> cases hc
  | call c =>
    obtain ⟨callee, args, ats⟩ := c
    cases callee with
    | builtin b =>
      cases b with
      | len =>
        have h : builtinA P .len ats (args.toList.map (evalA a)) st = .ok v st' := h
        generalize args.toList.map (evalA a) = xs at h
        cases xs with
        | nil => cases h
        | cons x xs =>
          cases xs with
          | cons y ys => cases h
          | nil =>
            have h : (match ats[0]? with | some t => reO (lenK (lnOf P t) x st) st | none => .no) = Re.ok v st' := h
            split at h
            · exact (reO_ok h).2
            · cases h
      | min =>
        have h : reO (minMaxA true (args.toList.map (evalA a))) st = .ok v st' := h
        exact (reO_ok h).2
      | max =>
        have h : reO (minMaxA false (args.toList.map (evalA a))) st = .ok v st' := h
        exact (reO_ok h).2
      | _ => cases hc
    | _ => cases hc
  | _ => cases hc

theorem reads_rec {op : Op} (hc : cls op = .reads) (rec rec' : Rec) (a : Ac) (st : St) : stepS P rec (stpOf P op) a st = stepS P rec' (stpOf P op) a st := by
  cases op with
  | call c =>
    obtain ⟨callee, args, ats⟩ := c
    cases callee with
    | value f => cases hc
    | _ => rfl
  | _ => rfl
end
end Go.Proofs.YtieclenlldjfjaaGreat.Ev
