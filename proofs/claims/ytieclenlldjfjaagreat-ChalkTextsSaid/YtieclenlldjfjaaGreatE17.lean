import Derived.Test.YtieclenlldjfjaaGreatE16
import Derived.RangeFuncLeaves
import Derived.TacticsIn
set_option autoImplicit false
set_option linter.unusedVariables false
set_option linter.unusedSimpArgs false
namespace Go.Proofs.YtieclenlldjfjaaGreat.Ev
open Go

/-- The fence: no bound; a round's, or not. -/
abbrev Fr (ro : Option Nat) : Fence := { Fence.wide with round := ro }

def RO (σ : Nm) : Option Nat → Option Nat → Prop
  | none, none => True
  | some l, some b => ∃ k, σ l = some k ∧ k.b = b
  | _, _ => False

theorem RO.mono {σ τ : Nm} (hs : Sub σ τ) {a b : Option Nat} (h : RO σ a b) : RO τ a b := by
  cases a <;> cases b <;> first | exact h | skip
  obtain ⟨k, h1, h2⟩ := h
  exact ⟨k, hs _ _ h1, h2⟩

def exitOf : Xit → Exit
  | .normal => .normal
  | .exit id => .exit id
  | .goto l => .goto l
  | .ret => .ret

/-- What a call's end says. -/
def Ends (σ : Nm) (st : St) (w : World) (v : Value) (st' : St) : Ending → World → Prop := fun e w' => ∃ σ' v', e = .returned v' ∧ VR σ' v v' ∧ Rel σ' st' w' ∧ Ext σ st w σ' st' w'

/-- What is known of calls ahead is so. -/
def OrcOk (P : Program) (O : Orc) : Prop := ∀ (f : FuncId) (args : List Value) (st : St) (v : Value) (st' : St), O f args st = .ok v st' →
  ∀ (σ : Nm) (w : World) (args' : List Value), Rel σ st w → VRL σ args args' → ∀ (n : Nat) (ro : Option Nat), CallsIn (Fr ro) n P f ⟨args'⟩ w (Ends σ st w v st')

/-- What a run of a piece of code says. -/
structure CodeOk (P : Program) (rec : Rec) : Prop where
  code : ∀ (c : Code) (ro : Option Nat) (a : Ac) (st : St) (x : Xit) (a' : Ac) (st' : St), rec c ro a st = .ok x a' st' →
    ∀ (σ : Nm) (w : World) (act : Act) (ro' : Option Nat), Rel σ st w → AR σ a act → RO σ ro ro' → ∀ (n : Nat) (Q : Exit → Act → World → Prop),
      (∀ σ' w' act', Rel σ' st' w' → AR σ' a' act' → Ext σ st w σ' st' w' → Q (exitOf x) act' w') → c.wpIn (Fr ro') n P Q act w
  call : OrcOk P rec.call

section
variable {P : Program} {rec : Rec} {σ : Nm} {st st' : St} {w : World}

theorem setArgs_get : ∀ (xs : List Value) (k : Nat) (t : Regs), k + xs.length ≤ 512 → ∀ i, i < 512 → (regAt i).g (setArgs xs k t) = if k ≤ i ∧ i < k + xs.length then xs.getD (i - k) junk else (regAt i).g t
  | [], k, t, h, i, hi => by
    rw [if_neg (by simp)]
    rfl
  | x :: xs, k, t, h, i, hi => by
    show (regAt i).g (setArgs xs (k + 1) ((regAt k).s x t)) = _
    have hl : (x :: xs).length = xs.length + 1 := rfl
    rw [setArgs_get xs (k + 1) _ (by rw [hl] at h; omega) i hi]
    rw [hl] at h ⊢
    by_cases e : i = k
    · subst e
      rw [if_neg (by omega), if_pos (by omega), regAt_same hi]
      simp
    · rw [regAt_other hi (by omega) e]
      by_cases e2 : k + 1 ≤ i ∧ i < k + 1 + xs.length
      · rw [if_pos e2, if_pos (by omega)]
        have : i - k = (i - (k + 1)) + 1 := by omega
        rw [this]; simp
      · rw [if_neg e2, if_neg (by omega)]

theorem args_ok {args args' : List Value} (h : VRL σ args args') {n : Nat} (hl : args.length ≤ n) (hn : n ≤ 512) :
    AR σ (Ac.ofArgs args n) { tmps := ⟨args'⟩ ++ Array.replicate (n - (⟨args'⟩ : Array Value).size) undef, defers := [] } := by
  refine ⟨⟨hn, ?_, fun i hi => ?_⟩, rfl, fun i nm f h => by simp [Ac.ofArgs] at h⟩
  · have := h.1
    simp [Ac.ofArgs]; omega
  · show VR σ ((regAt i).g (setArgs args 0 regs0)) _
    rw [setArgs_get args 0 regs0 (by omega) i hi]
    by_cases hc : i < args.length
    · rw [if_pos ⟨Nat.zero_le _, by omega⟩]
      obtain ⟨u, hu⟩ : ∃ u, args[i]? = some u := ⟨args[i], by simp [hc]⟩
      obtain ⟨v, hv, hr⟩ := h.get hu
      have h1 : args.getD (i - 0) junk = u := by simp [List.getD_eq_getElem?_getD, hu]
      have hc' : i < args'.length := h.1 ▸ hc
      have h2 : ((⟨args'⟩ : Array Value) ++ Array.replicate (n - (⟨args'⟩ : Array Value).size) undef).getD i undef = v := by
        simp only [Array.getD_eq_getD_getElem?]
        rw [Array.getElem?_append_left (by simpa using hc')]
        simp [hv]
      rw [h1, h2]; exact hr
    · rw [if_neg (by omega), regs0_get hi]
      have h2 : ((⟨args'⟩ : Array Value) ++ Array.replicate (n - (⟨args'⟩ : Array Value).size) undef).getD i undef = undef := by
        simp only [Array.getD_eq_getD_getElem?]
        rw [Array.getElem?_append_right (by have := h.1; simp; omega)]
        rw [Array.getElem?_replicate]
        split <;> rfl
      rw [h2]
      exact .junk σ

theorem resA_ok {a : Ac} {act : Act} (hA : AR σ a act) (hr : Rel σ st w) {r : ResultVar} (hok : okRes r = true) {v : Value} (h : resA P a st r = some v) :
    ∃ v', ((match r with | .tmp t => pure (act.tmps.getD t undef) | .cell a t => do loadVar t (← asAddr (act.tmps.getD a undef))) : Sem Value).run P w = .ok v' w ∧ VR σ v v' := by
  cases r with
  | tmp t =>
    cases h
    have ht : @LT.lt Nat _ t 512 := ble_iff.1 hok
    exact ⟨_, rfl, by rw [Ac.get_eq]; exact hA.1.2.2 t ht⟩
  | cell x t =>
    have ht : @LT.lt Nat _ x 512 := ble_iff.1 hok
    have hx : VR σ (a.get x) (act.tmps.getD x undef) := by rw [Ac.get_eq]; exact hA.1.2.2 x ht
    have h : ptrK (a.get x) none (fun b o => Re.rec (motive := fun _ => Option Value) none (fun v _ => some v) (loadK (tyOf P t) b o st)) = some v := h
    obtain ⟨ad, e, h⟩ := ptrK_ok h (by simp)
    rw [e] at hx
    obtain ⟨k, hk, e2⟩ := ptr_inv hx
    cases hl : loadK (tyOf P t) ad.block ad.off st with
    | no => rw [hl] at h; cases h
    | ok u st2 =>
      rw [hl] at h
      cases h
      obtain ⟨rfl, v', h1, h2⟩ := loadK_ok hl hr hk
      refine ⟨v', ?_, h2⟩
      show (do loadVar t (← asAddr (act.tmps.getD x undef)) : Sem Value).run P _ = _
      rw [e2]
      simp [asAddr, h1]

theorem resL_ok {a : Ac} {g : ResultVar → Sem Value} (hg : ∀ r v, okRes r = true → resA P a st r = some v → ∃ v', (g r).run P w = .ok v' w ∧ VR σ v v') : ∀ {rs : List ResultVar} {vs : List Value}, (∀ r, r ∈ rs → okRes r = true) → resL P a st rs = some vs →
    ∃ vs', (rs.mapM (m := Sem) g).run P w = .ok vs' w ∧ VRL σ vs vs'
  | [], vs, _, h => by cases h; exact ⟨[], rfl, .nil⟩
  | r :: rs, vs, hok, h => by
    have h : (osel (resA P a st r) none fun v => osel (resL P a st rs) none fun vs => some (v :: vs)) = some vs := h
    obtain ⟨v, hv, h⟩ := osel_ne h (by simp)
    obtain ⟨us, hu, h⟩ := osel_ne h (by simp)
    cases h
    obtain ⟨v', h1, h2⟩ := hg r v (hok r (by simp)) hv
    obtain ⟨us', h3, h4⟩ := resL_ok hg (fun q hq => hok q (by simp [hq])) hu
    refine ⟨v' :: us', ?_, .cons h2 h4⟩
    rw [List.mapM_cons]
    simp only [Sem.run_bind, Sem.run_pure, h1, Result.andThen_ok, h3]

theorem results_ok {fn : Func} {a : Ac} {act : Act} (hA : AR σ a act) (hr : Rel σ st w) (hok : fn.results.toList.all okRes = true) {v : Value} (h : resultsA P fn a st = .ok v st') :
    st' = st ∧ ∃ v', (results fn act.tmps).run P w = .ok v' w ∧ VR σ v v' := by
  unfold resultsA at h
  have key : ∀ vs, resL P a st fn.results.toList = some vs → ∃ vs', (results fn act.tmps).run P w = .ok (if h : (⟨vs'⟩ : Array Value).size = 1 then (⟨vs'⟩ : Array Value)[0] else .tuple ⟨vs'⟩) w ∧ VRL σ vs vs' := by
    intro vs hvs
    obtain ⟨vs', h1, h2⟩ := resL_ok (P := P) (fun r v hq hv => resA_ok (P := P) hA hr hq hv) (fun r hq => List.all_eq_true.1 hok r hq) hvs
    refine ⟨vs', ?_, h2⟩
    unfold results
    rw [Array.mapM_eq_mapM_toList]
    show ((List.mapM (m := Sem) _ fn.results.toList >>= fun l => pure l.toArray) >>= _).run P w = _
    rw [Sem.run_bind, Sem.run_bind]
    generalize hX : Sem.run P (List.mapM _ fn.results.toList) w = X
    have hX2 : X = .ok vs' w := hX.symm.trans h1
    rw [hX2]
    rfl
  split at h
  · rename_i u hu
    obtain ⟨rfl, rfl⟩ := Re.ok_inj h
    obtain ⟨vs', h1, h2⟩ := key _ hu
    obtain ⟨b, bs, rfl, h3, h4⟩ := h2.cons_inv
    have := h4.nil_inv; subst this
    exact ⟨rfl, b, h1, h3⟩
  · rename_i vs hne hu
    obtain ⟨rfl, rfl⟩ := Re.ok_inj h
    obtain ⟨vs', h1, h2⟩ := key _ hu
    have hl : ¬ (⟨vs'⟩ : Array Value).size = 1 := by
      intro e
      have e1 : vs.length = 1 := by rw [h2.1]; simpa using e
      cases vs with
      | nil => simp at e1
      | cons u us => cases us with
        | nil => exact hne u rfl
        | cons => simp at e1
    rw [dif_neg hl] at h1
    exact ⟨rfl, _, h1, .tuple _ _ h2.1 h2.2⟩
  · cases h

/-- The way out, past the marks. -/
theorem leave_ok {fn : Func} {tmps : Array Value} {n : Nat} {F : Fence} {R : Ending → World → Prop} : ∀ {ds : List Nat} {fs : List Deferred} {st : St} {w : World} {st' : St}, leaveA ds st = .ok st' → DR σ ds fs → Rel σ st w →
    (∀ w', Rel σ st' w' → Ext σ st w σ st' w' → ∃ v, (results fn tmps).run P w' = .ok v w' ∧ R (.returned v) w') → LeavesInM F n P fn tmps R fs .returning w
  | [], fs, st, w, st', h, hd, hr, hR => by
    cases h
    cases fs with
    | nil => exact hR w hr (.refl σ st w)
    | cons f fs => have := hd.1; simp at this
  | b :: bs, [], st, w, st', h, hd, hr, hR => by have := hd.1; simp at this
  | b :: bs, f :: fs, st, w, st', h, hd, hr, hR => by
    have h : (match st.obj b with | .deferred => leaveA bs (st.setObj b .dead) | _ => Rs.no) = .ok st' := h
    split at h
    · rename_i ho
      obtain ⟨k, hk, rfl⟩ := hd.2 0 b f rfl rfl
      obtain ⟨ha, g1⟩ := hr.at hk ho (by simp)
      have g1 : w.heap[k.b]? = some (.deferred (some [])) := g1
      obtain ⟨r1, x1⟩ := hr.upd (o := .dead) (w' := { w with heap := w.heap.setIfInBounds k.b (.deferred none) }) ha hk (by simp) (fun c hc => by simp [Array.getElem?_setIfInBounds_ne (Ne.symm hc)]) trivial rfl rfl rfl
      refine ⟨by simp, .inl ⟨k.b, { w with heap := w.heap.setIfInBounds k.b (.deferred none) }, rfl, ?_, ?_⟩⟩
      · simp [Instr.takeDeferred, getObj, setObj, Sem.run, g1]
      · exact leave_ok h ⟨by have := hd.1; simpa using this, fun i nm f h1 h2 => hd.2 (i + 1) nm f (by simpa using h1) (by simpa using h2)⟩ r1 (fun w' h1 h2 => hR w' h1 (x1.trans h2))
    · cases h

theorem feOf_ok {f : FuncId} {c : Code} {m : Nat} {fn : Func} (h : feOf P f = .mk c m fn) : P.funcs[f]? = some fn ∧ fn.body = some c ∧ (fn.name == "runtime.NumGoroutine") = false ∧ m = fn.ntmps ∧ fn.ntmps ≤ 512 ∧ fn.results.toList.all okRes = true := by
  unfold feOf at h
  split at h
  · cases h
  · rename_i fn' hf
    split at h
    · cases h
    · rename_i c' hb
      cases hn : (fn'.name == "runtime.NumGoroutine") with
      | true => rw [hn] at h; cases h
      | false =>
        rw [hn] at h
        obtain ⟨hc, h⟩ := bsel_ne (α := Fe) (b := fn'.ntmps.ble 512 && fn'.results.toList.all okRes) (t := .mk c' fn'.ntmps fn') (no := .no) (r := .mk c m fn) h (by simp)
        cases h
        rw [Bool.and_eq_true] at hc
        exact ⟨hf, hb, hn, rfl, ble_iff.1 hc.1, hc.2⟩

theorem callF_ok (hrec : CodeOk P rec) {f : FuncId} {args args' : List Value} {v : Value} (h : callF P rec f args st = .ok v st') (hr : Rel σ st w) (ha : VRL σ args args') (n : Nat) (ro : Option Nat) :
    CallsIn (Fr ro) n P f ⟨args'⟩ w (Ends σ st w v st') := by
  unfold callF at h
  cases hfe : feOf P f with
  | no => rw [hfe] at h; cases h
  | mk c m fn =>
    rw [hfe] at h
    obtain ⟨hf, hb, hname, rfl, hm, hres⟩ := feOf_ok hfe
    have h : Re.rec (motive := fun _ => Re) (bsel (Nat.ble (lenL args) fn.ntmps) (endF P fn (rec c none (Ac.ofArgs args fn.ntmps) st)) .no) (fun v st => .ok v st) (rec.call f args st) = .ok v st' := h
    cases hO : rec.call f args st with
    | ok v1 st1 => rw [hO] at h; cases h; exact hrec.call f args st _ _ hO σ w args' hr ha n ro
    | no =>
    rw [hO] at h
    have h : bsel (Nat.ble (lenL args) fn.ntmps) (endF P fn (rec c none (Ac.ofArgs args fn.ntmps) st)) .no = .ok v st' := h
    obtain ⟨hl, h⟩ := bsel_ne h Re.no_ne
    have hl : args.length ≤ fn.ntmps := by have := ble_iff.1 hl; rwa [lenL_eq] at this
    have h : endF P fn (rec c none (Ac.ofArgs args fn.ntmps) st) = .ok v st' := h
    show CallsIn (Fr none) n P f ⟨args'⟩ w (Ends σ st w v st')
    refine callsIn_of_wp_marks hf hb trivial ?_
    cases hrc : rec c none (Ac.ofArgs args fn.ntmps) st with
    | no => rw [hrc] at h; cases h
    | ok x a st1 =>
      rw [hrc] at h
      have fin : ∀ {st2 : St}, leaveA a.defers st1 = .ok st2 → resultsA P fn a st2 = .ok v st' → ∀ σ' w' act', Rel σ' st1 w' → AR σ' a act' → Ext σ st w σ' st1 w' →
          LeavesInM (Fr none) n P fn act'.tmps (Ends σ st w v st') act'.defers .returning w' := by
        intro st2 hle hra σ' w' act' r1 a1 x1
        refine leave_ok hle a1.2 r1 fun w2 r2 x2 => ?_
        obtain ⟨rfl, v', e1, e2⟩ := results_ok (P := P) a1 r2 hres hra
        exact ⟨v', e1, σ', v', rfl, e2, r2, x1.trans x2⟩
      have hrun : ∀ (Q : Exit → Act → World → Prop), (∀ σ' w' act', Rel σ' st1 w' → AR σ' a act' → Ext σ st w σ' st1 w' → Q (exitOf x) act' w') →
          c.wpIn (Fr none) n P Q { tmps := ⟨args'⟩ ++ Array.replicate (fn.ntmps - (⟨args'⟩ : Array Value).size) undef, defers := [] } w :=
        fun Q hQ => hrec.code c none _ st x a st1 hrc σ w _ none hr (args_ok ha hl hm) trivial n Q hQ
      cases x with
      | normal =>
        have h : Rs.rec (motive := fun _ => Re) .no (fun st => resultsA P fn a st) (leaveA a.defers st1) = .ok v st' := h
        cases hle : leaveA a.defers st1 with
        | no => rw [hle] at h; cases h
        | ok st2 => rw [hle] at h; exact hrun _ (fun σ' w' act' r1 a1 x1 => fin hle h σ' w' act' r1 a1 x1)
      | ret =>
        have h : Rs.rec (motive := fun _ => Re) .no (fun st => resultsA P fn a st) (leaveA a.defers st1) = .ok v st' := h
        cases hle : leaveA a.defers st1 with
        | no => rw [hle] at h; cases h
        | ok st2 => rw [hle] at h; exact hrun _ (fun σ' w' act' r1 a1 x1 => fin hle h σ' w' act' r1 a1 x1)
      | exit id => cases h
      | goto l => cases h
end
end Go.Proofs.YtieclenlldjfjaaGreat.Ev
