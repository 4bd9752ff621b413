import Derived.Test.YtolgomkmilbkgaaGreatV42
set_option autoImplicit false
set_option linter.unusedVariables false
set_option linter.unusedSimpArgs false
namespace Go.Proofs.YtolgomkmilbkgaaGreat.Ev
open Go

/-! # Ranges over functions -/
/-- A yield. -/
abbrev yv (l : Nat) : Value := .func (.yield l) #[] #[]
/-- What an iterator yields (its function, what is captured): the elements one after the other, as long as it is told to go on; it works on no memory of its own. -/
def YieldsL (P : Program) (O : Orc) (k : FuncId) (first cap : List Value) (xs : List (List Value)) : Prop :=
  ∀ (l : Nat) (J : List (List Value) → St → Prop) (R : St → Prop) (st : St), J xs st →
    (∀ x rest st, J (x :: rest) st → ∃ K b st', (∀ K', K ≤ K' → callV P (evCode P O K') (yv l) x st = .ok (.bool b) st') ∧ (b = true → J rest st') ∧ (b = false → R st')) →
    (∀ st, J [] st → R st) → ∃ K v st', (∀ K', K ≤ K' → callF P (evCode P O K') k (first ++ [yv l] ++ cap) st = .ok v st') ∧ R st'

/-- One step of an iterator. -/
theorem callP_yield {P : Program} {O : Orc} {l : Nat} {J : List (List Value) → St → Prop} {R : St → Prop}
    (hs : ∀ x rest st, J (x :: rest) st → ∃ K b st', (∀ K', K ≤ K' → callV P (evCode P O K') (yv l) x st = .ok (.bool b) st') ∧ (b = true → J rest st') ∧ (b = false → R st'))
    {x : List Value} {rest : List (List Value)} {st : St} (hJ : J (x :: rest) st) {F : Value → St → Prop} (h1 : ∀ st', J rest st' → F (.bool true) st') (h2 : ∀ st', R st' → F (.bool false) st') : CallP P O (yv l) x st F := by
  obtain ⟨K, b, st', g1, g2, g3⟩ := hs x rest st hJ
  refine ⟨K, .bool b, st', g1, ?_⟩
  cases b with
  | true => exact h1 st' (g2 rfl)
  | false => exact h2 st' (g3 rfl)
theorem yields_of {P : Program} {O : Orc} {isP : FuncId → Bool} {k : FuncId} {first cap : List Value} {xs : List (List Value)} (hO : ∀ f args st, O.call f args st = .no) (hk : O.pur k = none)
    (h : ∀ (l : Nat) (J : List (List Value) → St → Prop) (R : St → Prop) (st : St), J xs st →
      (∀ x rest st, J (x :: rest) st → ∃ K b st', (∀ K', K ≤ K' → callV P (evCode P O K') (yv l) x st = .ok (.bool b) st') ∧ (b = true → J rest st') ∧ (b = false → R st')) →
      (∀ st, J [] st → R st) → wpF P O isP k (first ++ [yv l] ++ cap) st fun _ st' => R st') : YieldsL P O k first cap xs := by
  intro l J R st h1 h2 h3
  obtain ⟨K, v, st', g1, g2⟩ := wpF_ok hO (h l J R st h1 h2 h3)
  refine ⟨K, v, st', fun K' hK => ?_, g2⟩
  unfold callF
  have : (evCode P O K').pur k = none := by
    cases K' with
    | zero => rfl
    | succ K' => exact hk
  rw [this]
  exact g1 K' hK

section
variable {P : Program} {O : Orc} {isP : FuncId → Bool}

theorem yieldF_at {rec : Rec} {l : Nat} {x : List Value} {s : St} {sta : LoopState} {pend : Option Code} {n : Nat} {t t1 : Regs} {ps : Array Tmp} {as bo : Code} {df : Nat} (h : s.obj l = .loop sta pend n t ps as bo df) (ht : setAll n ps.toList x t = some t1) :
    yieldF rec l x s = yieldBody rec l bo (rec as (some l) ⟨n, t1, []⟩ s) := by
  unfold yieldF
  rw [h]
  show osel (setAll n ps.toList x t) Re.no (fun t => yieldBody rec l bo (rec as (some l) ⟨n, t, []⟩ s)) = _
  rw [ht, osel_some]

theorem yieldEnd_at {l : Nat} {xt : Xit} {a : Ac} {s : St} {sta : LoopState} {pend : Option Code} {n : Nat} {t : Regs} {ps : Array Tmp} {as bo : Code} {df : Nat} (h : s.obj l = .loop sta pend n t ps as bo df) :
    yieldEnd l (.ok xt a s) = osel (jumpOf xt) (.ok (.bool true) (s.setObj l (.loop .ready none n t ps as bo df))) fun j => .ok (.bool false) (s.setObj l (.loop .done (some j) n t ps as bo df)) := by
  unfold yieldEnd
  simp only [h]
theorem yieldBody_at {rec : Rec} {l : Nat} {a : Ac} {s : St} {pend : Option Code} {n : Nat} {t : Regs} {ps : Array Tmp} {as bo body : Code} {df : Nat} (h : s.obj l = .loop .ready pend n t ps as bo df) :
    yieldBody rec l body (.ok .normal a s) = yieldEnd l (rec body (some l) a (s.setObj l (.loop .busy pend n t ps as bo df))) := by
  unfold yieldBody
  simp only [h]
theorem endRange_at {rec : Rec} {l : Nat} {ro : Option Nat} {a : Ac} {v : Value} {s : St} {sta : LoopState} {pend : Option Code} {n : Nat} {t : Regs} {ps : Array Tmp} {as bo : Code} {df : Nat} (h : s.obj l = .loop sta pend n t ps as bo df) (hs : sta = .ready ∨ sta = .done) :
    endRange rec l ro a (.ok v s) = osel pend (.ok .normal a (s.setObj l (.loop .exhausted none n t ps as bo df))) fun j => rec j ro a (s.setObj l (.loop .exhausted pend n t ps as bo df)) := by
  unfold endRange
  simp only [h]
  rcases hs with rfl | rfl <;> rfl

/-- A range over a function: memory is what goes through it. l: the loop's own object. -/
theorem range2 {f : Operand} {ps : Array Tmp} {as bo : Code} {ro : Option Nat} {n : Nat} {t : Regs} {ds : List Nat} {st : St} {Q : Kt} {k : FuncId} {first cap : List Value} {xs : List (List Value)} {df l : Nat} {mark : List Nat}
    (hl : l = st.next) (hf : evalA ⟨n, t, ds⟩ f = .func (.func k) ⟨first⟩ ⟨cap⟩) (hfe : feB P k = true) (hy : YieldsL P O k first cap xs) (I : List (List Value) → St → Prop)
    (hI : ∀ ys s s', s'.next = s.next → (∀ b, b ≠ l → s'.obj b = s.obj b) → I ys s → I ys s') (h0 : ∀ s, s.next = st.next + 1 → (∀ b, b < l → s.obj b = st.obj b) → I xs s)
    (hbody : ∀ x rest s, I (x :: rest) s → (∃ sta, s.obj l = .loop sta none n t ps as bo df) → ∃ t1, setAll n ps.toList x t = some t1 ∧ wp P O isP (some l) as ⟨n, t1, []⟩ s fun xt a1 s1 => xt = .normal ∧ s1.obj l = s.obj l ∧
      ∀ s1', s1'.next = s1.next → (∀ b, b ≠ l → s1'.obj b = s1.obj b) → (∃ sta, s1'.obj l = .loop sta none n t ps as bo df) → wp P O isP (some l) bo a1 s1' fun xt a2 s2 => s2.obj l = s1'.obj l ∧
        Xit.rec (I rest s2) (fun id => ∀ s', s'.next = s2.next → (∀ b, b ≠ l → s'.obj b = s2.obj b) → Q (.exit id) ⟨n, t, mark ++ ds⟩ s') (fun g => ∀ s', s'.next = s2.next → (∀ b, b ≠ l → s'.obj b = s2.obj b) → Q (.goto g) ⟨n, t, mark ++ ds⟩ s')
          (∀ s', s'.next = s2.next → (∀ b, b ≠ l → s'.obj b = s2.obj b) → Q .ret ⟨n, t, mark ++ ds⟩ s') xt)
    (hend : ∀ s, I [] s → Q .normal ⟨n, t, mark ++ ds⟩ s) :
    ∃ K x a' st', (∀ K', K ≤ K' → evRange2 P (evCode P O K') f ps as bo ro ⟨n, t, ds⟩ df mark st = .ok x a' st') ∧ Q x a' st' := by
  let L : LoopState → Option Code → AObj := fun s p => .loop s p n t ps as bo df
  let J : List (List Value) → St → Prop := fun ys s => s.obj l = L .ready none ∧ I ys s
  let R : St → Prop := fun s => (s.obj l = L .ready none ∧ I [] s) ∨ ∃ xt j, jumpOf xt = some j ∧ s.obj l = L .done (some j) ∧ ∀ s', s'.next = s.next → (∀ b, b ≠ l → s'.obj b = s.obj b) → Q xt ⟨n, t, mark ++ ds⟩ s'
  have hJ0 : J xs (st.push (L .ready none)) := by
    refine ⟨by rw [push_obj, hl, if_pos rfl], h0 _ rfl fun b hb => by rw [push_obj, if_neg (by omega)]⟩
  obtain ⟨K, v, st', g1, g2⟩ := hy l J R (st.push (L .ready none)) hJ0 (by
    rintro x rest s ⟨e1, hi⟩
    obtain ⟨t1, e2, hw⟩ := hbody x rest s hi ⟨_, e1⟩
    obtain ⟨K1, xt1, a1, s1, q1, rfl, q3, q4⟩ := wp_ok hw
    have q3' : s1.obj l = L .ready none := q3.trans e1
    obtain ⟨K2, xt2, a2, s2, r1, r2, r3⟩ := wp_ok (q4 (s1.setObj l (L .busy none)) (by simp) (fun b hb => by rw [set_obj, if_neg hb]) ⟨.busy, by rw [set_obj, if_pos rfl]⟩)
    have r2' : s2.obj l = L .busy none := by rw [r2, set_obj, if_pos rfl]
    have run : ∀ K', max K1 K2 ≤ K' → callV P (evCode P O K') (yv l) x s = yieldEnd l (.ok xt2 a2 s2) := by
      intro K' hK
      show yieldF (evCode P O K') l ([] ++ x) s = _
      rw [List.nil_append, yieldF_at e1 e2, q1 K' (by omega), yieldBody_at q3']
      show yieldEnd l (evCode P O K' bo (some l) a1 (s1.setObj l (L .busy none))) = _
      rw [r1 K' (by omega)]
    have fin : ∀ j, jumpOf xt2 = some j → yieldEnd l (.ok xt2 a2 s2) = .ok (.bool false) (s2.setObj l (L .done (some j))) := by
      intro j hj
      rw [yieldEnd_at r2', hj, osel_some]
    have bad : ∀ j, jumpOf xt2 = some j → (∀ s', s'.next = s2.next → (∀ b, b ≠ l → s'.obj b = s2.obj b) → Q xt2 ⟨n, t, mark ++ ds⟩ s') →
        ∃ K b st', (∀ K', K ≤ K' → callV P (evCode P O K') (yv l) x s = .ok (.bool b) st') ∧ (b = true → J rest st') ∧ (b = false → R st') := by
      intro j hj hq
      refine ⟨max K1 K2, false, s2.setObj l (L .done (some j)), fun K' hK => by rw [run K' hK, fin j hj], fun e => (by cases e), fun _ => .inr ⟨xt2, j, hj, by rw [set_obj, if_pos rfl], fun s' e3 e4 => hq s' (by rw [e3, set_next]) fun b hb => by rw [e4 b hb, set_obj, if_neg hb]⟩⟩
    cases xt2 with
    | normal =>
      refine ⟨max K1 K2, true, s2.setObj l (L .ready none), fun K' hK => ?_, fun _ => ⟨by rw [set_obj, if_pos rfl], hI rest s2 _ (by simp) (fun b hb => by rw [set_obj, if_neg hb]) r3⟩, fun e => (by cases e)⟩
      rw [run K' hK, yieldEnd_at r2']; rfl
    | exit id => exact bad (.exit id) rfl r3
    | goto g => exact bad (.goto g) rfl r3
    | ret => exact bad .ret rfl r3) (fun s h => .inl h)
  have run : ∀ K', K ≤ K' → evRange2 P (evCode P O K') f ps as bo ro ⟨n, t, ds⟩ df mark st = endRange (evCode P O K') l ro ⟨n, t, mark ++ ds⟩ (.ok v st') := by
    intro K' hK
    obtain ⟨h, nx⟩ := st
    have hl : l = nx := hl
    subst hl
    show (funcK (evalA ⟨n, t, ds⟩ f) Rc.no fun k first cap => Fe.rec (motive := fun _ => Rc) Rc.no (fun _ _ _ => endRange (evCode P O K') l ro ⟨n, t, mark ++ ds⟩ (callF P (evCode P O K') k (first.toList ++ [.func (.yield l) #[] #[]] ++ cap.toList) (pushAt l h (.loop .ready none n t ps as bo df)))) (feOf P k)) = _
    rw [hf]
    obtain ⟨c, nn, fn, hfe⟩ := feB_ok hfe
    show Fe.rec (motive := fun _ => Rc) Rc.no (fun _ _ _ => endRange (evCode P O K') l ro ⟨n, t, mark ++ ds⟩ (callF P (evCode P O K') k (first ++ [.func (.yield l) #[] #[]] ++ cap) (pushAt l h (.loop .ready none n t ps as bo df)))) (feOf P k) = _
    rw [hfe, pushAt_eq]
    show endRange (evCode P O K') l ro ⟨n, t, mark ++ ds⟩ (callF P (evCode P O K') k (first ++ [yv l] ++ cap) ((⟨h, l⟩ : St).push (L .ready none))) = _
    rw [g1 K' hK]
  rcases g2 with ⟨e1, e2⟩ | ⟨xt, j, e1, e2, e3⟩
  · refine ⟨K, .normal, _, st'.setObj l (L .exhausted none), fun K' hK => ?_, hend _ (hI [] st' _ (by simp) (fun b hb => by rw [set_obj, if_neg hb]) e2)⟩
    rw [run K' hK, endRange_at e1 (.inl rfl)]; rfl
  · have key : ∀ K', max K 1 ≤ K' → evRange2 P (evCode P O K') f ps as bo ro ⟨n, t, ds⟩ df mark st = .ok xt ⟨n, t, mark ++ ds⟩ (st'.setObj l (L .exhausted (some j))) := by
      intro K' hK
      rw [run K' (by omega), endRange_at e2 (.inr rfl), osel_some]
      obtain ⟨K'', rfl⟩ : ∃ q, K' = q + 1 := ⟨K' - 1, by omega⟩
      show evCode P O (K'' + 1) j ro ⟨n, t, mark ++ ds⟩ (st'.setObj l (L .exhausted (some j))) = _
      cases xt with
      | normal => cases e1
      | exit id => cases e1; rfl
      | goto g => cases e1; rfl
      | ret => cases e1; rfl
    exact ⟨max K 1, xt, _, _, key, e3 _ (by simp) fun b hb => by rw [set_obj, if_neg hb]⟩

/-- A range in a function's own body. -/
theorem range_none {f : Operand} {ps : Array Tmp} {as bo : Code} {n : Nat} {t : Regs} {ds : List Nat} {st : St} {Q : Kt} {k : FuncId} {first cap : List Value} {xs : List (List Value)}
    (hok : okOpd f = true) (hf : evalA ⟨n, t, ds⟩ f = .func (.func k) ⟨first⟩ ⟨cap⟩) (hfe : feB P k = true) (hy : YieldsL P O k first cap xs) (I : List (List Value) → St → Prop)
    (hI : ∀ ys s s', s'.next = s.next → (∀ b, b ≠ st.next + 1 → s'.obj b = s.obj b) → I ys s → I ys s')
    (h0 : ∀ s, s.next = st.next + 2 → s.obj st.next = .deferred → (∀ b, b < st.next → s.obj b = st.obj b) → I xs s)
    (hbody : ∀ x rest s, I (x :: rest) s → (∃ sta, s.obj (st.next + 1) = .loop sta none n t ps as bo st.next) → ∃ t1, setAll n ps.toList x t = some t1 ∧ wp P O isP (some (st.next + 1)) as ⟨n, t1, []⟩ s fun xt a1 s1 => xt = .normal ∧ s1.obj (st.next + 1) = s.obj (st.next + 1) ∧
      ∀ s1', s1'.next = s1.next → (∀ b, b ≠ st.next + 1 → s1'.obj b = s1.obj b) → (∃ sta, s1'.obj (st.next + 1) = .loop sta none n t ps as bo st.next) → wp P O isP (some (st.next + 1)) bo a1 s1' fun xt a2 s2 => s2.obj (st.next + 1) = s1'.obj (st.next + 1) ∧
        Xit.rec (I rest s2) (fun id => ∀ s', s'.next = s2.next → (∀ b, b ≠ st.next + 1 → s'.obj b = s2.obj b) → Q (.exit id) ⟨n, t, st.next :: ds⟩ s') (fun g => ∀ s', s'.next = s2.next → (∀ b, b ≠ st.next + 1 → s'.obj b = s2.obj b) → Q (.goto g) ⟨n, t, st.next :: ds⟩ s')
          (∀ s', s'.next = s2.next → (∀ b, b ≠ st.next + 1 → s'.obj b = s2.obj b) → Q .ret ⟨n, t, st.next :: ds⟩ s') xt)
    (hend : ∀ s, I [] s → Q .normal ⟨n, t, st.next :: ds⟩ s) : RunsC P O (.rangeFunc f ps as bo) none ⟨n, t, ds⟩ st Q := by
  obtain ⟨K, x, a', st', h1, h2⟩ := range2 (isP := isP) (ro := none) (st := st.push .deferred) (l := st.next + 1) (df := st.next) (mark := [st.next]) rfl hf hfe hy I hI
    (fun s e1 e2 => h0 s (by rw [e1, push_next]) (by rw [e2 _ (by omega), push_obj, if_pos rfl]) fun b hb => by rw [e2 b (by omega), push_obj, if_neg (by omega)]) hbody hend
  refine .of (K := K) (fun K' hK => ?_) h2
  obtain ⟨h, r⟩ := st
  show bsel (okOpd f) (evRange2 P (evCode P O K') f ps as bo none ⟨n, t, ds⟩ r [r] (pushAt r h .deferred)) Rc.no = _
  rw [hok, pushAt_eq]
  exact h1 K' hK
/-- A range in the body of another one (its object: l0). -/
theorem range_some {f : Operand} {ps : Array Tmp} {as bo : Code} {n : Nat} {t : Regs} {ds : List Nat} {st : St} {Q : Kt} {k : FuncId} {first cap : List Value} {xs : List (List Value)} {l0 df n0 : Nat} {sta0 : LoopState} {pend0 : Option Code} {t0 : Regs} {ps0 : Array Tmp} {as0 bo0 : Code}
    (hl0 : st.obj l0 = .loop sta0 pend0 n0 t0 ps0 as0 bo0 df)
    (hok : okOpd f = true) (hf : evalA ⟨n, t, ds⟩ f = .func (.func k) ⟨first⟩ ⟨cap⟩) (hfe : feB P k = true) (hy : YieldsL P O k first cap xs) (I : List (List Value) → St → Prop)
    (hI : ∀ ys s s', s'.next = s.next → (∀ b, b ≠ st.next → s'.obj b = s.obj b) → I ys s → I ys s')
    (h0 : ∀ s, s.next = st.next + 1 → (∀ b, b < st.next → s.obj b = st.obj b) → I xs s)
    (hbody : ∀ x rest s, I (x :: rest) s → (∃ sta, s.obj st.next = .loop sta none n t ps as bo df) → ∃ t1, setAll n ps.toList x t = some t1 ∧ wp P O isP (some st.next) as ⟨n, t1, []⟩ s fun xt a1 s1 => xt = .normal ∧ s1.obj st.next = s.obj st.next ∧
      ∀ s1', s1'.next = s1.next → (∀ b, b ≠ st.next → s1'.obj b = s1.obj b) → (∃ sta, s1'.obj st.next = .loop sta none n t ps as bo df) → wp P O isP (some st.next) bo a1 s1' fun xt a2 s2 => s2.obj st.next = s1'.obj st.next ∧
        Xit.rec (I rest s2) (fun id => ∀ s', s'.next = s2.next → (∀ b, b ≠ st.next → s'.obj b = s2.obj b) → Q (.exit id) ⟨n, t, ds⟩ s') (fun g => ∀ s', s'.next = s2.next → (∀ b, b ≠ st.next → s'.obj b = s2.obj b) → Q (.goto g) ⟨n, t, ds⟩ s')
          (∀ s', s'.next = s2.next → (∀ b, b ≠ st.next → s'.obj b = s2.obj b) → Q .ret ⟨n, t, ds⟩ s') xt)
    (hend : ∀ s, I [] s → Q .normal ⟨n, t, ds⟩ s) : RunsC P O (.rangeFunc f ps as bo) (some l0) ⟨n, t, ds⟩ st Q := by
  obtain ⟨K, x, a', st', h1, h2⟩ := range2 (isP := isP) (ro := some l0) (st := st) (l := st.next) (df := df) (mark := []) rfl hf hfe hy I hI
    (fun s e1 e2 => h0 s e1 e2) hbody hend
  refine .of (K := K) (fun K' hK => ?_) h2
  show bsel (okOpd f) (match st.obj l0 with
      | .loop _ _ _ _ _ _ _ df => evRange2 P (evCode P O K') f ps as bo (some l0) ⟨n, t, ds⟩ df [] st
      | _ => Rc.no) Rc.no = _
  rw [hok, hl0]
  exact h1 K' hK
end

/-- The way out of a function: what was put off is done. -/
def leaveK (ds : List Nat) (st : St) (G : St → Prop) : Prop := Rs.rec False G (leaveA ds st)
@[simp] theorem leaveK_nil (st : St) (G : St → Prop) : leaveK [] st G = G st := rfl
theorem leaveK_cons {r : Nat} {ds : List Nat} {st : St} {G : St → Prop} (h : st.obj r = .deferred) : leaveK (r :: ds) st G = leaveK ds (st.setObj r .dead) G := by
  unfold leaveK
  have : leaveA (r :: ds) st = leaveA ds (st.setObj r .dead) := by
    show (match st.obj r with
      | .deferred => leaveA ds (st.setObj r .dead)
      | _ => .no) = _
    rw [h]
  rw [this]
end Go.Proofs.YtolgomkmilbkgaaGreat.Ev

set_option autoImplicit false
set_option linter.unusedVariables false
set_option linter.unusedSimpArgs false
namespace Go.Proofs.YtolgomkmilbkgaaGreat.Ev
open Go

/-! # Calls that leave memory; slices that are made, cut, copied -/
theorem callP_wp {P : Program} {O : Orc} {isP : FuncId → Bool} {k : FuncId} {args : List Value} {st : St} {F : Value → St → Prop} (hO : ∀ f args st, O.call f args st = .no) (hk : O.pur k = none) (hfe : feB P k = true) (h : wpF P O isP k args st F) :
    CallP P O (.func (.func k) #[] #[]) args st F := by
  obtain ⟨K, v, st', g1, g2⟩ := wpF_ok hO h
  obtain ⟨c, n, fn, hfe⟩ := feB_ok hfe
  refine ⟨K, v, st', fun K' hK => ?_, g2⟩
  unfold callV
  simp only [hfe]
  show callF P (evCode P O K') k ([] ++ args ++ []) st = _
  rw [List.nil_append, List.append_nil]
  unfold callF
  have : (evCode P O K').pur k = none := by
    cases K' with
    | zero => rfl
    | succ K' => exact hk
  rw [this]
  exact g1 K' hK
theorem listA_at {nm off n n' c k : Nat} {st : St} {xs : List Value} {es : Nat} {ex : Bool} (ho : st.obj nm = rowOf xs es ex) (hn : 0 < n) (h : off + n * k ≤ xs.length) : listA st k (.slice (some ⟨nm, off, none⟩) n' c) n = some ((xs.drop off).take (n * k)) :=
  listA_row (c := c) ho hn h
def rp (xs : List Value) (n : Nat) : List Value := (List.replicate n xs).flatten
theorem rp_len {xs : List Value} {k : Nat} (h : xs.length = k) (n : Nat) : (rp xs n).length = n * k := by
  unfold rp
  induction n with
  | zero => simp
  | succ n ih => rw [List.replicate_succ, List.flatten_cons, List.length_append, ih, h, Nat.succ_mul]; omega
theorem rp_add (xs : List Value) (a b : Nat) : rp xs (a + b) = rp xs a ++ rp xs b := by
  unfold rp
  rw [← List.replicate_append_replicate, List.flatten_append]
theorem repL_rp (z : List Value) : ∀ n, repL z n = rp z n
  | 0 => rfl
  | n + 1 => by
    show z ++ repL z n = _
    rw [repL_rp z n, Nat.add_comm, rp_add]
    simp [rp]
theorem makeSlice_row {k n : Nat} {z : List Value} {st : St} (hn : n ≤ 4096) : makeSliceA (.mk k z true) (I64 n) (I64 n) st = .ok (.slice (some ⟨st.next, 0, none⟩) n n) (st.push (rowOf (rp z n) k true)) := by
  show bsel true (bsel (Nat.ble n n) (bsel (Nat.ble n 4096) (allK (rowOf (repL z n) k true) (fun nm => .slice (some ⟨nm, 0, none⟩) n n) st) .no) .no) .no = _
  rw [bsel_true, ble_iff.2 (Nat.le_refl n), ble_iff.2 hn, bsel_true, bsel_true, allK_eq, repL_rp]
theorem copy_row {k nm off dl c m sl : Nat} {x : Value} {st : St} {ys new : List Value} {es : Nat} {ex : Bool} (ho : st.obj nm = rowOf ys es ex) (hl : lenA x = some sl) (hm : m = min sl dl) (h0 : 0 < m) (hL : listA st k x m = some new) (hn : new.length = m * k) (hy : off + m * k ≤ ys.length) :
    copyN k (.slice (some ⟨nm, off, none⟩) dl c) x st = .ok (I64 m) (st.setObj nm (rowOf (ys.take off ++ (new ++ ys.drop (off + m * k))) es ex)) := by
  have hmin : minN sl dl = m := by
    show bsel (Nat.ble sl dl) sl dl = m
    rw [bsel_eq]
    by_cases h : sl ≤ dl
    · rw [if_pos (ble_iff.2 h)]; omega
    · rw [if_neg (fun e => h (ble_iff.1 e))]; omega
  show osel (lenA x) Re.no (fun sl => osel (listA st k x (minN sl dl)) Re.no fun xs => copyTo k (some ⟨nm, off, none⟩) (minN sl dl) xs st) = _
  rw [hl, osel_some, hmin, hL, osel_some]
  show bsel (Nat.beq m 0) _ (cellsK (st.obj nm) Re.no fun d mm es ex tr => bsel (Nat.ble (Nat.add off (Nat.mul m k)) mm) (.ok (.int .i64 (.ofNat m)) (st.setObj nm (.cells d mm es ex (Bt.put tr (half d) off new)))) .no) = _
  have hz : Nat.beq m 0 = false := by cases m with | zero => omega | succ m => rfl
  rw [hz, ho, rowOf_eq]
  have hlen : (ys.take off ++ (new ++ ys.drop (off + m * k))).length = ys.length := by simp; omega
  show bsel (Nat.ble (off + m * k) ys.length) (Re.ok (.int .i64 (.ofNat m)) (st.setObj nm (.cells (dep ys.length) ys.length es ex (Bt.put (Bt.ofL (dep ys.length) ys) (half (dep ys.length)) off new)))) .no = _
  rw [ble_iff.2 hy, bsel_true, put_ofL (by omega) (dep_le _), rowOf_eq, hlen, hn, List.append_assoc]; rfl
theorem slice_from {k nm n c w : Nat} {st : St} {ys : List Value} {ex : Bool} (ho : st.obj nm = rowOf ys k ex) (h0 : 0 < w) (hw : w ≤ n) (hc : n ≤ c) (hcw : c ≠ w) :
    sliceK (.sl k) (.slice (some ⟨nm, 0, none⟩) n c) (some (I64 w)) none st = some (.slice (some ⟨nm, w * k, none⟩) (n - w) (c - w)) := by
  show sliceRow k ⟨nm, 0, none⟩ n c (some (I64 w)) none st = _
  unfold sliceRow
  rw [ho, rowOf_eq]
  show osel (boundO (some (I64 w)) n 0) none (fun l => bsel (Nat.beq l 0) (some (.slice (some ⟨nm, 0, none⟩) n c)) (bsel (Nat.beq c l) (some voidS) (bsel (Nat.beq k k) (some (.slice (some ⟨nm, Nat.add 0 (Nat.mul l k), none⟩) (Nat.sub n l) (Nat.sub c l))) none))) = _
  have hb : boundO (some (I64 w)) n 0 = some w := by
    show bsel (Nat.ble w n) (some w) none = _
    rw [ble_iff.2 hw]; rfl
  have hz : Nat.beq w 0 = false := by cases w with | zero => omega | succ w => rfl
  have hcb : Nat.beq c w = false := by
    cases h : Nat.beq c w
    · rfl
    · exact absurd (beq_iff.1 h) hcw
  rw [hb, osel_some, hz, hcb, beq_iff.2 rfl]
  show some (Value.slice (some ⟨nm, 0 + w * k, none⟩) (n - w) (c - w)) = _
  rw [Nat.zero_add]
theorem slice_to {k nm n c w : Nat} {st : St} {ys : List Value} {es : Nat} {ex : Bool} (ho : st.obj nm = rowOf ys es ex) (hw : w ≤ c) :
    sliceK (.sl k) (.slice (some ⟨nm, 0, none⟩) n c) none (some (I64 w)) st = some (.slice (some ⟨nm, 0, none⟩) w c) := by
  show sliceRow k ⟨nm, 0, none⟩ n c none (some (I64 w)) st = _
  unfold sliceRow
  rw [ho, rowOf_eq]
  show osel (boundO (some (I64 w)) c n) none (fun h => osel (boundO none h 0) none fun l => bsel (Nat.beq l 0) (some (Value.slice (some ⟨nm, 0, none⟩) h c)) (bsel (Nat.beq c l) (some voidS) (bsel (Nat.beq es k) (some (.slice (some ⟨nm, Nat.add 0 (Nat.mul l k), none⟩) (Nat.sub h l) (Nat.sub c l))) none))) = _
  have hb : boundO (some (I64 w)) c n = some w := by
    show bsel (Nat.ble w c) (some w) none = _
    rw [ble_iff.2 hw]; rfl
  rw [hb]; rfl
/-- Closed calls, for each number up to one. -/
theorem pur_upto {P : Program} (hm : P.follows .mixedOrders = true) {f : FuncId} {N K : Nat} {args : Nat → List Value} {pv : Nat → Value} (h : ((List.range N).all fun n => endsIn (callB P (evCode P (orcK []) K) f (args n) ⟨heap0, 0⟩) (pv n)) = true) {n : Nat} (hn : n < N) : PurOk P f (args n) (pv n) :=
  pur_eval (ks := []) hm (fun _ h => by cases h) K (List.all_eq_true.1 h n (List.mem_range.2 hn))
end Go.Proofs.YtolgomkmilbkgaaGreat.Ev

set_option autoImplicit false
set_option linter.unusedVariables false
set_option linter.unusedSimpArgs false
namespace Go.Proofs.YtolgomkmilbkgaaGreat.Ev
open Go

/-! # Sets of numbers -/
/-- An object is a set of numbers: a map to true. -/
def IsSet (o : AObj) (ks : List Int) : Prop := ∃ es clock, o = .map es clock ∧ es.map (fun e => e.key) = ks.map I64 ∧ ∀ e, e ∈ es → e.val = .bool true
theorem keyEq_i64 (a b : Int) : keyEq false [1] (I64 a) (I64 b) = some (decide (a = b)) := by
  show osel (bsel (kEq .i64 .i64) (some (iEq a b)) none) none (fun r => bsel r (some true) (some false)) = _
  have hk : kEq .i64 .i64 = true := rfl
  rw [hk, bsel_true, osel_some]
  rw [iEq_eq]
  by_cases h : a = b
  · rw [h]; simp
  · rw [decide_eq_false h, show (a == b) = false by simpa using h]; rfl
theorem findA_set {k : Int} : ∀ {es : List MapEntry} {ks : List Int} {i : Nat}, es.map (fun e => e.key) = ks.map I64 → (∀ e, e ∈ es → e.val = .bool true) →
    (k ∈ ks → ∃ p, findA false [1] (I64 k) es i = some (some p) ∧ p.2.val = .bool true) ∧ (¬ k ∈ ks → findA false [1] (I64 k) es i = some none)
  | [], ks, i, h, hv => by
    have : ks = [] := by simpa using h.symm
    subst this
    exact ⟨fun h => by simp at h, fun _ => rfl⟩
  | e :: es, [], i, h, hv => by simp at h
  | e :: es, k' :: ks, i, h, hv => by
    simp only [List.map_cons, List.cons.injEq] at h
    obtain ⟨h1, h2⟩ := findA_set (k := k) (es := es) (ks := ks) (i := i + 1) h.2 fun e he => hv e (by simp [he])
    have hk : keyEq false [1] (I64 k) e.key = some (decide (k = k')) := by rw [h.1]; exact keyEq_i64 k k'
    by_cases hkk : k = k'
    · rw [decide_eq_true hkk] at hk
      refine ⟨fun _ => ⟨(i, e), ?_, hv e (by simp)⟩, fun hn => absurd (by rw [hkk]; simp) hn⟩
      unfold findA; rw [hk]
    · rw [decide_eq_false hkk] at hk
      have he : findA false [1] (I64 k) (e :: es) i = findA false [1] (I64 k) es (i + 1) := by
        conv => lhs; unfold findA
        rw [hk]
      rw [he]
      exact ⟨fun hm => h1 (by simpa [hkk] using hm), fun hm => h2 (by simpa [hkk] using hm)⟩
theorem lookup_set {ks : List Int} {nm : Nat} {st : St} (k : Int) (ho : IsSet (st.obj nm) ks) : lookupK (.mk false [1] (.bool false)) (.map (some nm)) (I64 k) false st = some (.bool (decide (k ∈ ks))) := by
  obtain ⟨es, clock, h1, h2, h3⟩ := ho
  show mapK (st.obj nm) none (fun es _ => osel (findA false [1] (I64 k) es 0) none fun q => osel q (some (okV false (.bool false) false)) fun p => some (okV false p.2.val true)) = _
  rw [h1]
  show osel (findA false [1] (I64 k) es 0) none (fun q => osel q (some (okV false (.bool false) false)) fun p => some (okV false p.2.val true)) = _
  obtain ⟨q1, q2⟩ := findA_set (k := k) (i := 0) h2 h3
  by_cases hk : k ∈ ks
  · obtain ⟨p, e1, e2⟩ := q1 hk
    rw [e1, decide_eq_true hk, osel_some, osel_some, e2]; rfl
  · rw [q2 hk, decide_eq_false hk]; rfl
/-- A number that is new. -/
theorem set_new {ks : List Int} {nm : Nat} {st : St} {k : Int} (ho : IsSet (st.obj nm) ks) (hk : ¬ k ∈ ks) : ∃ o, mapSetK (.mk false [1] (.bool false)) (.map (some nm)) (I64 k) (.bool true) st = some (st.setObj nm o) ∧ IsSet o (ks ++ [k]) := by
  obtain ⟨es, clock, h1, h2, h3⟩ := ho
  refine ⟨.map (es ++ [{ key := I64 k, val := .bool true, born := clock }]) (clock + 1), ?_, _, _, rfl, by simp [h2], fun e he => ?_⟩
  · show mapK (st.obj nm) none (fun es clock => osel (findA false [1] (I64 k) es 0) none fun q =>
      osel q (some (st.setObj nm (.map (es ++ [{ key := I64 k, val := .bool true, born := clock }]) (clock + 1)))) fun p => some (st.setObj nm (.map (setNth { key := I64 k, val := .bool true, born := p.2.born } es p.1) clock))) = _
    rw [h1]
    show osel (findA false [1] (I64 k) es 0) none (fun q => osel q (some (st.setObj nm (.map (es ++ [{ key := I64 k, val := .bool true, born := clock }]) (clock + 1)))) fun p => some (st.setObj nm (.map (setNth { key := I64 k, val := .bool true, born := p.2.born } es p.1) clock))) = _
    rw [(findA_set (k := k) (i := 0) h2 h3).2 hk]; rfl
  · rcases List.mem_append.1 he with he | he
    · exact h3 e he
    · simp at he; rw [he]
@[simp] theorem reS_some (st : St) : reS (some st) = .ok junk st := rfl
theorem newMap_eq (st : St) : newMap st = .ok (.map (some st.next)) (st.push (.map [] 0)) := allK_eq _ _ _
theorem IsSet.new : IsSet (.map [] 0) [] := ⟨[], 0, rfl, rfl, fun e h => by simp at h⟩
end Go.Proofs.YtolgomkmilbkgaaGreat.Ev

