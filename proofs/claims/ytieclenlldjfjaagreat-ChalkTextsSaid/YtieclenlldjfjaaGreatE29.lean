import Derived.Test.YtieclenlldjfjaaGreatE28
set_option autoImplicit false
set_option linter.unusedVariables false
set_option linter.unusedSimpArgs false
namespace Go.Proofs.YtieclenlldjfjaaGreat.Ev
open Go

theorem countP_lt {p q : Nat → Bool} : ∀ {l : List Nat}, (∀ x, x ∈ l → q x = true → p x = true) → (∃ x, x ∈ l ∧ p x = true ∧ q x = false) → l.countP q < l.countP p
  | [], _, h => by obtain ⟨x, h, _⟩ := h; simp at h
  | y :: l, h1, h2 => by
    have hle : l.countP q ≤ l.countP p := List.countP_mono_left (fun x hx hq => h1 x (by simp [hx]) hq)
    rw [List.countP_cons, List.countP_cons]
    obtain ⟨x, hx, hp, hq⟩ := h2
    rcases List.mem_cons.1 hx with rfl | hx
    · rw [if_pos hp, if_neg (by simp [hq])]
      omega
    · have := countP_lt (p := p) (q := q) (l := l) (fun x hx hq => h1 x (by simp [hx]) hq) ⟨x, hx, hp, hq⟩
      have h3 := h1 y (by simp)
      by_cases hy : q y = true
      · rw [if_pos hy, if_pos (h3 hy)]; omega
      · rw [if_neg hy]; split <;> omega

theorem edges_lt : ∀ {es : List Edge} {acc : List Inf} {p : Nat × Nat}, edges acc es = some p → ∀ e, e ∈ es → Region.binds .any e = true → ∃ x, acc[e.on]? = some x
  | [], acc, p, h, e, he, _ => by simp at he
  | e0 :: es, acc, p, h, e, he, hb => by
    have h : bsel (Region.binds .any e0) (osel (edges acc es) none fun p => osel (nthI acc e0.on) none fun x =>
      some (Nat.lor p.1 (Nat.lor (Nat.shiftLeft 1 e0.on) x.cl), Nat.lor p.2 (Nat.lor x.dst x.dm))) (edges acc es) = some p := h
    rw [bsel_eq] at h
    split at h
    · obtain ⟨p', hp', h⟩ := osel_ne h (by simp)
      obtain ⟨x, hx, h⟩ := osel_ne h (by simp)
      rw [nthI_eq] at hx
      rcases List.mem_cons.1 he with rfl | he
      · exact ⟨x, hx⟩
      · exact edges_lt hp' e he hb
    · rename_i hnb
      rcases List.mem_cons.1 he with rfl | he
      · exact absurd hb hnb
      · exact edges_lt h e he hb

section
variable {P : Program} {rec : Rec} {ops : Array Oper} {xs : List Inf} {A : Nat → Ac} {S : Nat → St} {V : Nat → Value} {σ0 : Nm} {st0 : St} {w0 : World}

def Done (listed : Array Bool) (j : Nat) : Prop := listed.getD j false = true

theorem done_lt {listed : Array Bool} {j : Nat} (h : Done listed j) : j < listed.size := by
  unfold Done at h
  rcases Nat.lt_or_ge j listed.size with h' | h'
  · exact h'
  · simp [Array.getElem?_eq_none h'] at h

theorem done_getD {listed : Array Bool} {j : Nat} (hj : j < listed.size) : listed.getD j true = listed.getD j false := by
  simp [hj]

theorem done_set {listed : Array Bool} {i : Nat} (hi : i < listed.size) (k : Nat) : Done (listed.setIfInBounds i true) k ↔ Done listed k ∨ k = i := by
  unfold Done
  by_cases e : k = i
  · subst e; simp [hi]
  · rw [getD_set_ne false (Ne.symm e)]; simp [e]

theorem done_rep (n j : Nat) : ¬ Done (Array.replicate n false) j := by
  unfold Done
  simp only [Array.getD_eq_getD_getElem?, Array.getElem?_replicate]
  split <;> simp

/-- The whole region, in whatever order. -/
theorem any_ok (hrec : CodeOk P rec) (T : Tr P rec ops xs A S V) (n : Nat) (ro : Option Nat) {Q : Exit → Act → World → Prop}
    (hQ : ∀ σ' w' act', Rel σ' (S ops.size) w' → AR σ' (A ops.size) act' → Ext σ0 st0 w0 σ' (S ops.size) w' → Q .normal act' w') :
    ∀ (fuel : Nat) (listed : Array Bool) (s : Nat) (τ : Nm) (b : Ac) (act : Act) (w : World), listed.size = ops.size → (∀ j o, Done listed j → ops[j]? = some o → ∀ e, e ∈ o.after.toList → Region.binds .any e = true → Done listed e.on) →
      Inv P ops A S V σ0 st0 w0 (Done listed) s τ b act w → (List.range ops.size).countP (fun j => !listed.getD j false) ≤ fuel → wpAnyIn (Fr ro) n P .any ops Q fuel listed act w := by
  have fin : ∀ (listed : Array Bool) (s : Nat) (τ : Nm) (b : Ac) (act : Act) (w : World), (∀ j, j < ops.size → Done listed j) → listed.size = ops.size → Inv P ops A S V σ0 st0 w0 (Done listed) s τ b act w → Q .normal act w := by
    intro listed s τ b act w hall hsz h
    obtain ⟨t, h1, h2, h3⟩ := h.advMax T (ops.size - s) s (Nat.le_refl _)
    have ht : t = ops.size := by
      rcases h3 with h3 | ⟨⟨o, ho, _⟩, h4⟩
      · exact h3
      · exact absurd (hall t (op_lt ho)) h4
    subst ht
    have hcut : cut (S ops.size).next τ = τ := by
      funext nm
      unfold cut
      by_cases e : nm < (S ops.size).next
      · rw [if_pos e]
      · rw [if_neg e]
        cases hk : τ nm with
        | none => rfl
        | some k =>
          rcases h2.above nm k hk with h4 | ⟨e2, _, h4, ⟨o, ho, _⟩, _⟩
          · exact absurd h4 e
          · have := op_lt ho; omega
    have hr := h2.rel
    have hx := h2.ext
    rw [hcut] at hr hx
    refine hQ τ w act hr ?_ hx
    obtain ⟨⟨t1, t2, t3⟩, t4⟩ := h2.ar
    obtain ⟨c1, c2, c3⟩ := T.canon ops.size (Nat.le_refl _)
    obtain ⟨r1, r2, r3⟩ := h2.regs
    refine ⟨⟨by rw [c1, ← r1]; exact t1, by rw [c1, ← r1]; exact t2, fun i hi => ?_⟩, by rw [c2, ← r2]; exact t4⟩
    have heq : (regAt i).g (A ops.size).t = (regAt i).g b.t := by
      by_cases hex : ∃ (j : Nat) (o : Oper), ops[j]? = some o ∧ o.dst = some i
      · obtain ⟨j, o, hj, hd⟩ := hex
        rw [(c3 i hi).1 j o (op_lt hj) hj hd, (r3 i hi).1 j o (hall j (op_lt hj)) hj hd]
      · rw [(c3 i hi).2 (fun j o _ hj hd => hex ⟨j, o, hj, hd⟩), (r3 i hi).2 (fun j o _ hj hd => hex ⟨j, o, hj, hd⟩)]
    rw [heq]; exact t3 i hi
  have allDone : ∀ (listed : Array Bool), listed.size = ops.size → Region.ready .any ops listed = [] → ∀ j, j < ops.size → Done listed j := by
    intro listed hsz hre j
    induction j using Nat.strongRecOn with
    | _ j ih =>
      intro hj
      cases hd : listed.getD j false with
      | true => exact hd
      | false =>
        exfalso
        obtain ⟨o, ho⟩ := get_op hj
        obtain ⟨x, hx, hx2, _⟩ := T.R.inf j o ho
        have : j ∈ Region.ready .any ops listed := mem_ready.2 ⟨by rw [done_getD (by omega)]; exact hd, o, ho, fun e he hb => by
          obtain ⟨y, hy⟩ := edges_lt (infOf_ok hx2).1 e (by simpa using he) hb
          obtain ⟨hlt, _⟩ := take_at hy
          exact ih e.on hlt (by omega)⟩
        rw [hre] at this
        cases this
  intro fuel
  induction fuel with
  | zero =>
    intro listed s τ b act w hsz hcl h hc
    have hall : ∀ j, j < ops.size → Done listed j := by
      intro j hj
      have h0 : (List.range ops.size).countP (fun j => !listed.getD j false) = 0 := by omega
      rw [List.countP_eq_zero] at h0
      have := h0 j (by simpa using hj)
      simpa [Done] using this
    refine ⟨?_, fin listed s τ b act w hall hsz h⟩
    cases hre : Region.ready .any ops listed with
    | nil => rfl
    | cons j l =>
      exfalso
      have hj : j ∈ Region.ready .any ops listed := by rw [hre]; simp
      obtain ⟨h1, o, ho, _⟩ := mem_ready.1 hj
      have hj' := op_lt ho
      rw [done_getD (by omega)] at h1
      have := hall j hj'
      unfold Done at this
      rw [h1] at this; cases this
  | succ fuel ih =>
    intro listed s τ b act w hsz hcl h hc
    refine ⟨fun hre => fin listed s τ b act w (allDone listed hsz hre) hsz h, fun i hi => ?_⟩
    obtain ⟨h1, o, ho, h2⟩ := mem_ready.1 hi
    have hilt := op_lt ho
    rw [done_getD (by omega)] at h1
    obtain ⟨x, hx, _⟩ := T.R.inf i o ho
    have hD := done_set (listed := listed) (i := i) (by omega)
    refine h.step hrec T (fun j y hj hy k hk => ?_) (fun j hj => by rw [← hsz]; exact done_lt hj) ho hx (fun hd => by unfold Done at hd; rw [h1] at hd; cases hd)
      (T.R.closed hcl i x o hx ho (fun e he hb => h2 e (by simpa using he) hb)) hD n ro fun s' τ' b' act' w' hI => ?_
    · obtain ⟨oj, hoj, _⟩ := T.R.op hy
      exact T.R.closed hcl j y oj hy hoj (fun e he hb => hcl j oj hj hoj e he hb) k hk
    · refine ih _ s' τ' b' act' w' (by simpa using hsz) (fun j oj hj hoj e he hb => ?_) hI ?_
      · rw [hD] at hj ⊢
        rcases hj with hj | rfl
        · exact .inl (hcl j oj hj hoj e he hb)
        · rw [ho] at hoj; cases hoj
          exact .inl (h2 e (by simpa using he) hb)
      · have : (List.range ops.size).countP (fun j => !(listed.setIfInBounds i true).getD j false) < (List.range ops.size).countP (fun j => !listed.getD j false) := by
          refine countP_lt (fun j hj hq => ?_) ⟨i, by simpa using hilt, by simp only [h1]; rfl, ?_⟩
          · cases hd : listed.getD j false with
            | false => rfl
            | true =>
              have := (hD j).2 (.inl hd)
              unfold Done at this
              rw [this] at hq; cases hq
          · have := (hD i).2 (.inr rfl)
            unfold Done at this
            rw [this]; rfl
        omega

/-- A region keeps what is asked. -/
theorem reg_ok (hm : P.follows .mixedOrders = true) (hrec : CodeOk P rec) : RegOk P rec := by
  intro id ops draw ro a st x a' st' h σ w act ro' hr hA hro n Q hQ
  unfold evRegion at h
  cases hpl : planOf ops draw with
  | no => rw [hpl] at h; cases h
  | seq =>
    rw [hpl] at h
    have h : Ra.rec (motive := fun _ => Rc) .no (fun a st => .ok .normal a st) (seqOps P rec ops ops.toList a st) = .ok x a' st' := h
    cases hs : seqOps P rec ops ops.toList a st with
    | no => rw [hs] at h; cases h
    | ok a1 st1 =>
      rw [hs] at h
      cases h
      unfold planOf at hpl
      obtain ⟨hok, hpl⟩ := bsel_ne hpl (by simp)
      cases draw with
      | true =>
        exfalso
        have hpl : (match infs ops ops.toList [] 0 0 with | some xs => Plan.draw (xs.map fun (x : Inf) => x.cl) | none => .no) = .seq := hpl
        split at hpl <;> cases hpl
      | false => exact wpIn_region_list (seq_ok hrec (opsOk_ok hok) n ro' Q ops.toList a st a' st' (fun o ho => ho) hs σ w act hr hA hQ)
  | draw cl =>
    rw [hpl] at h
    have h : Ra.rec (motive := fun _ => Rc) .no (fun a st => .ok .normal a st) (drawOps P rec ops ops.toList cl 0 a st [] []) = .ok x a' st' := h
    cases hs : drawOps P rec ops ops.toList cl 0 a st [] [] with
    | no => rw [hs] at h; cases h
    | ok a1 st1 =>
      rw [hs] at h
      cases h
      unfold planOf at hpl
      obtain ⟨hok, hpl⟩ := bsel_ne hpl (by simp)
      cases draw with
      | false => cases hpl
      | true =>
        have hpl : (match infs ops ops.toList [] 0 0 with | some xs => Plan.draw (xs.map fun (x : Inf) => x.cl) | none => .no) = .draw cl := hpl
        split at hpl
        · rename_i xs hxs
          cases hpl
          obtain ⟨A, S, V, e1, e2, e3, e4, hF⟩ := draw_trace (ops := ops) ops.toList _ 0 a st [] [] a' st' (fun j => by simp) hs
          simp only [Nat.zero_add, Array.length_toList] at e3 e4 hF
          have T : Tr P rec ops xs A S V := ⟨infs_region hxs, opsOk_ok hok, fun k o x ho hx => hF k o x.cl (by simpa using ho) (by simp [hx])⟩
          refine wpIn_region_any hm ?_
          have hrd := hr.drew
          have hcut : cut (S 0).next σ = σ := by
            funext nm
            unfold cut
            rw [e2]
            by_cases e : nm < st.next
            · rw [if_pos e]
            · rw [if_neg e]; exact ((hr.fresh nm (by omega)).1).symm
          refine any_ok (σ0 := σ) (st0 := st) (w0 := { w with drawn := w.drawn + 1 }) hrec T n ro' (fun σ' w' act' r1 a1 x1 => ?_) ops.size (Array.replicate ops.size false) 0 σ a act _ (by simp) (fun j o hj => ?_) ?_ ?_
          · rw [e4] at r1 x1
            rw [e3] at a1
            exact hQ σ' w' act' r1 a1 ((Ext.drew σ st w).trans x1)
          · exact absurd hj (done_rep _ j)
          · have hno : ∀ j, ¬ Done (Array.replicate ops.size false) j := done_rep _
            refine ⟨fun nm k hk => ⟨Nat.lt_of_lt_of_le (hr.name_lt hk) hr.lim, hrd.bound nm k hk⟩, hA, ⟨by rw [e1], by rw [e1], fun t ht => ⟨fun j o hj => absurd hj (hno j), fun _ => by rw [e1]⟩⟩, Nat.zero_le _, fun k hk => by omega, by rw [hcut, e2]; exact hrd,
              fun e he => absurd he (hno e), fun e e' k k' he => absurd he (hno e), fun nm k hk => .inl (by rw [e2]; exact hr.name_lt hk), by rw [hcut, e2]; exact .refl _ _ _⟩
          · exact Nat.le_trans List.countP_le_length (by simp)
        · cases hpl

/-- THE TOP: a call that the interpreter follows, in every order that the model may draw. -/
theorem calls_top (hm : P.follows .mixedOrders = true) {O : Orc} (hO : OrcOk P O) {K : Nat} {f : FuncId} {args args' : List Value} {v : Value} {σ : Nm} {st st' : St} {w : World} (h : callF P (evCode P O K) f args st = .ok v st') (hr : Rel σ st w) (ha : VRL σ args args') :
    Calls P f ⟨args'⟩ w (Ends σ st w v st') := calls_ok hO (fun rec hrec => reg_ok hm hrec) h hr ha
end
end Go.Proofs.YtieclenlldjfjaaGreat.Ev
