import Derived.Test.YtieclenlldjfjaaGreatE30
set_option autoImplicit false
set_option linter.unusedVariables false
set_option linter.unusedSimpArgs false
namespace Go.Proofs.YtieclenlldjfjaaGreat.Ev
open Go
section
variable {σ1 σ3 : Nm}

/-- A value whose names an elder naming knows, related anew. -/
theorem VR.re (hs : Sub σ1 σ3) (hd : ∀ nm, 65536 ≤ nm → σ3 nm = none) {v u1 : Value} (h1 : VR σ1 v u1) : ∀ {u3 : Value}, VR σ3 v u3 → VR σ1 v u3 := by
  have same : ∀ {nm k k3}, σ1 nm = some k → σ3 nm = some k3 → k3 = k := fun h h' => by rw [hs _ _ h] at h'; cases h'; rfl
  induction h1 with
  | bool b => intro u3 h3; cases h3; exact .bool b
  | int k n => intro u3 h3; cases h3; exact .int k n
  | string s => intro u3 h3; cases h3; exact .string s
  | nilptr => intro u3 h3; cases h3; exact .nilptr
  | ptr nm off k hk =>
    intro u3 h3
    obtain ⟨k3, hk3, rfl⟩ := ptr_inv h3
    have := same hk hk3; subst this
    exact .ptr nm off k3 hk
  | nilslice => intro u3 h3; cases h3; exact .nilslice
  | slice nm off n c c' k hk e1 e2 e3 =>
    intro u3 h3
    generalize hv : Value.slice (some ⟨nm, off, none⟩) n c = u at h3
    cases h3 with
    | slice nm2 off2 n2 c2 c3 k3 hk3 f1 f2 f3 =>
      cases hv
      have := same hk hk3; subst this
      exact .slice nm off n c c3 k3 hk f1 f2 f3
    | void a c3 =>
      simp only [voidS, Value.slice.injEq, Option.some.injEq, Addr.mk.injEq] at hv
      obtain ⟨⟨rfl, rfl, _⟩, rfl, rfl⟩ := hv
      exact .void a c3
    | _ => cases hv
  | void a c' =>
    intro u3 h3
    generalize hv : voidS = u at h3
    cases h3 with
    | slice nm2 off2 n2 c2 c3 k3 hk3 f1 f2 f3 =>
      simp only [voidS, Value.slice.injEq, Option.some.injEq, Addr.mk.injEq] at hv
      obtain ⟨⟨rfl, _⟩, _⟩ := hv
      rw [hd voidNm (by simp [voidNm])] at hk3
      cases hk3
    | void a c3 => exact .void a c3
    | _ => cases hv
  | nilmap => intro u3 h3; cases h3; exact .nilmap
  | map nm k hk =>
    intro u3 h3
    cases h3 with
    | map nm2 k3 hk3 => have := same hk hk3; subst this; exact .map nm k3 hk
  | func f as as' bs bs' e1 e2 e3 e4 ih1 ih2 =>
    intro u3 h3
    cases h3 with
    | func f2 as2 as3 bs2 bs3 f1 f2 f3 f4 =>
      refine .func f as as3 bs bs3 f1 (fun i u v hu hv => ?_) f3 (fun i u v hu hv => ?_)
      · obtain ⟨x, hx, _⟩ := VRL.get (σ := σ1) ⟨e1, e2⟩ hu
        exact ih1 i u x hu hx (f2 i u v hu hv)
      · obtain ⟨x, hx, _⟩ := VRL.get (σ := σ1) ⟨e3, e4⟩ hu
        exact ih2 i u x hu hx (f4 i u v hu hv)
  | yield l k hk =>
    intro u3 h3
    cases h3 with
    | yield l2 k3 hk3 => have := same hk hk3; subst this; exact .yield l k3 hk
  | nilFunc => intro u3 h3; cases h3; exact .nilFunc
  | iface t u v hu ih =>
    intro u3 h3
    cases h3 with
    | iface t2 u2 v2 h => exact .iface t u v2 (ih h)
  | nilIface => intro u3 h3; cases h3; exact .nilIface
  | agg as as' e0 e1 e2 ih =>
    intro u3 h3
    cases h3 with
    | agg as2 as3 f0 f1 f2 =>
      refine .agg as as3 e0 f1 fun i u v hu hv => ?_
      obtain ⟨x, hx, _⟩ := VRL.get (σ := σ1) ⟨e1, e2⟩ hu
      exact ih i u x hu hx (f2 i u v hu hv)
  | tuple as as' e1 e2 ih =>
    intro u3 h3
    cases h3 with
    | tuple as2 as3 f1 f2 =>
      refine .tuple as as3 f1 fun i u v hu hv => ?_
      obtain ⟨x, hx, _⟩ := VRL.get (σ := σ1) ⟨e1, e2⟩ hu
      exact ih i u x hu hx (f2 i u v hu hv)

theorem VRL.re (hs : Sub σ1 σ3) (hd : ∀ nm, 65536 ≤ nm → σ3 nm = none) {as bs cs : List Value} (h1 : VRL σ1 as bs) (h3 : VRL σ3 as cs) : VRL σ1 as cs :=
  ⟨h3.1, fun i u v hu hv => by obtain ⟨x, _, hx⟩ := h1.get hu; exact hx.re hs hd (h3.2 i u v hu hv)⟩

theorem OR.re (hs : Sub σ1 σ3) (hd : ∀ nm, 65536 ≤ nm → σ3 nm = none) {k : Blk} {w1 w3 : World} {o : AObj} (h1 : OR σ1 k w1 o) (h3 : OR σ3 k w3 o) : OR σ1 k w3 o := by
  cases o with
  | cells d n es ex t =>
    obtain ⟨_, _, _, _, _, c1, e1, _, _, _, g⟩ := h1
    obtain ⟨a1, a2, a3, a4, a5, c, e, a6, a7, a8, a9⟩ := h3
    exact ⟨a1, a2, a3, a4, a5, c, e, a6, a7, a8, g.re hs hd a9⟩
  | map es clock =>
    obtain ⟨es1, _, b1, b2⟩ := h1
    obtain ⟨es3, a1, a2, a3⟩ := h3
    refine ⟨es3, a1, a2, fun i e e' he he' => ?_⟩
    have hi : i < es1.length := by
      rw [← b1]; exact (List.getElem?_eq_some_iff.1 he).1
    obtain ⟨q1, q2, q3⟩ := b2 i e es1[i] he (by simp [hi])
    obtain ⟨r1, r2, r3⟩ := a3 i e e' he he'
    exact ⟨q1.re hs hd r1, q2.re hs hd r2, r3⟩
  | loop s p n t ps as bo df =>
    obtain ⟨l1, _, _, _, b3, _, _, _, k1, b7, _⟩ := h1
    obtain ⟨l3, a0, a1, a2, a3, a4, a5, a6, k3, a7, a8⟩ := h3
    have : k3 = k1 := by rw [hs _ _ b7] at a7; cases a7; rfl
    subst this
    exact ⟨l3, a0, a1, a2, ⟨a3.1, a3.2.1, fun i hi => (b3.2.2 i hi).re hs hd (a3.2.2 i hi)⟩, a4, a5, a6, k3, b7, a8⟩
  | deferred => exact h3
  | dead => trivial

/-- An elder state, in a later world that has kept its objects. -/
theorem Rel.restrict {st1 st3 : St} {w1 w3 : World} (h1 : Rel σ1 st1 w1) (h3 : Rel σ3 st3 w3) (hs : Sub σ1 σ3) (hobj : ∀ nm, Alive st1 nm → st3.obj nm = st1.obj nm) : Rel σ1 st1 w3 := by
  have hd : ∀ nm, 65536 ≤ nm → σ3 nm = none := fun nm hn => (h3.fresh nm (Nat.le_trans h3.lim hn)).1
  refine ⟨fun nm ha => ?_, h1.apart, h1.fresh, fun nm k hk => h3.bound nm k (hs _ _ hk), h1.lim⟩
  obtain ⟨k, e1, e2⟩ := h1.obj nm ha
  have ha3 : Alive st3 nm := by unfold Alive; rw [hobj nm ha]; exact ha
  obtain ⟨k3, f1, f2⟩ := h3.obj nm ha3
  rw [hs _ _ e1] at f1; cases f1
  rw [hobj nm ha] at f2
  exact ⟨k, e1, e2.re hs hd f2⟩
end
end Go.Proofs.YtieclenlldjfjaaGreat.Ev
