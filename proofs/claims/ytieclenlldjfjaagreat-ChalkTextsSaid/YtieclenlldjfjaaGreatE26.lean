import Derived.Test.YtieclenlldjfjaaGreatE25
set_option autoImplicit false
set_option linter.unusedVariables false
set_option linter.unusedSimpArgs false
namespace Go.Proofs.YtieclenlldjfjaaGreat.Ev
open Go

structure Tr (P : Program) (rec : Rec) (ops : Array Oper) (xs : List Inf) (A : Nat → Ac) (S : Nat → St) (V : Nat → Value) : Prop where
  R : RegionOk ops xs
  ok : OpsOk ops
  fact : ∀ k o x, ops[k]? = some o → xs[k]? = some x → Fact P rec ops A S V 0 [] [] k o x.cl

def WM (ops : Array Oper) (A : Nat → Ac) (k : Nat) : Prop := ∃ o, ops[k]? = some o ∧ wantedA ops o (A k) = true ∧ isMem o.op = true

/-- The temporaries, when the operations of D have been done. -/
def Regs0 (ops : Array Oper) (V : Nat → Value) (a0 : Ac) (D : Nat → Prop) (b : Ac) : Prop := b.n = a0.n ∧ b.defers = a0.defers ∧ ∀ t, t < 512 →
  (∀ j o, D j → ops[j]? = some o → o.dst = some t → (regAt t).g b.t = V j) ∧ ((∀ j o, D j → ops[j]? = some o → o.dst ≠ some t) → (regAt t).g b.t = (regAt t).g a0.t)

section
variable {P : Program} {rec : Rec} {ops : Array Oper} {xs : List Inf} {A : Nat → Ac} {S : Nat → St} {V : Nat → Value}

theorem mem_ops {i : Nat} {o : Oper} (h : ops[i]? = some o) : o ∈ ops.toList := by
  rw [← Array.getElem?_toList] at h
  exact List.mem_of_getElem? h

theorem Tr.op (T : Tr P rec ops xs A S V) {k : Nat} {o : Oper} (h : ops[k]? = some o) : ∃ x, xs[k]? = some x ∧ Fact P rec ops A S V 0 [] [] k o x.cl := by
  obtain ⟨x, hx, _⟩ := T.R.inf k o h
  exact ⟨x, hx, T.fact k o x h hx⟩

theorem get_op {k : Nat} (h : k < ops.size) : ∃ o, ops[k]? = some o := ⟨ops[k], by simp [h]⟩
theorem op_lt {k : Nat} {o : Oper} (h : ops[k]? = some o) : k < ops.size := (Array.getElem?_eq_some_iff.1 h).1

theorem Tr.uniq (T : Tr P rec ops xs A S V) {i j : Nat} {o o' : Oper} (hi : ops[i]? = some o) (hj : ops[j]? = some o') (hne : i ≠ j) {t : Nat} (h : o.dst = some t) : o'.dst ≠ some t := by
  intro h'
  obtain ⟨x, hx, hx2, _⟩ := T.R.inf i o hi
  obtain ⟨y, hy, hy2, _⟩ := T.R.inf j o' hj
  have h1 : x.dst.testBit t = true := by rw [(infOf_ok hx2).2.2.1]; exact (dstBit_test _ _).2 h
  have h2 : y.dst.testBit t = true := by rw [(infOf_ok hy2).2.2.1]; exact (dstBit_test _ _).2 h'
  rcases Nat.lt_or_gt_of_ne hne with hlt | hlt
  · exact T.R.uniq hx hy hlt h1 h2
  · exact T.R.uniq hy hx hlt h2 h1

theorem put_ok2 {a : Ac} {dst : Option Tmp} {v : Value} {st : St} {a' : Ac} {st' : St} (h : a.put dst v st = .ok a' st') :
    a'.n = a.n ∧ a'.defers = a.defers ∧ (dst = none → a' = a) ∧ ∀ d, dst = some d → @LT.lt Nat _ d a.n ∧ a'.t = (regAt d).s v a.t := by
  cases dst with
  | none =>
    obtain ⟨_, p1, p2, p3⟩ := Ac.put_ok h
    exact ⟨p1, p2, fun _ => p3, fun d h => by cases h⟩
  | some d =>
    obtain ⟨_, p1, p2, p3⟩ := Ac.put_ok h
    exact ⟨p1, p2, fun h => (by cases h), fun d' h => by cases h; exact p3⟩

/-- One more is done. -/
theorem Regs0.put (hok : OpsOk ops) {a0 : Ac} {D D' : Nat → Prop} {b b' : Ac} (h : Regs0 ops V a0 D b) {i : Nat} {o : Oper} (hi : ops[i]? = some o) {st st2 : St} (hp : b.put o.dst (V i) st = .ok b' st2)
    (hu : ∀ j o' t, ops[j]? = some o' → i ≠ j → o.dst = some t → o'.dst ≠ some t) (hD : ∀ k, D' k ↔ D k ∨ k = i) : Regs0 ops V a0 D' b' := by
  obtain ⟨h1, h2, h3⟩ := h
  obtain ⟨p1, p2, p3, p5⟩ := put_ok2 hp
  refine ⟨p1.trans h1, p2.trans h2, fun t ht => ?_⟩
  cases hd : o.dst with
  | none =>
    have p3 : b' = b := p3 hd
    subst p3
    refine ⟨fun j o' hj ho' hdst => ?_, fun hno => (h3 t ht).2 fun j o' hj => hno j o' ((hD j).2 (.inl hj))⟩
    rcases (hD j).1 hj with hj | rfl
    · exact (h3 t ht).1 j o' hj ho' hdst
    · rw [hi] at ho'; cases ho'; rw [hd] at hdst; cases hdst
  | some d =>
    obtain ⟨p3, p4⟩ := p5 d hd
    have hd5 : @LT.lt Nat _ d 512 := by
      have := hok.dst o (mem_ops hi)
      rw [hd] at this
      exact ble_iff.1 this
    rw [p4]
    by_cases e : t = d
    · subst e
      rw [regAt_same ht]
      refine ⟨fun j o' hj ho' hdst => ?_, fun hno => ?_⟩
      · by_cases hji : i = j
        · subst hji; rfl
        · exact absurd hdst (hu j o' t ho' hji hd)
      · exact absurd hd (hno i o ((hD i).2 (.inr rfl)) hi)
    · rw [regAt_other ht hd5 e]
      refine ⟨fun j o' hj ho' hdst => ?_, fun hno => (h3 t ht).2 fun j o' hj => hno j o' ((hD j).2 (.inl hj))⟩
      rcases (hD j).1 hj with hj | rfl
      · exact (h3 t ht).1 j o' hj ho' hdst
      · rw [hi] at ho'; cases ho'; rw [hd] at hdst; cases hdst; exact absurd rfl e

theorem Tr.canon (T : Tr P rec ops xs A S V) : ∀ k, k ≤ ops.size → Regs0 ops V (A 0) (fun j => j < k) (A k)
  | 0, _ => ⟨rfl, rfl, fun t ht => ⟨fun j o hj => absurd hj (Nat.not_lt_zero j), fun _ => rfl⟩⟩
  | k + 1, hk => by
    obtain ⟨o, ho⟩ := get_op (ops := ops) (k := k) hk
    obtain ⟨x, hx, hf⟩ := T.op ho
    exact (Tr.canon T k (by omega)).put T.ok ho hf.put (fun j o' t hj hne hd => T.uniq ho hj hne hd) (fun j => by omega)

/-- A region is looked at in the state that the list's order gives. -/
theorem Tr.look (T : Tr P rec ops xs A S V) {D : Nat → Prop} (hcl : ∀ j x, D j → xs[j]? = some x → ∀ k, x.cl.testBit k = true → D k) {b : Ac} (hb : Regs0 ops V (A 0) D b) {i : Nat} {x : Inf} (hx : xs[i]? = some x) (hni : ¬ D i)
    (hci : ∀ k, x.cl.testBit k = true → D k) (hin : ∀ j, D j → j < ops.size) {t : Nat} (ht : t < 512) (hl : x.looks.testBit t = true) : (regAt t).g b.t = (regAt t).g (A i).t := by
  have hi : i < ops.size := by rw [← T.R.len]; exact (List.getElem?_eq_some_iff.1 hx).1
  have hA := (T.canon i (by omega)).2.2 t ht
  have hB := hb.2.2 t ht
  have dbit : ∀ (j : Nat) (o : Oper), ops[j]? = some o → o.dst = some t → ∃ y : Inf, xs[j]? = some y ∧ y.dst.testBit t = true := by
    intro j o ho hd
    obtain ⟨y, hy, hy2, _⟩ := T.R.inf j o ho
    exact ⟨y, hy, by rw [(infOf_ok hy2).2.2.1]; exact (dstBit_test _ _).2 hd⟩
  by_cases hex : ∃ (j : Nat) (o : Oper), j < i ∧ ops[j]? = some o ∧ o.dst = some t
  · obtain ⟨j, o, hj, ho, hd⟩ := hex
    obtain ⟨y, hy, hyd⟩ := dbit j o ho hd
    have hDj : D j := hci j (T.R.reads hy hx hj hyd hl)
    rw [hA.1 j o hj ho hd, hB.1 j o hDj ho hd]
  · rw [hA.2 (fun j o hj ho hd => hex ⟨j, o, hj, ho, hd⟩)]
    refine hB.2 fun j o hj ho hd => ?_
    rcases Nat.lt_trichotomy j i with h | h | h
    · exact hex ⟨j, o, h, ho, hd⟩
    · subst h; exact hni hj
    · obtain ⟨y, hy, hyd⟩ := dbit j o ho hd
      exact hni (hcl j y hj hy i (T.R.writes hx hy h hl hyd))

theorem Tr.evals (T : Tr P rec ops xs A S V) {i : Nat} {o : Oper} {x : Inf} (ho : ops[i]? = some o) (hx : xs[i]? = some x) {b : Ac} (hl : ∀ t, t < 512 → x.looks.testBit t = true → (regAt t).g b.t = (regAt t).g (A i).t) :
    (∀ y, y ∈ o.op.operands.toList → evalA b y = evalA (A i) y) ∧ wantedA ops o b = wantedA ops o (A i) := by
  obtain ⟨o', ho', h1, _⟩ := T.R.op hx
  rw [ho] at ho'; cases ho'
  have hlk := (infOf_ok h1).2.1
  refine ⟨fun y hy => ?_, ?_⟩
  · cases y with
    | tmp t =>
      have ht : @LT.lt Nat _ t 512 := ble_iff.1 (T.ok.opd o (mem_ops ho) _ hy)
      show b.get t = (A i).get t
      rw [Ac.get_eq, Ac.get_eq]
      exact hl t ht (by rw [hlk, or_test, tmpBits_test _ t hy]; rfl)
    | _ => rfl
  · unfold wantedA gdOf
    cases hg : o.guard with
    | none => rfl
    | some q =>
      obtain ⟨j, want⟩ := q
      simp only []
      cases hj : ops[j]? with
      | none => rfl
      | some g =>
        simp only []
        cases hd : g.dst with
        | none => rfl
        | some d =>
          have hd5 : @LT.lt Nat _ d 512 := by
            have := T.ok.dst g (mem_ops hj)
            rw [hd] at this
            exact ble_iff.1 this
          show isBool (b.get d) want = isBool ((A i).get d) want
          rw [Ac.get_eq, Ac.get_eq, hl d hd5]
          rw [hlk, or_test]
          have : (guardBit ops o).testBit d = true := by
            unfold guardBit
            rw [hg]
            simp only [hj]
            exact (dstBit_test _ _).2 hd
          rw [this, Bool.or_true]

theorem not_mem_cls {op : Op} (h : isMem op = false) : cls op = .pure ∨ cls op = .reads := by
  unfold isMem at h
  cases hc : cls op <;> rw [hc] at h <;> simp_all

theorem Tr.still (T : Tr P rec ops xs A S V) {k : Nat} (hk : k < ops.size) (hn : ¬ WM ops A k) : S (k + 1) = S k := by
  obtain ⟨o, ho⟩ := get_op hk
  obtain ⟨x, hx, hf⟩ := T.op ho
  cases hw : wantedA ops o (A k) with
  | false => exact (hf.off hw).2
  | true =>
    cases hm : isMem o.op with
    | true => exact absurd ⟨o, ho, hw, hm⟩ hn
    | false =>
      rcases not_mem_cls hm with hc | hc
      · exact (pure_any hc (hf.on hw)).1
      · exact reads_any hc (hf.on hw)

theorem Tr.le1 (T : Tr P rec ops xs A S V) {k : Nat} (hk : k < ops.size) : (S k).next ≤ (S (k + 1)).next := by
  by_cases h : WM ops A k
  · obtain ⟨o, ho, hw, hm⟩ := h
    obtain ⟨x, hx, hf⟩ := T.op ho
    exact (hf.mm hw hm).2.1
  · rw [T.still hk h]; exact Nat.le_refl _

theorem Tr.le (T : Tr P rec ops xs A S V) {i : Nat} : ∀ j, i ≤ j → j ≤ ops.size → (S i).next ≤ (S j).next
  | 0, h, _ => by have : i = 0 := by omega
                  subst this; exact Nat.le_refl _
  | j + 1, h, hj => by
    by_cases e : i = j + 1
    · subst e; exact Nat.le_refl _
    · exact Nat.le_trans (Tr.le T j (by omega) (by omega)) (T.le1 (by omega))

/-- Where nothing worked on memory. -/
theorem Tr.stills (T : Tr P rec ops xs A S V) {i : Nat} : ∀ j, i ≤ j → j ≤ ops.size → (∀ k, i ≤ k → k < j → ¬ WM ops A k) → S j = S i
  | 0, h, _, _ => by have : i = 0 := by omega
                     subst this; rfl
  | j + 1, h, hj, hn => by
    by_cases e : i = j + 1
    · subst e; rfl
    · rw [T.still (by omega) (hn j (by omega) (by omega))]
      exact Tr.stills T j (by omega) (by omega) (fun k h1 h2 => hn k h1 (by omega))

/-- An alloc, in the list's order. -/
theorem Tr.alloc (T : Tr P rec ops xs A S V) {e : Nat} {o : Oper} (ho : ops[e]? = some o) (hw : wantedA ops o (A e) = true) {el : TypeId} (hop : o.op = .alloc el) :
    ∃ z, zeroL P el = some z ∧ V e = ptr (S e).next 0 ∧ S (e + 1) = ⟨putAt (S e).next (S e).heap (rowOf z 0 true), (S e).next + 1⟩ ∧ (S e).next < 65536 := by
  obtain ⟨x, hx, hf⟩ := T.op ho
  have h := hf.on hw
  rw [hop] at h
  have h : osel (zeroL P el) .no (fun z => boxK z (S e)) = .ok (V e) (S (e + 1)) := h
  obtain ⟨z, hz, h⟩ := osel_ne h Re.no_ne
  obtain ⟨h1, h2, h3⟩ := allK_ok h
  exact ⟨z, hz, h1, h2, h3⟩
end
end Go.Proofs.YtieclenlldjfjaaGreat.Ev
