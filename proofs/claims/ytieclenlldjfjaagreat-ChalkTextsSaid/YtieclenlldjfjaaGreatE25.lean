import Derived.Test.YtieclenlldjfjaaGreatE24
set_option autoImplicit false
set_option linter.unusedVariables false
set_option linter.unusedSimpArgs false
namespace Go.Proofs.YtieclenlldjfjaaGreat.Ev
open Go

/-- What is known of one operation of a drawn region that has been followed in the list's order. -/
structure Fact (P : Program) (rec : Rec) (ops : Array Oper) (A : Nat → Ac) (S : Nat → St) (V : Nat → Value) (lo : Nat) (hist : List (Nat × St)) (watch : List Watch) (k : Nat) (o : Oper) (m : Nat) : Prop where
  put : (A k).put o.dst (V k) (S k) = .ok (A (k + 1)) (S k)
  off : wantedA ops o (A k) = false → V k = junk ∧ S (k + 1) = S k
  on : wantedA ops o (A k) = true → stepS P rec (stpOf P o.op) (A k) (S k) = .ok (V k) (S (k + 1))
  rd : wantedA ops o (A k) = true → cls o.op = .reads → opsBelow o.op (A k) (S k) = true ∧ (∀ q, q ∈ hist → bit m q.1 = true ∨ readsV P o.op (A k) (V k) q.2 = true) ∧
    ∀ j oj, lo ≤ j → j < k → ops[j]? = some oj → wantedA ops oj (A j) = true → isMem oj.op = true → bit m j = true ∨ readsV P o.op (A k) (V k) (S j) = true
  mm : wantedA ops o (A k) = true → isMem o.op = true → opsBelow o.op (A k) (S k) = true ∧ (S k).next ≤ (S (k + 1)).next ∧ (∀ q, q ∈ watch → bit m q.i = true ∨ readsV P q.op q.a q.v (S (k + 1)) = true) ∧
    ∀ j oj, lo ≤ j → j < k → ops[j]? = some oj → wantedA ops oj (A j) = true → cls oj.op = .reads → bit m j = true ∨ readsV P oj.op (A j) (V j) (S (k + 1)) = true

theorem or_of_bsel {b c : Bool} (h : bsel b true c = true) : b = true ∨ c = true := by cases b <;> simp_all [bsel]

section
variable {P : Program} {rec : Rec} {ops : Array Oper}

theorem put_st {a : Ac} {dst : Option Tmp} {v : Value} {st st2 : St} {a' : Ac} (h : a.put dst v st = .ok a' st2) : a.put dst v st = .ok a' st := by
  have := (Ac.put_ok h).1
  subst this; exact h

/-- One operation ahead of the others. -/
theorem Fact.cons {o : Oper} {l : List Oper} {m : Nat} {cl : List Nat} {i : Nat} {a a1 : Ac} {st st1 : St} {v : Value} {hist hist' : List (Nat × St)} {watch watch' : List Watch} {A' : Nat → Ac} {S' : Nat → St} {V' : Nat → Value}
    (hops : ops[i]? = some o) (hA' : A' (i + 1) = a1) (hS' : S' (i + 1) = st1)
    (hput : a.put o.dst v st = .ok a1 st) (hoff : wantedA ops o a = false → v = junk ∧ st1 = st) (hon : wantedA ops o a = true → stepS P rec (stpOf P o.op) a st = .ok v st1)
    (hrd : wantedA ops o a = true → cls o.op = .reads → opsBelow o.op a st = true ∧ ∀ q, q ∈ hist → bit m q.1 = true ∨ readsV P o.op a v q.2 = true)
    (hmm : wantedA ops o a = true → isMem o.op = true → opsBelow o.op a st = true ∧ st.next ≤ st1.next ∧ ∀ q, q ∈ watch → bit m q.i = true ∨ readsV P q.op q.a q.v st1 = true)
    (hh : ∀ q, q ∈ hist → q ∈ hist') (hh2 : wantedA ops o a = true → isMem o.op = true → (i, st) ∈ hist')
    (hw : ∀ q, q ∈ watch → q ∈ watch') (hw2 : wantedA ops o a = true → cls o.op = .reads → ({ op := o.op, i, a, v } : Watch) ∈ watch')
    (hF : ∀ j o' m', l[j]? = some o' → cl[j]? = some m' → Fact P rec ops A' S' V' (i + 1) hist' watch' (i + 1 + j) o' m') :
    ∃ A S V, A i = a ∧ S i = st ∧ (∀ k, i < k → A k = A' k) ∧ (∀ k, i < k → S k = S' k) ∧
      ∀ j o' m', (o :: l)[j]? = some o' → (m :: cl)[j]? = some m' → Fact P rec ops A S V i hist watch (i + j) o' m' := by
  let A : Nat → Ac := fun k => if k = i then a else A' k
  let S : Nat → St := fun k => if k = i then st else S' k
  let V : Nat → Value := fun k => if k = i then v else V' k
  have hAi : A i = a := if_pos rfl
  have hSi : S i = st := if_pos rfl
  have hVi : V i = v := if_pos rfl
  have hA : ∀ k, i < k → A k = A' k := fun k hk => if_neg (by omega)
  have hS : ∀ k, i < k → S k = S' k := fun k hk => if_neg (by omega)
  have hV : ∀ k, i < k → V k = V' k := fun k hk => if_neg (by omega)
  refine ⟨A, S, V, hAi, hSi, hA, hS, fun j o' m' ho hm => ?_⟩
  cases j with
  | zero =>
    cases ho; cases hm
    rw [Nat.add_zero]
    have e1 : A (i + 1) = a1 := by rw [hA _ (by omega), hA']
    have e2 : S (i + 1) = st1 := by rw [hS _ (by omega), hS']
    refine ⟨?_, ?_, ?_, ?_, ?_⟩
    · rw [hAi, hSi, hVi, e1]; exact hput
    · rw [hAi, hSi, hVi, e2]; exact hoff
    · rw [hAi, hSi, hVi, e2]; exact hon
    · rw [hAi, hSi, hVi]
      exact fun h1 h2 => ⟨(hrd h1 h2).1, (hrd h1 h2).2, fun j oj h3 h4 => by omega⟩
    · rw [hAi, hSi, e2]
      exact fun h1 h2 => ⟨(hmm h1 h2).1, (hmm h1 h2).2.1, (hmm h1 h2).2.2, fun j oj h3 h4 => by omega⟩
  | succ j =>
    have hf := hF j o' m' (by simpa using ho) (by simpa using hm)
    have hk : i + 1 + j = i + (j + 1) := by omega
    rw [hk] at hf
    have q1 := hA (i + (j + 1)) (by omega)
    have q2 := hS (i + (j + 1)) (by omega)
    have q3 := hV (i + (j + 1)) (by omega)
    have q4 := hA (i + (j + 1) + 1) (by omega)
    have q5 := hS (i + (j + 1) + 1) (by omega)
    refine ⟨?_, ?_, ?_, ?_, ?_⟩
    · rw [q1, q2, q3, q4]; exact hf.put
    · rw [q1, q2, q3, q5]; exact hf.off
    · rw [q1, q2, q3, q5]; exact hf.on
    · rw [q1, q2, q3]
      intro h1 h2
      obtain ⟨g1, g2, g3⟩ := hf.rd h1 h2
      refine ⟨g1, fun q hq => g2 q (hh q hq), fun j2 oj h3 h4 h5 h6 h7 => ?_⟩
      by_cases e : j2 = i
      · subst e
        rw [hops] at h5; cases h5
        rw [hAi] at h6
        rw [hSi]
        exact g2 _ (hh2 h6 h7)
      · rw [hA j2 (by omega)] at h6
        rw [hS j2 (by omega)]
        exact g3 j2 oj (by omega) h4 h5 h6 h7
    · rw [q1, q2, q5]
      intro h1 h2
      obtain ⟨g1, g2, g3, g4⟩ := hf.mm h1 h2
      refine ⟨g1, g2, fun q hq => g3 q (hw q hq), fun j2 oj h3 h4 h5 h6 h7 => ?_⟩
      by_cases e : j2 = i
      · subst e
        rw [hops] at h5; cases h5
        rw [hAi] at h6
        rw [hAi, hVi]
        exact g3 _ (hw2 h6 h7)
      · rw [hA j2 (by omega)] at h6
        rw [hA j2 (by omega), hV j2 (by omega)]
        exact g4 j2 oj (by omega) h4 h5 h6 h7

theorem isMem_cls {op : Op} (h : isMem op = true) : cls op = .acts ∨ cls op = .makes := by
  unfold isMem at h
  cases hc : cls op <;> rw [hc] at h <;> simp_all

theorem draw_trace : ∀ (l : List Oper) (cl : List Nat) (i : Nat) (a : Ac) (st : St) (hist : List (Nat × St)) (watch : List Watch) (a' : Ac) (st' : St), (∀ j, l[j]? = ops[i + j]?) → drawOps P rec ops l cl i a st hist watch = .ok a' st' →
    ∃ A S V, A i = a ∧ S i = st ∧ A (i + l.length) = a' ∧ S (i + l.length) = st' ∧ ∀ j o m, l[j]? = some o → cl[j]? = some m → Fact P rec ops A S V i hist watch (i + j) o m
  | [], cl, i, a, st, hist, watch, a', st', hl, h => by
    cases h
    exact ⟨fun _ => a, fun _ => st, fun _ => junk, rfl, rfl, rfl, rfl, fun j o m h => by simp at h⟩
  | o :: l, [], i, a, st, hist, watch, a', st', hl, h => by cases h
  | o :: l, m :: cl, i, a, st, hist, watch, a', st', hl, h => by
    have hops : ops[i]? = some o := by have := hl 0; simpa using this.symm
    have hl' : ∀ j, l[j]? = ops[i + 1 + j]? := fun j => by have := hl (j + 1); rw [show i + 1 + j = i + (j + 1) by omega]; simpa using this
    have wrap : ∀ {a1 : Ac} {st1 : St} {v : Value} {hist' : List (Nat × St)} {watch' : List Watch}, drawOps P rec ops l cl (i + 1) a1 st1 hist' watch' = .ok a' st' →
        a.put o.dst v st = .ok a1 st → (wantedA ops o a = false → v = junk ∧ st1 = st) → (wantedA ops o a = true → stepS P rec (stpOf P o.op) a st = .ok v st1) →
        (wantedA ops o a = true → cls o.op = .reads → opsBelow o.op a st = true ∧ ∀ q, q ∈ hist → bit m q.1 = true ∨ readsV P o.op a v q.2 = true) →
        (wantedA ops o a = true → isMem o.op = true → opsBelow o.op a st = true ∧ st.next ≤ st1.next ∧ ∀ q, q ∈ watch → bit m q.i = true ∨ readsV P q.op q.a q.v st1 = true) →
        (∀ q, q ∈ hist → q ∈ hist') → (wantedA ops o a = true → isMem o.op = true → (i, st) ∈ hist') → (∀ q, q ∈ watch → q ∈ watch') → (wantedA ops o a = true → cls o.op = .reads → ({ op := o.op, i, a, v } : Watch) ∈ watch') →
        ∃ A S V, A i = a ∧ S i = st ∧ A (i + (o :: l).length) = a' ∧ S (i + (o :: l).length) = st' ∧ ∀ j o' m', (o :: l)[j]? = some o' → (m :: cl)[j]? = some m' → Fact P rec ops A S V i hist watch (i + j) o' m' := by
      intro a1 st1 v hist' watch' hrun hput hoff hon hrd hmm hh hh2 hw hw2
      obtain ⟨A', S', V', e1, e2, e3, e4, hF⟩ := draw_trace l cl (i + 1) a1 st1 hist' watch' a' st' hl' hrun
      obtain ⟨A, S, V, f1, f2, f3, f4, f5⟩ := Fact.cons hops e1 e2 hput hoff hon hrd hmm hh hh2 hw hw2 hF
      have hlen : i + (o :: l).length = i + 1 + l.length := by simp; omega
      exact ⟨A, S, V, f1, f2, by rw [hlen, f3 _ (by omega)]; exact e3, by rw [hlen, f4 _ (by omega)]; exact e4, f5⟩
    unfold drawOps at h
    rw [bsel_eq] at h
    by_cases hwa : wantedA ops o a = true
    · rw [if_pos hwa] at h
      cases hs : stepS P rec (stpOf P o.op) a st with
      | no => rw [hs] at h; cases h
      | ok v st1 =>
        rw [hs] at h
        simp only [] at h
        cases hp : a.put o.dst v st with
        | no => rw [hp] at h; cases h
        | ok a1 st2 =>
          rw [hp] at h
          simp only [] at h
          have hp := put_st hp
          cases hc : cls o.op with
          | pure =>
            rw [hc] at h
            simp only [] at h
            obtain ⟨rfl, _⟩ := pure_any hc hs
            exact wrap h hp (fun e => by rw [hwa] at e; cases e) (fun _ => hs) (fun _ e => by rw [hc] at e; cases e) (fun _ e => by rcases isMem_cls e with e | e <;> rw [hc] at e <;> cases e) (fun q hq => hq)
              (fun _ e => by rcases isMem_cls e with e | e <;> rw [hc] at e <;> cases e) (fun q hq => hq) (fun _ e => by rw [hc] at e; cases e)
          | reads =>
            rw [hc] at h
            simp only [] at h
            have := reads_any hc hs
            subst this
            obtain ⟨hb1, h⟩ := bsel_ne (α := Ra) h (by simp)
            obtain ⟨hb2, h⟩ := bsel_ne (α := Ra) h (by simp)
            refine wrap h hp (fun e => by rw [hwa] at e; cases e) (fun _ => hs) (fun _ _ => ⟨hb1, fun q hq => or_of_bsel (List.all_eq_true.1 hb2 q hq)⟩) (fun _ e => by rcases isMem_cls e with e | e <;> rw [hc] at e <;> cases e) (fun q hq => hq)
              (fun _ e => by rcases isMem_cls e with e | e <;> rw [hc] at e <;> cases e) (fun q hq => List.mem_cons_of_mem _ hq) (fun _ _ => List.mem_cons_self ..)
          | makes =>
            rw [hc] at h
            simp only [] at h
            obtain ⟨hb1, h⟩ := bsel_ne (α := Ra) h (by simp)
            obtain ⟨hb2, h⟩ := bsel_ne (α := Ra) h (by simp)
            obtain ⟨hb3, h⟩ := bsel_ne (α := Ra) h (by simp)
            exact wrap h hp (fun e => by rw [hwa] at e; cases e) (fun _ => hs) (fun _ e => by rw [hc] at e; cases e) (fun _ _ => ⟨hb1, nextLe_ok hb2, fun q hq => or_of_bsel (List.all_eq_true.1 hb3 q hq)⟩) (fun q hq => List.mem_cons_of_mem _ hq)
              (fun _ _ => List.mem_cons_self ..) (fun q hq => hq) (fun _ e => by rw [hc] at e; cases e)
          | acts =>
            rw [hc] at h
            simp only [] at h
            obtain ⟨hb1, h⟩ := bsel_ne (α := Ra) h (by simp)
            obtain ⟨hb2, h⟩ := bsel_ne (α := Ra) h (by simp)
            obtain ⟨hb3, h⟩ := bsel_ne (α := Ra) h (by simp)
            exact wrap h hp (fun e => by rw [hwa] at e; cases e) (fun _ => hs) (fun _ e => by rw [hc] at e; cases e) (fun _ _ => ⟨hb1, nextLe_ok hb2, fun q hq => or_of_bsel (List.all_eq_true.1 hb3 q hq)⟩) (fun q hq => List.mem_cons_of_mem _ hq)
              (fun _ _ => List.mem_cons_self ..) (fun q hq => hq) (fun _ e => by rw [hc] at e; cases e)
    · rw [if_neg hwa] at h
      cases hp : a.put o.dst junk st with
      | no => rw [hp] at h; cases h
      | ok a1 st2 =>
        rw [hp] at h
        simp only [] at h
        exact wrap h (put_st hp) (fun _ => ⟨rfl, rfl⟩) (fun e => absurd e hwa) (fun e => absurd e hwa) (fun e => absurd e hwa) (fun q hq => hq) (fun e => absurd e hwa) (fun q hq => hq) (fun e => absurd e hwa)
end
end Go.Proofs.YtieclenlldjfjaaGreat.Ev
