import Derived.Test.YtieclenlldjfjaaGreatE27
set_option autoImplicit false
set_option linter.unusedVariables false
set_option linter.unusedSimpArgs false
namespace Go.Proofs.YtieclenlldjfjaaGreat.Ev
open Go
section
variable {P : Program} {rec : Rec} {ops : Array Oper} {xs : List Inf} {A : Nat → Ac} {S : Nat → St} {V : Nat → Value} {σ0 : Nm} {st0 : St} {w0 : World} {D D' : Nat → Prop} {s : Nat} {τ : Nm} {b : Ac} {act : Act} {w : World}

theorem put_exists {a b : Ac} (hn : a.n = b.n) {dst : Option Tmp} {v : Value} {st : St} {a' : Ac} {st' : St} (h : a.put dst v st = .ok a' st') : ∃ b', b.put dst v st = .ok b' st := by
  cases dst with
  | none => exact ⟨b, rfl⟩
  | some d =>
    have h1 := ((put_ok2 h).2.2.2 d rfl).1
    obtain ⟨n, t, ds⟩ := b
    refine ⟨⟨n, (regAt d).s v t, ds⟩, ?_⟩
    show bsel (Nat.ble (Nat.succ d) n) (Ra.ok ⟨n, (regAt d).s v t, ds⟩ st) .no = _
    rw [ble_iff.2 (show Nat.succ d ≤ n by have hn : a.n = n := hn; rw [← hn]; exact h1)]
    rfl

theorem last_wm (i : Nat) : ∀ t, i ≤ t → (∀ k, i ≤ k → k < t → ¬ WM ops A k) ∨ ∃ q, i ≤ q ∧ q < t ∧ WM ops A q ∧ ∀ k, q < k → k < t → ¬ WM ops A k
  | 0, h => .inl (fun k h1 h2 => by omega)
  | t + 1, h => by
    by_cases e : i = t + 1
    · exact .inl (fun k h1 h2 => by omega)
    · by_cases hw : WM ops A t
      · exact .inr ⟨t, by omega, by omega, hw, fun k h1 h2 => by omega⟩
      · rcases last_wm i t (by omega) with h1 | ⟨q, h1, h2, h3, h4⟩
        · refine .inl fun k q1 q2 => ?_
          by_cases ek : k = t
          · subst ek; exact hw
          · exact h1 k q1 (by omega)
        · refine .inr ⟨q, h1, by omega, h3, fun k q1 q2 => ?_⟩
          by_cases ek : k = t
          · subst ek; exact hw
          · exact h4 k q1 (by omega)

theorem readsV_ok {op : Op} (hc : cls op = .reads) {a : Ac} {v : Value} {st : St} (h : readsV P op a v st = true) : opsBelow op a st = true ∧ stepS P rec (stpOf P op) a st = .ok v st := by
  unfold readsV at h
  obtain ⟨h1, h⟩ := bsel_ne h (by simp)
  cases hs : stepS P noRec (stpOf P op) a st with
  | no => rw [hs] at h; cases h
  | ok u st2 =>
    rw [hs] at h
    have h : sameV u v = true := h
    have := sameV_eq h
    subst this
    have := reads_any hc hs
    subst this
    exact ⟨h1, by rw [reads_rec hc rec noRec]; exact hs⟩

/-- What a read yields, wherever it is done. -/
theorem Inv.readAt (T : Tr P rec ops xs A S V) (h : Inv P ops A S V σ0 st0 w0 D s τ b act w) (hcl : ∀ j x, D j → xs[j]? = some x → ∀ k, x.cl.testBit k = true → D k) {i : Nat} {o : Oper} {x : Inf} (ho : ops[i]? = some o) (hx : xs[i]? = some x)
    (hni : ¬ D i) (hci : ∀ k, x.cl.testBit k = true → D k) (hw : wantedA ops o (A i) = true) (hc : cls o.op = .reads) :
    ∃ t, Inv P ops A S V σ0 st0 w0 D t τ b act w ∧ opsBelow o.op (A i) (S t) = true ∧ stepS P rec (stpOf P o.op) (A i) (S t) = .ok (V i) (S t) := by
  have hi := op_lt ho
  have hf := T.fact i o x ho hx
  have hnm : ¬ WM ops A i := fun ⟨o2, q1, q2, q3⟩ => by
    rw [ho] at q1; cases q1
    rcases isMem_cls q3 with e | e <;> rw [hc] at e <;> cases e
  obtain ⟨g1, _, g3⟩ := hf.rd hw hc
  have hon := hf.on hw
  have hsame := reads_any hc hon
  rw [hsame] at hon
  obtain ⟨t, h1, h2, h3⟩ := h.advMax T (ops.size - s) s (Nat.le_refl _)
  refine ⟨t, h2, ?_⟩
  rcases Nat.lt_or_ge i t with hlt | hge
  · rcases last_wm (ops := ops) (A := A) i t (by omega) with hno | ⟨q, q1, q2, q3, q4⟩
    · rw [T.stills t (by omega) h2.le hno]
      exact ⟨g1, hon⟩
    · have hDq := h2.done q q2 q3
      have hst : S t = S (q + 1) := T.stills t (by omega) h2.le (fun k e1 e2 => q4 k (by omega) e2)
      rw [hst]
      obtain ⟨oq, hoq, hwq, hmq⟩ := q3
      obtain ⟨xq, hxq, hfq⟩ := T.op hoq
      have hqi : i < q := by
        rcases Nat.lt_or_eq_of_le q1 with e | e
        · exact e
        · subst e; exact absurd ⟨oq, hoq, hwq, hmq⟩ hnm
      rcases (hfq.mm hwq hmq).2.2.2 i o (Nat.zero_le _) hqi ho hw hc with hb | hb
      · rw [bit_test] at hb
        exact absurd (hcl q xq hDq hxq i hb) hni
      · exact readsV_ok hc hb
  · rcases h3 with h3 | ⟨h3, h4⟩
    · omega
    · have hti : t < i := by
        rcases Nat.lt_or_eq_of_le hge with e | e
        · exact e
        · subst e; exact absurd h3 hnm
      obtain ⟨ot, hot, hwt, hmt⟩ := h3
      rcases g3 t ot (Nat.zero_le _) hti hot hwt hmt with hb | hb
      · rw [bit_test] at hb
        exact absurd (hci t hb) h4
      · exact readsV_ok hc hb

theorem run_alloc {el : TypeId} {z : List Value} (hz : zeroL P el = some z) (w : World) : (Instr.alloc el true (.tuple #[])).run P w = .ok (.pointer (some ⟨w.heap.size, 0, none⟩)) { w with heap := w.heap.push (.cells ⟨z⟩ el) } := by
  obtain ⟨zv, h1, h2, h3⟩ := zeroL_ok hz
  unfold Instr.alloc
  simp only [Sem.run_bind, run_zeroValue h1, Result.andThen_ok, newVar, h2]
  simp [newRow]

/-- One operation of a drawn region, when its turn has been drawn. -/
theorem Inv.step (hrec : CodeOk P rec) (T : Tr P rec ops xs A S V) (h : Inv P ops A S V σ0 st0 w0 D s τ b act w) (hcl : ∀ j x, D j → xs[j]? = some x → ∀ k, x.cl.testBit k = true → D k) (hin : ∀ j, D j → j < ops.size)
    {i : Nat} {o : Oper} {x : Inf} (ho : ops[i]? = some o) (hx : xs[i]? = some x) (hni : ¬ D i) (hci : ∀ k, x.cl.testBit k = true → D k) (hD : ∀ k, D' k ↔ D k ∨ k = i) (n : Nat) (ro : Option Nat) {Q : Exit → Act → World → Prop} {K : Act → World → Prop}
    (hK : ∀ s' τ' b' act' w', Inv P ops A S V σ0 st0 w0 D' s' τ' b' act' w' → K act' w') : wpOpIn (Fr ro) n P ops Q i K act w := by
  have hf := T.fact i o x ho hx
  have hi := op_lt ho
  obtain ⟨ev, hwa⟩ := T.evals ho hx (b := b) (fun t ht hl => T.look hcl h.regs hx hni hci hin ht hl)
  have hn : (A i).n = b.n := (T.canon i (by omega)).1.trans h.regs.1.symm
  obtain ⟨b', hp⟩ := put_exists hn hf.put
  have hE : ∀ y, y ∈ o.op.operands.toList → VR τ (evalA b y) (act.eval y) := fun y hy => h.ar.eval (T.ok.opd o (mem_ops ho) y hy)
  have hdom : ∀ nm, 65536 ≤ nm → τ nm = none := fun nm hn => by
    cases hk : τ nm with
    | none => rfl
    | some k => have := (h.dom nm k hk).1; omega
  have hcong : ∀ st, stepS P rec (stpOf P o.op) b st = stepS P rec (stpOf P o.op) (A i) st := fun st => stepS_congr ev st
  unfold wpOpIn
  simp only [ho]
  rw [wanted_ok T.ok o h.ar, hwa]
  cases hw : wantedA ops o (A i) with
  | false =>
    rw [if_neg (by simp)]
    have hnm : ¬ WM ops A i := fun ⟨o2, q1, q2, q3⟩ => by rw [ho] at q1; cases q1; rw [hw] at q2; cases q2
    refine ⟨fun _ _ => trivial, hK s τ b' _ w (h.quiet T (.refl _ _ _) h.rel ho (v' := undef) ?_ hp hnm hD)⟩
    rw [(hf.off hw).1]
    exact .junk τ
  | true =>
    rw [if_pos rfl]
    have hon := hf.on hw
    cases hm : isMem o.op with
    | false =>
      have hnm : ¬ WM ops A i := fun ⟨o2, q1, q2, q3⟩ => by rw [ho] at q1; cases q1; rw [hm] at q3; cases q3
      rcases not_mem_cls hm with hc | hc
      · -- pure
        have hpure := (pure_any hc hon).2 ⟨heap0, 65536⟩
        rw [← hcong] at hpure
        refine step_ok hrec hE hpure (Rel.nothing hdom fun nm k hk => (h.dom nm k hk).2) n ro fun σ' w' v' g1 g2 g3 => ?_
        have hσ : σ' = τ := by
          funext nm
          by_cases e : nm < 65536
          · exact g3.low nm e
          · rw [hdom nm (by omega)]; exact (g2.fresh nm (by show 65536 ≤ nm; omega)).1
        subst hσ
        have hno : ∀ c, ¬ Own σ' ⟨heap0, 65536⟩ c := fun c ⟨y, ky, hy, _, _⟩ => by
          apply hy
          rw [St.obj_mk]
          by_cases e : y < 65536
          · unfold objAt
            rw [bsel_eq, if_neg (by rw [ble_iff]; omega)]
            exact heap0_get e
          · exact objAt_big (by omega)
        have hold : ∀ c, c < w.heap.size → w'.heap[c]? = w.heap[c]? := fun c hc => g3.kept c hc (hno c)
        refine hK s σ' b' _ w' (h.quiet T (w2 := w') ⟨.refl _, Nat.le_refl _, g3.size, fun _ _ h => h, fun c hc _ => hold c hc, g3.tape, g3.os, g3.output, fun _ _ => rfl⟩ ?_ ho g1 hp hnm hD)
        exact ⟨fun nm ha => let ⟨kk, h1, h2⟩ := h.rel.obj nm ha; ⟨kk, h1, OR.mono (.refl _) (hold _ (h.rel.bound nm kk h1)) h2⟩, h.rel.apart, h.rel.fresh, fun nm kk hk => Nat.lt_of_lt_of_le (h.rel.bound nm kk hk) g3.size, h.rel.lim⟩
      · -- reads
        obtain ⟨t, ht, g1, g2⟩ := h.readAt T hcl ho hx hni hci hw hc
        rw [← hcong] at g2
        refine step_ok hrec (fun y hy => ?_) g2 ht.rel n ro fun σ' w' v' q1 q2 q3 => ?_
        · refine below_vr hdom 6 ?_ (hE y hy)
          rw [ev y hy]
          exact opsBelow_ok g1 hy
        · have hσ : σ' = cut (S t).next τ := by
            funext nm
            by_cases e : nm < (S t).next
            · exact q3.low nm e
            · rw [(q2.fresh nm (by omega)).1]
              unfold cut
              rw [if_neg e]
          subst hσ
          exact hK t τ b' _ w' (ht.quiet T q3 q2 ho (q1.mono (cut_sub _ _)) hp hnm hD)
    | true =>
      have hwm : WM ops A i := ⟨o, ho, hw, hm⟩
      have hsi : s ≤ i := by
        rcases Nat.lt_or_ge i s with e | e
        · exact absurd (h.done i e hwm) hni
        · exact e
      cases hal : isAlloc o.op with
      | true =>
        have hop : ∃ el, o.op = .alloc el := by
          unfold isAlloc at hal
          split at hal
          · exact ⟨_, by assumption⟩
          · cases hal
        obtain ⟨el, hop⟩ := hop
        obtain ⟨z, hz, _⟩ := T.alloc ho hw hop
        refine ⟨fun _ _ => trivial, ?_⟩
        show o.uponIn (Fr ro) n P act K Q ((o.semAt ro act.eval).run P w)
        rw [Oper.semAt_eq ro _ o (fun c e => by rw [hop] at e; cases e)]
        have hrun : (execOp act.eval o).run P w = .ok (.value (.pointer (some ⟨w.heap.size, 0, none⟩))) { w with heap := w.heap.push (.cells ⟨z⟩ el) } := by
          unfold execOp
          rw [hop]
          simp only [Sem.run_bind, run_alloc hz, Result.andThen_ok, Sem.run_pure]
        rw [hrun]
        obtain ⟨τ', hI⟩ := h.early T ho hni hsi hw hop hz hp hD
        exact hK s τ' b' _ _ hI
      | false =>
        have hst : isStrict o.op = true := by unfold isStrict; rw [hm, hal]; rfl
        have hdone : ∀ k, k < i → WM ops A k → D k := by
          intro k hk ⟨ok, hok, hwk, hmk⟩
          obtain ⟨xk, hxk, hxk2, _⟩ := T.R.inf k ok hok
          obtain ⟨o', ho', hx2, _⟩ := T.R.op hx
          rw [ho] at ho'; cases ho'
          exact hci k (T.R.order hxk hx hk (by rw [(infOf_ok hxk2).2.2.2.2]; exact hmk) (by rw [(infOf_ok hx2).2.2.2.1]; exact hst))
        have hI := Inv.advTo T i hsi (by omega) (fun k _ hk hwk => hdone k hk hwk) h
        obtain ⟨g1, _⟩ := hf.mm hw hm
        rw [← hcong] at hon
        refine step_ok hrec (fun y hy => ?_) hon hI.rel n ro fun σ' w' v' q1 q2 q3 => ?_
        · refine below_vr hdom 6 ?_ (hE y hy)
          rw [ev y hy]
          exact opsBelow_ok g1 hy
        · obtain ⟨τ', hI'⟩ := hI.turn T q3 q2 ho hni q1 hp hD hdone
          exact hK (i + 1) τ' b' _ w' hI'
end
end Go.Proofs.YtieclenlldjfjaaGreat.Ev
