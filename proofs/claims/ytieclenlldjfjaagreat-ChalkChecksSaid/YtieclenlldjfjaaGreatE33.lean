import Derived.Test.YtieclenlldjfjaaGreatE26
set_option autoImplicit false
set_option linter.unusedVariables false
set_option linter.unusedSimpArgs false
namespace Go.Proofs.YtieclenlldjfjaaGreat.Ev
open Go

/-- What holds when the operations of D have been done, in whatever order. -/
structure Inv (P : Program) (ops : Array Oper) (A : Nat → Ac) (S : Nat → St) (V : Nat → Value) (σ0 : Nm) (st0 : St) (w0 : World) (D : Nat → Prop) (s : Nat) (τ : Nm) (b : Ac) (act : Act) (w : World) : Prop where
  dom : ∀ nm k, τ nm = some k → nm < 65536 ∧ k.b < w.heap.size
  ar : AR τ b act
  regs : Regs0 ops V (A 0) D b
  le : s ≤ ops.size
  done : ∀ k, k < s → WM ops A k → D k
  rel : Rel (cut (S s).next τ) (S s) w
  ghost : ∀ e, D e → s ≤ e → WM ops A e → ∃ o el z B, ops[e]? = some o ∧ o.op = .alloc el ∧ zeroL P el = some z ∧ τ (S e).next = some ⟨B, 0, z.length, 0, true⟩ ∧ w.heap[B]? = some (.cells ⟨z⟩ el (0, 0)) ∧ w0.heap.size ≤ B ∧ B < w.heap.size ∧
    ∀ x kx, Alive (S s) x → cut (S s).next τ x = some kx → kx.b ≠ B
  apart : ∀ e e' k k', D e → s ≤ e → WM ops A e → D e' → s ≤ e' → WM ops A e' → e ≠ e' → τ (S e).next = some k → τ (S e').next = some k' → k.b ≠ k'.b
  above : ∀ nm k, τ nm = some k → nm < (S s).next ∨ ∃ e, D e ∧ s ≤ e ∧ WM ops A e ∧ nm = (S e).next
  ext : Ext σ0 st0 w0 (cut (S s).next τ) (S s) w

section
variable {P : Program} {rec : Rec} {ops : Array Oper} {xs : List Inf} {A : Nat → Ac} {S : Nat → St} {V : Nat → Value} {σ0 : Nm} {st0 : St} {w0 : World} {D D' : Nat → Prop} {s : Nat} {τ : Nm} {b : Ac} {act : Act} {w : World}

theorem Inv.adv (T : Tr P rec ops xs A S V) (h : Inv P ops A S V σ0 st0 w0 D s τ b act w) (hs : s < ops.size) (hd : WM ops A s → D s) : Inv P ops A S V σ0 st0 w0 D (s + 1) τ b act w := by
  by_cases hm : WM ops A s
  · obtain ⟨o, el, z, B, g1, g2, g3, g4, g5, g6, g6b, g7⟩ := h.ghost s (hd hm) (Nat.le_refl s) hm
    obtain ⟨o', ho', hw, _⟩ := hm
    rw [g1] at ho'; cases ho'
    obtain ⟨z', hz, a1, a2, a3⟩ := T.alloc g1 hw g2
    rw [g3] at hz; cases hz
    have hfl : z.all flat = true := (zeroL_ok g3).choose_spec.2.2
    obtain ⟨σ', s1, s2, s3, s4, s5⟩ := h.rel.named (o := rowOf z 0 true) (k := ⟨B, 0, z.length, 0, true⟩) a3 g6b (fun x kx h1 h2 => g7 x kx h1 h2) (fun ρ hρ1 hρ2 => by
      unfold rowOf
      rw [lenL_eq]
      refine ⟨rfl, rfl, (Bt.ofL_perf _ _).1, dep_le _, by rw [ofL_take]; exact flat_one hfl, z, el, g5, rfl, by simp, ?_⟩
      rw [ofL_take]
      simpa using VRL.flat (σ := ρ) hfl)
    rw [← a2] at s2 s5
    have hn : (S (s + 1)).next = (S s).next + 1 := by rw [a2]
    have hσ : σ' = cut (S (s + 1)).next τ := by
      funext x
      rw [hn]
      by_cases e : x = (S s).next
      · subst e
        rw [s1, cut_some g4 (by omega)]
      · rw [s4 x e]
        unfold cut
        by_cases e2 : x < (S s).next
        · rw [if_pos e2, if_pos (by omega)]
        · rw [if_neg e2, if_neg (by omega)]
    subst hσ
    have hlo := h.ext.next
    refine ⟨h.dom, h.ar, h.regs, hs, fun k hk hwm => ?_, s2, fun e he hle hwm => ?_, fun e e' k k' h1 h2 h3 h4 h5 h6 h7 => h.apart e e' k k' h1 (by omega) h3 h4 (by omega) h6 h7, fun nm k hk => ?_, ?_⟩
    · by_cases e : k = s
      · subst e; exact hd hwm
      · exact h.done k (by omega) hwm
    · obtain ⟨o2, el2, z2, B2, q1, q2, q3, q4, q5, q6, q6b, q7⟩ := h.ghost e he (by omega) hwm
      refine ⟨o2, el2, z2, B2, q1, q2, q3, q4, q5, q6, q6b, fun x kx hx hk => ?_⟩
      by_cases ex : x = (S s).next
      · subst ex
        rw [s1] at hk; cases hk
        exact h.apart s e _ _ (hd ⟨o, g1, hw, by rw [g2]; rfl⟩) (Nat.le_refl s) ⟨o, g1, hw, by rw [g2]; rfl⟩ he (by omega) hwm (by omega) g4 q4
      · rw [s4 x ex] at hk
        exact q7 x kx (s5 x hx ex) hk
    · rcases h.above nm k hk with h1 | ⟨e, h1, h2, h3, h4⟩
      · exact .inl (by rw [hn]; omega)
      · by_cases e2 : e = s
        · subst e2; exact .inl (by rw [hn]; omega)
        · exact .inr ⟨e, h1, by omega, h3, h4⟩
    · refine ⟨h.ext.sub.trans s3, by rw [hn]; omega, h.ext.size, fun c hc ⟨x, kx, h1, h2, h3⟩ => ?_, h.ext.kept, h.ext.tape, h.ext.os, h.ext.output, fun nm hnm => ?_⟩
      · by_cases ex : x = (S s).next
        · subst ex
          rw [s1] at h2; cases h2
          have h3 : B = c := h3
          omega
        · rw [s4 x ex] at h2
          exact h.ext.own c hc ⟨x, kx, s5 x h1 ex, h2, h3⟩
      · rw [s4 nm (by omega)]
        exact h.ext.low nm hnm
  · have e := T.still hs hm
    refine ⟨h.dom, h.ar, h.regs, hs, fun k hk hwm => ?_, by rw [e]; exact h.rel, fun e' he hle hwm => ?_, fun e e' k k' h1 h2 h3 h4 h5 h6 h7 => h.apart e e' k k' h1 (by omega) h3 h4 (by omega) h6 h7, fun nm k hk => ?_, by rw [e]; exact h.ext⟩
    · by_cases ek : k = s
      · subst ek; exact absurd hwm hm
      · exact h.done k (by omega) hwm
    · rw [e]; exact h.ghost e' he (by omega) hwm
    · rw [e]
      rcases h.above nm k hk with h1 | ⟨e', h1, h2, h3, h4⟩
      · exact .inl h1
      · by_cases e2 : e' = s
        · subst e2; exact absurd h3 hm
        · exact .inr ⟨e', h1, by omega, h3, h4⟩

theorem Inv.advTo (T : Tr P rec ops xs A S V) : ∀ t, s ≤ t → t ≤ ops.size → (∀ k, s ≤ k → k < t → WM ops A k → D k) → Inv P ops A S V σ0 st0 w0 D s τ b act w → Inv P ops A S V σ0 st0 w0 D t τ b act w
  | 0, h1, _, _, h => by have : s = 0 := by omega
                         subst this; exact h
  | t + 1, h1, h2, h3, h => by
    by_cases e : s = t + 1
    · subst e; exact h
    · exact (Inv.advTo T t (by omega) (by omega) (fun k q1 q2 => h3 k q1 (by omega)) h).adv T (by omega) (h3 t (by omega) (by omega))

theorem Inv.advMax (T : Tr P rec ops xs A S V) : ∀ (m s : Nat), ops.size - s ≤ m → Inv P ops A S V σ0 st0 w0 D s τ b act w → ∃ t, s ≤ t ∧ Inv P ops A S V σ0 st0 w0 D t τ b act w ∧ (t = ops.size ∨ (WM ops A t ∧ ¬ D t))
  | 0, s, hm, h => ⟨s, Nat.le_refl s, h, .inl (by have := h.le; omega)⟩
  | m + 1, s, hm, h => by
    by_cases e : s = ops.size
    · exact ⟨s, Nat.le_refl s, h, .inl e⟩
    · by_cases hd : WM ops A s → D s
      · obtain ⟨t, h1, h2, h3⟩ := Inv.advMax T m (s + 1) (by omega) (h.adv T (by have := h.le; omega) hd)
        exact ⟨t, by omega, h2, h3⟩
      · exact ⟨s, Nat.le_refl s, h, .inr (Classical.not_imp.1 hd)⟩

/-- An operation that leaves the core's memory as it is told. -/
theorem Inv.quiet (T : Tr P rec ops xs A S V) (h : Inv P ops A S V σ0 st0 w0 D s τ b act w) {w2 : World} (x2 : Ext (cut (S s).next τ) (S s) w (cut (S s).next τ) (S s) w2) (r2 : Rel (cut (S s).next τ) (S s) w2)
    {i : Nat} {o : Oper} (ho : ops[i]? = some o) {v' : Value} (hv : VR τ (V i) v') {st st2 : St} {b' : Ac} (hp : b.put o.dst (V i) st = .ok b' st2) (hnm : ¬ WM ops A i) (hD : ∀ k, D' k ↔ D k ∨ k = i) :
    Inv P ops A S V σ0 st0 w0 D' s τ b' (act.put o.dst v') w2 := by
  have back : ∀ e, D' e → WM ops A e → D e := fun e he hw => ((hD e).1 he).resolve_right (fun e' => by subst e'; exact hnm hw)
  refine ⟨fun nm k hk => ⟨(h.dom nm k hk).1, Nat.lt_of_lt_of_le (h.dom nm k hk).2 x2.size⟩, h.ar.put hp hv, h.regs.put T.ok ho hp (fun j o' t hj hne hd => T.uniq ho hj hne hd) hD, h.le, fun k hk hw => (hD k).2 (.inl (h.done k hk hw)), r2,
    fun e he hle hw => ?_, fun e e' k k' h1 h2 h3 h4 h5 h6 => h.apart e e' k k' (back e h1 h3) h2 h3 (back e' h4 h6) h5 h6, fun nm k hk => ?_, h.ext.trans x2⟩
  · obtain ⟨o2, el, z, B, q1, q2, q3, q4, q5, q6, q6b, q7⟩ := h.ghost e (back e he hw) hle hw
    refine ⟨o2, el, z, B, q1, q2, q3, q4, ?_, q6, Nat.lt_of_lt_of_le q6b x2.size, q7⟩
    rw [x2.kept B q6b (fun ⟨x, kx, h1, h2, h3⟩ => q7 x kx h1 h2 h3)]
    exact q5
  · rcases h.above nm k hk with h1 | ⟨e, h1, h2⟩
    · exact .inl h1
    · exact .inr ⟨e, (hD e).2 (.inl h1), h2⟩

/-- An operation that works on memory, in its turn. -/
theorem Inv.turn (T : Tr P rec ops xs A S V) {i : Nat} (h : Inv P ops A S V σ0 st0 w0 D i τ b act w) {w2 : World} {σ' : Nm} (x2 : Ext (cut (S i).next τ) (S i) w σ' (S (i + 1)) w2) (r2 : Rel σ' (S (i + 1)) w2)
    {o : Oper} (ho : ops[i]? = some o) (hni : ¬ D i) {v' : Value} (hv : VR σ' (V i) v') {st st2 : St} {b' : Ac} (hp : b.put o.dst (V i) st = .ok b' st2) (hD : ∀ k, D' k ↔ D k ∨ k = i) (hdone : ∀ k, k < i → WM ops A k → D k) :
    ∃ τ', Inv P ops A S V σ0 st0 w0 D' (i + 1) τ' b' (act.put o.dst v') w2 := by
  have hi := op_lt ho
  let τ' : Nm := fun nm => if nm < (S (i + 1)).next then σ' nm else τ nm
  have hlt : ∀ nm, nm < (S (i + 1)).next → τ' nm = σ' nm := fun nm hn => if_pos hn
  have hge : ∀ nm, (S (i + 1)).next ≤ nm → τ' nm = τ nm := fun nm hn => if_neg (by omega)
  have hle := T.le1 hi
  have hcut : cut (S (i + 1)).next τ' = σ' := by
    funext nm
    unfold cut
    by_cases e : nm < (S (i + 1)).next
    · rw [if_pos e, hlt nm e]
    · rw [if_neg e]; exact ((r2.fresh nm (by omega)).1).symm
  have hlate : ∀ e, D e → i ≤ e → i + 1 ≤ e := fun e he hle => by
    by_cases e' : e = i
    · subst e'; exact absurd he hni
    · omega
  have hsub : Sub τ τ' := by
    intro nm k hk
    rcases h.above nm k hk with h1 | ⟨e, h1, h2, h3, h4⟩
    · rw [hlt nm (by omega), x2.low nm h1]
      exact cut_some hk h1
    · have := hlate e h1 h2
      have hen : e ≤ ops.size := by obtain ⟨oe, hoe, _⟩ := h3; exact Nat.le_of_lt (op_lt hoe)
      have := T.le (i := i + 1) e this hen
      rw [hge nm (by omega)]; exact hk
  have back : ∀ e, D' e → i + 1 ≤ e → D e := fun e he hle => ((hD e).1 he).resolve_right (by omega)
  refine ⟨τ', ⟨fun nm k hk => ?_, (h.ar.mono hsub).put hp (hv.mono (fun nm k hk => ?_)), h.regs.put T.ok ho hp (fun j o' t hj hne hd => T.uniq ho hj hne hd) hD, hi, fun k hk hw => ?_, by rw [hcut]; exact r2,
    fun e he hle2 hw => ?_, fun e e' k k' h1 h2 h3 h4 h5 h6 h7 h8 h9 => ?_, fun nm k hk => ?_, by rw [hcut]; exact h.ext.trans x2⟩⟩
  · by_cases e : nm < (S (i + 1)).next
    · rw [hlt nm e] at hk
      exact ⟨Nat.lt_of_lt_of_le e r2.lim, r2.bound nm k hk⟩
    · rw [hge nm (by omega)] at hk
      exact ⟨(h.dom nm k hk).1, Nat.lt_of_lt_of_le (h.dom nm k hk).2 x2.size⟩
  · have := r2.name_lt hk
    rw [hlt nm this]; exact hk
  · by_cases e : k = i
    · exact (hD k).2 (.inr e)
    · exact (hD k).2 (.inl (hdone k (by omega) hw))
  · obtain ⟨o2, el, z, B, q1, q2, q3, q4, q5, q6, q6b, q7⟩ := h.ghost e (back e he hle2) (by omega) hw
    have hun : ¬ Own (cut (S i).next τ) (S i) B := fun ⟨x, kx, h1, h2, h3⟩ => q7 x kx h1 h2 h3
    have := T.le (i := i + 1) e hle2 (Nat.le_of_lt (op_lt q1))
    refine ⟨o2, el, z, B, q1, q2, q3, by rw [hge _ this]; exact q4, by rw [x2.kept B q6b hun]; exact q5, q6, Nat.lt_of_lt_of_le q6b x2.size, fun x kx hx hk hB => ?_⟩
    rw [hcut] at hk
    exact hun (x2.own B q6b ⟨x, kx, hx, hk, hB⟩)
  · have e1 := T.le (i := i + 1) e h2 (by obtain ⟨oe, hoe, _⟩ := h3; exact Nat.le_of_lt (op_lt hoe))
    have e2 := T.le (i := i + 1) e' h5 (by obtain ⟨oe, hoe, _⟩ := h6; exact Nat.le_of_lt (op_lt hoe))
    rw [hge _ e1] at h8
    rw [hge _ e2] at h9
    exact h.apart e e' k k' (back e h1 h2) (by omega) h3 (back e' h4 h5) (by omega) h6 h7 h8 h9
  · by_cases e : nm < (S (i + 1)).next
    · exact .inl e
    · rw [hge nm (by omega)] at hk
      rcases h.above nm k hk with h1 | ⟨e2, h1, h2, h3, h4⟩
      · omega
      · exact .inr ⟨e2, (hD e2).2 (.inl h1), hlate e2 h1 h2, h3, h4⟩

/-- An alloc, early or not. -/
theorem Inv.early (T : Tr P rec ops xs A S V) (h : Inv P ops A S V σ0 st0 w0 D s τ b act w) {i : Nat} {o : Oper} (ho : ops[i]? = some o) (hni : ¬ D i) (hsi : s ≤ i) (hw : wantedA ops o (A i) = true) {el : TypeId} (hop : o.op = .alloc el)
    {z : List Value} (hz : zeroL P el = some z) {st st2 : St} {b' : Ac} (hp : b.put o.dst (V i) st = .ok b' st2) (hD : ∀ k, D' k ↔ D k ∨ k = i) :
    ∃ τ', Inv P ops A S V σ0 st0 w0 D' s τ' b' (act.put o.dst (.pointer (some ⟨w.heap.size, 0, none⟩))) { w with heap := w.heap.push (.cells ⟨z⟩ el) } := by
  have hi := op_lt ho
  obtain ⟨z', hz', a1, a2, a3⟩ := T.alloc ho hw hop
  rw [hz] at hz'; cases hz'
  have hwm : WM ops A i := ⟨o, ho, hw, by rw [hop]; rfl⟩
  have hn1 : (S (i + 1)).next = (S i).next + 1 := by rw [a2]
  have hne : ∀ e, D e → s ≤ e → WM ops A e → (S e).next ≠ (S i).next := by
    intro e he hse hwe heq
    obtain ⟨oe, hoe, hwoe, hme⟩ := hwe
    rcases Nat.lt_trichotomy e i with h1 | h1 | h1
    · obtain ⟨o2, el2, z2, B2, q1, q2, _⟩ := h.ghost e he hse ⟨oe, hoe, hwoe, hme⟩
      rw [hoe] at q1; cases q1
      obtain ⟨_, _, _, b2, _⟩ := T.alloc hoe hwoe q2
      have : (S (e + 1)).next = (S e).next + 1 := by rw [b2]
      have := T.le (i := e + 1) i (by omega) (by omega)
      omega
    · subst h1; exact hni he
    · have := T.le (i := i + 1) e (by omega) (Nat.le_of_lt (op_lt hoe))
      omega
  have hsn := T.le (i := s) i hsi (by omega)
  have hnone : τ (S i).next = none := by
    cases hk : τ (S i).next with
    | none => rfl
    | some k =>
      rcases h.above _ k hk with h1 | ⟨e, h1, h2, h3, h4⟩
      · omega
      · exact absurd h4.symm (hne e h1 h2 h3)
  let k : Blk := ⟨w.heap.size, 0, z.length, 0, true⟩
  let τ' : Nm := fun nm => if nm = (S i).next then some k else τ nm
  have hself : τ' (S i).next = some k := if_pos rfl
  have hoth : ∀ nm, nm ≠ (S i).next → τ' nm = τ nm := fun nm hn => if_neg hn
  have hsub : Sub τ τ' := fun nm kk hk => by
    rw [hoth nm (fun e => by rw [e, hnone] at hk; cases hk)]; exact hk
  have hcut : cut (S s).next τ' = cut (S s).next τ := by
    funext nm
    unfold cut
    by_cases e : nm < (S s).next
    · rw [if_pos e, if_pos e, hoth nm (by omega)]
    · rw [if_neg e, if_neg e]
  have hold : ∀ c, c < w.heap.size → (w.heap.push (.cells ⟨z⟩ el))[c]? = w.heap[c]? := fun c hc => by simp [Array.getElem?_push, Nat.ne_of_lt hc]
  have r2 : Rel (cut (S s).next τ) (S s) { w with heap := w.heap.push (.cells ⟨z⟩ el) } :=
    ⟨fun nm ha => let ⟨kk, h1, h2⟩ := h.rel.obj nm ha; ⟨kk, h1, OR.mono (.refl _) (hold _ (h.rel.bound nm kk h1)) h2⟩, h.rel.apart, h.rel.fresh, fun nm kk hk => by have := h.rel.bound nm kk hk; simp; omega, h.rel.lim⟩
  have x2 : Ext (cut (S s).next τ) (S s) w (cut (S s).next τ) (S s) { w with heap := w.heap.push (.cells ⟨z⟩ el) } :=
    ⟨.refl _, Nat.le_refl _, by simp, fun _ _ h => h, fun c hc _ => hold c hc, rfl, rfl, rfl, fun _ _ => rfl⟩
  refine ⟨τ', ⟨fun nm kk hk => ?_, (h.ar.mono hsub).put hp ?_, h.regs.put T.ok ho hp (fun j o' t hj hne hd => T.uniq ho hj hne hd) hD, h.le, fun j hj hwj => (hD j).2 (.inl (h.done j hj hwj)), by rw [hcut]; exact r2,
    fun e he hle hwe => ?_, fun e e' k1 k2 h1 h2 h3 h4 h5 h6 h7 h8 h9 => ?_, fun nm kk hk => ?_, by rw [hcut]; exact h.ext.trans x2⟩⟩
  · by_cases e : nm = (S i).next
    · subst e
      rw [hself] at hk; cases hk
      exact ⟨a3, by simp [k]⟩
    · rw [hoth nm e] at hk
      have := h.dom nm kk hk
      exact ⟨this.1, by simp; omega⟩
  · rw [a1]
    exact .ptr (S i).next 0 k hself
  · by_cases ei : e = i
    · subst ei
      refine ⟨o, el, z, w.heap.size, ho, hop, hz, hself, by simp, h.ext.size, by simp, fun x kx hx hk => ?_⟩
      rw [hcut] at hk
      have := h.rel.bound x kx hk
      omega
    · obtain ⟨o2, el2, z2, B, q1, q2, q3, q4, q5, q6, q6b, q7⟩ := h.ghost e (((hD e).1 he).resolve_right ei) hle hwe
      refine ⟨o2, el2, z2, B, q1, q2, q3, by rw [hoth _ (hne e (((hD e).1 he).resolve_right ei) hle hwe)]; exact q4, by rw [hold B q6b]; exact q5, q6, by simp; omega, fun x kx hx hk => ?_⟩
      rw [hcut] at hk
      exact q7 x kx hx hk
  · by_cases e1 : e = i
    · subst e1
      rw [hself] at h8; cases h8
      have hDe : D e' := ((hD e').1 h4).resolve_right (fun e2 => h7 e2.symm)
      rw [hoth _ (hne e' hDe h5 h6)] at h9
      have := (h.dom _ _ h9).2
      show w.heap.size ≠ k2.b
      omega
    · have hDe : D e := ((hD e).1 h1).resolve_right e1
      rw [hoth _ (hne e hDe h2 h3)] at h8
      by_cases e2 : e' = i
      · subst e2
        rw [hself] at h9; cases h9
        have := (h.dom _ _ h8).2
        show k1.b ≠ w.heap.size
        omega
      · have hDe' : D e' := ((hD e').1 h4).resolve_right e2
        rw [hoth _ (hne e' hDe' h5 h6)] at h9
        exact h.apart e e' k1 k2 hDe h2 h3 hDe' h5 h6 h7 h8 h9
  · by_cases e : nm = (S i).next
    · exact .inr ⟨i, (hD i).2 (.inr rfl), hsi, hwm, e⟩
    · rw [hoth nm e] at hk
      rcases h.above nm kk hk with h1 | ⟨e2, h1, h2⟩
      · exact .inl h1
      · exact .inr ⟨e2, (hD e2).2 (.inl h1), h2⟩
end
end Go.Proofs.YtieclenlldjfjaaGreat.Ev

set_option autoImplicit false
set_option linter.unusedVariables false
set_option linter.unusedSimpArgs false
namespace Go.Proofs.YtieclenlldjfjaaGreat.Ev
open Go
section
variable {P : Program} {rec : Rec} {ops : Array Oper} {xs : List Inf} {A : Nat → Ac} {S : Nat → St} {V : Nat → Value} {σ0 : Nm} {st0 : St} {w0 : World} {D D' : Nat → Prop} {s : Nat} {τ : Nm} {b : Ac} {act : Act} {w : World}

theorem put_exists {a b : Ac} (hn : a.n = b.n) {dst : Option Tmp} {v : Value} {st : St} {a' : Ac} {st' : St} (h : a.put dst v st = .ok a' st') : ∃ b', b.put dst v st = .ok b' st := by
  cases dst with
  | none => exact ⟨b, rfl⟩
  | some d =>
    have h1 := ((put_ok2 h).2.2.2 d rfl).1
    obtain ⟨n, t, ds⟩ := b
    refine ⟨⟨n, (regAt d).s v t, ds⟩, ?_⟩
    show bsel (Nat.ble (Nat.succ d) n) (Ra.ok ⟨n, (regAt d).s v t, ds⟩ st) .no = _
    rw [ble_iff.2 (show Nat.succ d ≤ n by have hn : a.n = n := hn; rw [← hn]; exact h1)]
    rfl

theorem last_wm (i : Nat) : ∀ t, i ≤ t → (∀ k, i ≤ k → k < t → ¬ WM ops A k) ∨ ∃ q, i ≤ q ∧ q < t ∧ WM ops A q ∧ ∀ k, q < k → k < t → ¬ WM ops A k
  | 0, h => .inl (fun k h1 h2 => by omega)
  | t + 1, h => by
    by_cases e : i = t + 1
    · exact .inl (fun k h1 h2 => by omega)
    · by_cases hw : WM ops A t
      · exact .inr ⟨t, by omega, by omega, hw, fun k h1 h2 => by omega⟩
      · rcases last_wm i t (by omega) with h1 | ⟨q, h1, h2, h3, h4⟩
        · refine .inl fun k q1 q2 => ?_
          by_cases ek : k = t
          · subst ek; exact hw
          · exact h1 k q1 (by omega)
        · refine .inr ⟨q, h1, by omega, h3, fun k q1 q2 => ?_⟩
          by_cases ek : k = t
          · subst ek; exact hw
          · exact h4 k q1 (by omega)

theorem readsV_ok {op : Op} (hc : cls op = .reads) {a : Ac} {v : Value} {st : St} (h : readsV P op a v st = true) : opsBelow op a st = true ∧ stepS P rec (stpOf P op) a st = .ok v st := by
  unfold readsV at h
  obtain ⟨h1, h⟩ := bsel_ne h (by simp)
  cases hs : stepS P noRec (stpOf P op) a st with
  | no => rw [hs] at h; cases h
  | ok u st2 =>
    rw [hs] at h
    have h : sameV u v = true := h
    have := sameV_eq h
    subst this
    have := reads_any hc hs
    subst this
    exact ⟨h1, by rw [reads_rec hc rec noRec]; exact hs⟩

/-- What a read yields, wherever it is done. -/
theorem Inv.readAt (T : Tr P rec ops xs A S V) (h : Inv P ops A S V σ0 st0 w0 D s τ b act w) (hcl : ∀ j x, D j → xs[j]? = some x → ∀ k, x.cl.testBit k = true → D k) {i : Nat} {o : Oper} {x : Inf} (ho : ops[i]? = some o) (hx : xs[i]? = some x)
    (hni : ¬ D i) (hci : ∀ k, x.cl.testBit k = true → D k) (hw : wantedA ops o (A i) = true) (hc : cls o.op = .reads) :
    ∃ t, Inv P ops A S V σ0 st0 w0 D t τ b act w ∧ opsBelow o.op (A i) (S t) = true ∧ stepS P rec (stpOf P o.op) (A i) (S t) = .ok (V i) (S t) := by
  have hi := op_lt ho
  have hf := T.fact i o x ho hx
  have hnm : ¬ WM ops A i := fun ⟨o2, q1, q2, q3⟩ => by
    rw [ho] at q1; cases q1
    rcases isMem_cls q3 with e | e <;> rw [hc] at e <;> cases e
  obtain ⟨g1, _, g3⟩ := hf.rd hw hc
  have hon := hf.on hw
  have hsame := reads_any hc hon
  rw [hsame] at hon
  obtain ⟨t, h1, h2, h3⟩ := h.advMax T (ops.size - s) s (Nat.le_refl _)
  refine ⟨t, h2, ?_⟩
  rcases Nat.lt_or_ge i t with hlt | hge
  · rcases last_wm (ops := ops) (A := A) i t (by omega) with hno | ⟨q, q1, q2, q3, q4⟩
    · rw [T.stills t (by omega) h2.le hno]
      exact ⟨g1, hon⟩
    · have hDq := h2.done q q2 q3
      have hst : S t = S (q + 1) := T.stills t (by omega) h2.le (fun k e1 e2 => q4 k (by omega) e2)
      rw [hst]
      obtain ⟨oq, hoq, hwq, hmq⟩ := q3
      obtain ⟨xq, hxq, hfq⟩ := T.op hoq
      have hqi : i < q := by
        rcases Nat.lt_or_eq_of_le q1 with e | e
        · exact e
        · subst e; exact absurd ⟨oq, hoq, hwq, hmq⟩ hnm
      rcases (hfq.mm hwq hmq).2.2.2 i o (Nat.zero_le _) hqi ho hw hc with hb | hb
      · rw [bit_test] at hb
        exact absurd (hcl q xq hDq hxq i hb) hni
      · exact readsV_ok hc hb
  · rcases h3 with h3 | ⟨h3, h4⟩
    · omega
    · have hti : t < i := by
        rcases Nat.lt_or_eq_of_le hge with e | e
        · exact e
        · subst e; exact absurd h3 hnm
      obtain ⟨ot, hot, hwt, hmt⟩ := h3
      rcases g3 t ot (Nat.zero_le _) hti hot hwt hmt with hb | hb
      · rw [bit_test] at hb
        exact absurd (hci t hb) h4
      · exact readsV_ok hc hb

theorem run_alloc {el : TypeId} {z : List Value} (hz : zeroL P el = some z) (w : World) : (Instr.alloc el true (.tuple #[])).run P w = .ok (.pointer (some ⟨w.heap.size, 0, none⟩)) { w with heap := w.heap.push (.cells ⟨z⟩ el) } := by
  obtain ⟨zv, h1, h2, h3⟩ := zeroL_ok hz
  unfold Instr.alloc
  simp only [Sem.run_bind, run_zeroValue h1, Result.andThen_ok, newVar, h2]
  simp [newRow]

/-- One operation of a drawn region, when its turn has been drawn. -/
theorem Inv.step (hrec : CodeOk P rec) (T : Tr P rec ops xs A S V) (h : Inv P ops A S V σ0 st0 w0 D s τ b act w) (hcl : ∀ j x, D j → xs[j]? = some x → ∀ k, x.cl.testBit k = true → D k) (hin : ∀ j, D j → j < ops.size)
    {i : Nat} {o : Oper} {x : Inf} (ho : ops[i]? = some o) (hx : xs[i]? = some x) (hni : ¬ D i) (hci : ∀ k, x.cl.testBit k = true → D k) (hD : ∀ k, D' k ↔ D k ∨ k = i) (n : Nat) (ro : Option Nat) {Q : Exit → Act → World → Prop} {K : Act → World → Prop}
    (hK : ∀ s' τ' b' act' w', Inv P ops A S V σ0 st0 w0 D' s' τ' b' act' w' → K act' w') : wpOpIn (Fr ro) n P ops Q i K act w := by
  have hf := T.fact i o x ho hx
  have hi := op_lt ho
  obtain ⟨ev, hwa⟩ := T.evals ho hx (b := b) (fun t ht hl => T.look hcl h.regs hx hni hci hin ht hl)
  have hn : (A i).n = b.n := (T.canon i (by omega)).1.trans h.regs.1.symm
  obtain ⟨b', hp⟩ := put_exists hn hf.put
  have hE : ∀ y, y ∈ o.op.operands.toList → VR τ (evalA b y) (act.eval y) := fun y hy => h.ar.eval (T.ok.opd o (mem_ops ho) y hy)
  have hdom : ∀ nm, 65536 ≤ nm → τ nm = none := fun nm hn => by
    cases hk : τ nm with
    | none => rfl
    | some k => have := (h.dom nm k hk).1; omega
  have hcong : ∀ st, stepS P rec (stpOf P o.op) b st = stepS P rec (stpOf P o.op) (A i) st := fun st => stepS_congr ev st
  unfold wpOpIn
  simp only [ho]
  rw [wanted_ok T.ok o h.ar, hwa]
  cases hw : wantedA ops o (A i) with
  | false =>
    rw [if_neg (by simp)]
    have hnm : ¬ WM ops A i := fun ⟨o2, q1, q2, q3⟩ => by rw [ho] at q1; cases q1; rw [hw] at q2; cases q2
    refine ⟨fun _ _ => trivial, hK s τ b' _ w (h.quiet T (.refl _ _ _) h.rel ho (v' := undef) ?_ hp hnm hD)⟩
    rw [(hf.off hw).1]
    exact .junk τ
  | true =>
    rw [if_pos rfl]
    have hon := hf.on hw
    cases hm : isMem o.op with
    | false =>
      have hnm : ¬ WM ops A i := fun ⟨o2, q1, q2, q3⟩ => by rw [ho] at q1; cases q1; rw [hm] at q3; cases q3
      rcases not_mem_cls hm with hc | hc
      · -- pure
        have hpure := (pure_any hc hon).2 ⟨heap0, 65536⟩
        rw [← hcong] at hpure
        refine step_ok hrec hE hpure (Rel.nothing hdom fun nm k hk => (h.dom nm k hk).2) n ro fun σ' w' v' g1 g2 g3 => ?_
        have hσ : σ' = τ := by
          funext nm
          by_cases e : nm < 65536
          · exact g3.low nm e
          · rw [hdom nm (by omega)]; exact (g2.fresh nm (by show 65536 ≤ nm; omega)).1
        subst hσ
        have hno : ∀ c, ¬ Own σ' ⟨heap0, 65536⟩ c := fun c ⟨y, ky, hy, _, _⟩ => by
          apply hy
          rw [St.obj_mk]
          by_cases e : y < 65536
          · unfold objAt
            rw [bsel_eq, if_neg (by rw [ble_iff]; omega)]
            exact heap0_get e
          · exact objAt_big (by omega)
        have hold : ∀ c, c < w.heap.size → w'.heap[c]? = w.heap[c]? := fun c hc => g3.kept c hc (hno c)
        refine hK s σ' b' _ w' (h.quiet T (w2 := w') ⟨.refl _, Nat.le_refl _, g3.size, fun _ _ h => h, fun c hc _ => hold c hc, g3.tape, g3.os, g3.output, fun _ _ => rfl⟩ ?_ ho g1 hp hnm hD)
        exact ⟨fun nm ha => let ⟨kk, h1, h2⟩ := h.rel.obj nm ha; ⟨kk, h1, OR.mono (.refl _) (hold _ (h.rel.bound nm kk h1)) h2⟩, h.rel.apart, h.rel.fresh, fun nm kk hk => Nat.lt_of_lt_of_le (h.rel.bound nm kk hk) g3.size, h.rel.lim⟩
      · -- reads
        obtain ⟨t, ht, g1, g2⟩ := h.readAt T hcl ho hx hni hci hw hc
        rw [← hcong] at g2
        refine step_ok hrec (fun y hy => ?_) g2 ht.rel n ro fun σ' w' v' q1 q2 q3 => ?_
        · refine below_vr hdom 6 ?_ (hE y hy)
          rw [ev y hy]
          exact opsBelow_ok g1 hy
        · have hσ : σ' = cut (S t).next τ := by
            funext nm
            by_cases e : nm < (S t).next
            · exact q3.low nm e
            · rw [(q2.fresh nm (by omega)).1]
              unfold cut
              rw [if_neg e]
          subst hσ
          exact hK t τ b' _ w' (ht.quiet T q3 q2 ho (q1.mono (cut_sub _ _)) hp hnm hD)
    | true =>
      have hwm : WM ops A i := ⟨o, ho, hw, hm⟩
      have hsi : s ≤ i := by
        rcases Nat.lt_or_ge i s with e | e
        · exact absurd (h.done i e hwm) hni
        · exact e
      cases hal : isAlloc o.op with
      | true =>
        have hop : ∃ el, o.op = .alloc el := by
          unfold isAlloc at hal
          split at hal
          · exact ⟨_, by assumption⟩
          · cases hal
        obtain ⟨el, hop⟩ := hop
        obtain ⟨z, hz, _⟩ := T.alloc ho hw hop
        refine ⟨fun _ _ => trivial, ?_⟩
        show o.uponIn (Fr ro) n P act K Q ((o.semAt ro act.eval).run P w)
        rw [Oper.semAt_eq ro _ o (fun c e => by rw [hop] at e; cases e)]
        have hrun : (execOp act.eval o).run P w = .ok (.value (.pointer (some ⟨w.heap.size, 0, none⟩))) { w with heap := w.heap.push (.cells ⟨z⟩ el) } := by
          unfold execOp
          rw [hop]
          simp only [Sem.run_bind, run_alloc hz, Result.andThen_ok, Sem.run_pure]
        rw [hrun]
        obtain ⟨τ', hI⟩ := h.early T ho hni hsi hw hop hz hp hD
        exact hK s τ' b' _ _ hI
      | false =>
        have hst : isStrict o.op = true := by unfold isStrict; rw [hm, hal]; rfl
        have hdone : ∀ k, k < i → WM ops A k → D k := by
          intro k hk ⟨ok, hok, hwk, hmk⟩
          obtain ⟨xk, hxk, hxk2, _⟩ := T.R.inf k ok hok
          obtain ⟨o', ho', hx2, _⟩ := T.R.op hx
          rw [ho] at ho'; cases ho'
          exact hci k (T.R.order hxk hx hk (by rw [(infOf_ok hxk2).2.2.2.2]; exact hmk) (by rw [(infOf_ok hx2).2.2.2.1]; exact hst))
        have hI := Inv.advTo T i hsi (by omega) (fun k _ hk hwk => hdone k hk hwk) h
        obtain ⟨g1, _⟩ := hf.mm hw hm
        rw [← hcong] at hon
        refine step_ok hrec (fun y hy => ?_) hon hI.rel n ro fun σ' w' v' q1 q2 q3 => ?_
        · refine below_vr hdom 6 ?_ (hE y hy)
          rw [ev y hy]
          exact opsBelow_ok g1 hy
        · obtain ⟨τ', hI'⟩ := hI.turn T q3 q2 ho hni q1 hp hD hdone
          exact hK (i + 1) τ' b' _ w' hI'
end
end Go.Proofs.YtieclenlldjfjaaGreat.Ev

set_option autoImplicit false
set_option linter.unusedVariables false
set_option linter.unusedSimpArgs false
namespace Go.Proofs.YtieclenlldjfjaaGreat.Ev
open Go

theorem countP_lt {p q : Nat → Bool} : ∀ {l : List Nat}, (∀ x, x ∈ l → q x = true → p x = true) → (∃ x, x ∈ l ∧ p x = true ∧ q x = false) → l.countP q < l.countP p
  | [], _, h => by obtain ⟨x, h, _⟩ := h; simp at h
  | y :: l, h1, h2 => by
    have hle : l.countP q ≤ l.countP p := List.countP_mono_left (fun x hx hq => h1 x (by simp [hx]) hq)
    rw [List.countP_cons, List.countP_cons]
    obtain ⟨x, hx, hp, hq⟩ := h2
    rcases List.mem_cons.1 hx with rfl | hx
    · rw [if_pos hp, if_neg (by simp [hq])]
      omega
    · have := countP_lt (p := p) (q := q) (l := l) (fun x hx hq => h1 x (by simp [hx]) hq) ⟨x, hx, hp, hq⟩
      have h3 := h1 y (by simp)
      by_cases hy : q y = true
      · rw [if_pos hy, if_pos (h3 hy)]; omega
      · rw [if_neg hy]; split <;> omega

theorem edges_lt : ∀ {es : List Edge} {acc : List Inf} {p : Nat × Nat}, edges acc es = some p → ∀ e, e ∈ es → Region.binds .any e = true → ∃ x, acc[e.on]? = some x
  | [], acc, p, h, e, he, _ => by simp at he
  | e0 :: es, acc, p, h, e, he, hb => by
    have h : bsel (Region.binds .any e0) (osel (edges acc es) none fun p => osel (nthI acc e0.on) none fun x =>
      some (Nat.lor p.1 (Nat.lor (Nat.shiftLeft 1 e0.on) x.cl), Nat.lor p.2 (Nat.lor x.dst x.dm))) (edges acc es) = some p := h
    rw [bsel_eq] at h
    split at h
    · obtain ⟨p', hp', h⟩ := osel_ne h (by simp)
      obtain ⟨x, hx, h⟩ := osel_ne h (by simp)
      rw [nthI_eq] at hx
      rcases List.mem_cons.1 he with rfl | he
      · exact ⟨x, hx⟩
      · exact edges_lt hp' e he hb
    · rename_i hnb
      rcases List.mem_cons.1 he with rfl | he
      · exact absurd hb hnb
      · exact edges_lt h e he hb

section
variable {P : Program} {rec : Rec} {ops : Array Oper} {xs : List Inf} {A : Nat → Ac} {S : Nat → St} {V : Nat → Value} {σ0 : Nm} {st0 : St} {w0 : World}

def Done (listed : Array Bool) (j : Nat) : Prop := listed.getD j false = true

theorem done_lt {listed : Array Bool} {j : Nat} (h : Done listed j) : j < listed.size := by
  unfold Done at h
  rcases Nat.lt_or_ge j listed.size with h' | h'
  · exact h'
  · simp [Array.getElem?_eq_none h'] at h

theorem done_getD {listed : Array Bool} {j : Nat} (hj : j < listed.size) : listed.getD j true = listed.getD j false := by
  simp [hj]

theorem done_set {listed : Array Bool} {i : Nat} (hi : i < listed.size) (k : Nat) : Done (listed.setIfInBounds i true) k ↔ Done listed k ∨ k = i := by
  unfold Done
  by_cases e : k = i
  · subst e; simp [hi]
  · rw [getD_set_ne false (Ne.symm e)]; simp [e]

theorem done_rep (n j : Nat) : ¬ Done (Array.replicate n false) j := by
  unfold Done
  simp only [Array.getD_eq_getD_getElem?, Array.getElem?_replicate]
  split <;> simp

/-- The whole region, in whatever order. -/
theorem any_ok (hrec : CodeOk P rec) (T : Tr P rec ops xs A S V) (n : Nat) (ro : Option Nat) {Q : Exit → Act → World → Prop}
    (hQ : ∀ σ' w' act', Rel σ' (S ops.size) w' → AR σ' (A ops.size) act' → Ext σ0 st0 w0 σ' (S ops.size) w' → Q .normal act' w') :
    ∀ (fuel : Nat) (listed : Array Bool) (s : Nat) (τ : Nm) (b : Ac) (act : Act) (w : World), listed.size = ops.size → (∀ j o, Done listed j → ops[j]? = some o → ∀ e, e ∈ o.after.toList → Region.binds .any e = true → Done listed e.on) →
      Inv P ops A S V σ0 st0 w0 (Done listed) s τ b act w → (List.range ops.size).countP (fun j => !listed.getD j false) ≤ fuel → wpAnyIn (Fr ro) n P .any ops Q fuel listed act w := by
  have fin : ∀ (listed : Array Bool) (s : Nat) (τ : Nm) (b : Ac) (act : Act) (w : World), (∀ j, j < ops.size → Done listed j) → listed.size = ops.size → Inv P ops A S V σ0 st0 w0 (Done listed) s τ b act w → Q .normal act w := by
    intro listed s τ b act w hall hsz h
    obtain ⟨t, h1, h2, h3⟩ := h.advMax T (ops.size - s) s (Nat.le_refl _)
    have ht : t = ops.size := by
      rcases h3 with h3 | ⟨⟨o, ho, _⟩, h4⟩
      · exact h3
      · exact absurd (hall t (op_lt ho)) h4
    subst ht
    have hcut : cut (S ops.size).next τ = τ := by
      funext nm
      unfold cut
      by_cases e : nm < (S ops.size).next
      · rw [if_pos e]
      · rw [if_neg e]
        cases hk : τ nm with
        | none => rfl
        | some k =>
          rcases h2.above nm k hk with h4 | ⟨e2, _, h4, ⟨o, ho, _⟩, _⟩
          · exact absurd h4 e
          · have := op_lt ho; omega
    have hr := h2.rel
    have hx := h2.ext
    rw [hcut] at hr hx
    refine hQ τ w act hr ?_ hx
    obtain ⟨⟨t1, t2, t3⟩, t4⟩ := h2.ar
    obtain ⟨c1, c2, c3⟩ := T.canon ops.size (Nat.le_refl _)
    obtain ⟨r1, r2, r3⟩ := h2.regs
    refine ⟨⟨by rw [c1, ← r1]; exact t1, by rw [c1, ← r1]; exact t2, fun i hi => ?_⟩, by rw [c2, ← r2]; exact t4⟩
    have heq : (regAt i).g (A ops.size).t = (regAt i).g b.t := by
      by_cases hex : ∃ (j : Nat) (o : Oper), ops[j]? = some o ∧ o.dst = some i
      · obtain ⟨j, o, hj, hd⟩ := hex
        rw [(c3 i hi).1 j o (op_lt hj) hj hd, (r3 i hi).1 j o (hall j (op_lt hj)) hj hd]
      · rw [(c3 i hi).2 (fun j o _ hj hd => hex ⟨j, o, hj, hd⟩), (r3 i hi).2 (fun j o _ hj hd => hex ⟨j, o, hj, hd⟩)]
    rw [heq]; exact t3 i hi
  have allDone : ∀ (listed : Array Bool), listed.size = ops.size → Region.ready .any ops listed = [] → ∀ j, j < ops.size → Done listed j := by
    intro listed hsz hre j
    induction j using Nat.strongRecOn with
    | _ j ih =>
      intro hj
      cases hd : listed.getD j false with
      | true => exact hd
      | false =>
        exfalso
        obtain ⟨o, ho⟩ := get_op hj
        obtain ⟨x, hx, hx2, _⟩ := T.R.inf j o ho
        have : j ∈ Region.ready .any ops listed := mem_ready.2 ⟨by rw [done_getD (by omega)]; exact hd, o, ho, fun e he hb => by
          obtain ⟨y, hy⟩ := edges_lt (infOf_ok hx2).1 e (by simpa using he) hb
          obtain ⟨hlt, _⟩ := take_at hy
          exact ih e.on hlt (by omega)⟩
        rw [hre] at this
        cases this
  intro fuel
  induction fuel with
  | zero =>
    intro listed s τ b act w hsz hcl h hc
    have hall : ∀ j, j < ops.size → Done listed j := by
      intro j hj
      have h0 : (List.range ops.size).countP (fun j => !listed.getD j false) = 0 := by omega
      rw [List.countP_eq_zero] at h0
      have := h0 j (by simpa using hj)
      simpa [Done] using this
    refine ⟨?_, fin listed s τ b act w hall hsz h⟩
    cases hre : Region.ready .any ops listed with
    | nil => rfl
    | cons j l =>
      exfalso
      have hj : j ∈ Region.ready .any ops listed := by rw [hre]; simp
      obtain ⟨h1, o, ho, _⟩ := mem_ready.1 hj
      have hj' := op_lt ho
      rw [done_getD (by omega)] at h1
      have := hall j hj'
      unfold Done at this
      rw [h1] at this; cases this
  | succ fuel ih =>
    intro listed s τ b act w hsz hcl h hc
    refine ⟨fun hre => fin listed s τ b act w (allDone listed hsz hre) hsz h, fun i hi => ?_⟩
    obtain ⟨h1, o, ho, h2⟩ := mem_ready.1 hi
    have hilt := op_lt ho
    rw [done_getD (by omega)] at h1
    obtain ⟨x, hx, _⟩ := T.R.inf i o ho
    have hD := done_set (listed := listed) (i := i) (by omega)
    refine h.step hrec T (fun j y hj hy k hk => ?_) (fun j hj => by rw [← hsz]; exact done_lt hj) ho hx (fun hd => by unfold Done at hd; rw [h1] at hd; cases hd)
      (T.R.closed hcl i x o hx ho (fun e he hb => h2 e (by simpa using he) hb)) hD n ro fun s' τ' b' act' w' hI => ?_
    · obtain ⟨oj, hoj, _⟩ := T.R.op hy
      exact T.R.closed hcl j y oj hy hoj (fun e he hb => hcl j oj hj hoj e he hb) k hk
    · refine ih _ s' τ' b' act' w' (by simpa using hsz) (fun j oj hj hoj e he hb => ?_) hI ?_
      · rw [hD] at hj ⊢
        rcases hj with hj | rfl
        · exact .inl (hcl j oj hj hoj e he hb)
        · rw [ho] at hoj; cases hoj
          exact .inl (h2 e (by simpa using he) hb)
      · have : (List.range ops.size).countP (fun j => !(listed.setIfInBounds i true).getD j false) < (List.range ops.size).countP (fun j => !listed.getD j false) := by
          refine countP_lt (fun j hj hq => ?_) ⟨i, by simpa using hilt, by simp only [h1]; rfl, ?_⟩
          · cases hd : listed.getD j false with
            | false => rfl
            | true =>
              have := (hD j).2 (.inl hd)
              unfold Done at this
              rw [this] at hq; cases hq
          · have := (hD i).2 (.inr rfl)
            unfold Done at this
            rw [this]; rfl
        omega

/-- A region keeps what is asked. -/
theorem reg_ok (hm : P.follows .mixedOrders = true) (hrec : CodeOk P rec) : RegOk P rec := by
  intro id ops draw ro a st x a' st' h σ w act ro' hr hA hro n Q hQ
  unfold evRegion at h
  cases hpl : planOf ops draw with
  | no => rw [hpl] at h; cases h
  | seq =>
    rw [hpl] at h
    have h : Ra.rec (motive := fun _ => Rc) .no (fun a st => .ok .normal a st) (seqOps P rec ops ops.toList a st) = .ok x a' st' := h
    cases hs : seqOps P rec ops ops.toList a st with
    | no => rw [hs] at h; cases h
    | ok a1 st1 =>
      rw [hs] at h
      cases h
      unfold planOf at hpl
      obtain ⟨hok, hpl⟩ := bsel_ne hpl (by simp)
      cases draw with
      | true =>
        exfalso
        have hpl : (match infs ops ops.toList [] 0 0 with | some xs => Plan.draw (xs.map fun (x : Inf) => x.cl) | none => .no) = .seq := hpl
        split at hpl <;> cases hpl
      | false => exact wpIn_region_list (seq_ok hrec (opsOk_ok hok) n ro' Q ops.toList a st a' st' (fun o ho => ho) hs σ w act hr hA hQ)
  | draw cl =>
    rw [hpl] at h
    have h : Ra.rec (motive := fun _ => Rc) .no (fun a st => .ok .normal a st) (drawOps P rec ops ops.toList cl 0 a st [] []) = .ok x a' st' := h
    cases hs : drawOps P rec ops ops.toList cl 0 a st [] [] with
    | no => rw [hs] at h; cases h
    | ok a1 st1 =>
      rw [hs] at h
      cases h
      unfold planOf at hpl
      obtain ⟨hok, hpl⟩ := bsel_ne hpl (by simp)
      cases draw with
      | false => cases hpl
      | true =>
        have hpl : (match infs ops ops.toList [] 0 0 with | some xs => Plan.draw (xs.map fun (x : Inf) => x.cl) | none => .no) = .draw cl := hpl
        split at hpl
        · rename_i xs hxs
          cases hpl
          obtain ⟨A, S, V, e1, e2, e3, e4, hF⟩ := draw_trace (ops := ops) ops.toList _ 0 a st [] [] a' st' (fun j => by simp) hs
          simp only [Nat.zero_add, Array.length_toList] at e3 e4 hF
          have T : Tr P rec ops xs A S V := ⟨infs_region hxs, opsOk_ok hok, fun k o x ho hx => hF k o x.cl (by simpa using ho) (by simp [hx])⟩
          refine wpIn_region_any hm ?_
          have hrd := hr.drew
          have hcut : cut (S 0).next σ = σ := by
            funext nm
            unfold cut
            rw [e2]
            by_cases e : nm < st.next
            · rw [if_pos e]
            · rw [if_neg e]; exact ((hr.fresh nm (by omega)).1).symm
          refine any_ok (σ0 := σ) (st0 := st) (w0 := { w with drawn := w.drawn + 1 }) hrec T n ro' (fun σ' w' act' r1 a1 x1 => ?_) ops.size (Array.replicate ops.size false) 0 σ a act _ (by simp) (fun j o hj => ?_) ?_ ?_
          · rw [e4] at r1 x1
            rw [e3] at a1
            exact hQ σ' w' act' r1 a1 ((Ext.drew σ st w).trans x1)
          · exact absurd hj (done_rep _ j)
          · have hno : ∀ j, ¬ Done (Array.replicate ops.size false) j := done_rep _
            refine ⟨fun nm k hk => ⟨Nat.lt_of_lt_of_le (hr.name_lt hk) hr.lim, hrd.bound nm k hk⟩, hA, ⟨by rw [e1], by rw [e1], fun t ht => ⟨fun j o hj => absurd hj (hno j), fun _ => by rw [e1]⟩⟩, Nat.zero_le _, fun k hk => by omega, by rw [hcut, e2]; exact hrd,
              fun e he => absurd he (hno e), fun e e' k k' he => absurd he (hno e), fun nm k hk => .inl (by rw [e2]; exact hr.name_lt hk), by rw [hcut, e2]; exact .refl _ _ _⟩
          · exact Nat.le_trans List.countP_le_length (by simp)
        · cases hpl

/-- THE TOP: a call that the interpreter follows, in every order that the model may draw. -/
theorem calls_top (hm : P.follows .mixedOrders = true) {O : Orc} (hO : OrcOk P O) {K : Nat} {f : FuncId} {args args' : List Value} {v : Value} {σ : Nm} {st st' : St} {w : World} (h : callF P (evCode P O K) f args st = .ok v st') (hr : Rel σ st w) (ha : VRL σ args args') :
    Calls P f ⟨args'⟩ w (Ends σ st w v st') := calls_ok hO (fun rec hrec => reg_ok hm hrec) h hr ha
end
end Go.Proofs.YtieclenlldjfjaaGreat.Ev

set_option autoImplicit false
set_option linter.unusedVariables false
set_option linter.unusedSimpArgs false
namespace Go.Proofs.YtieclenlldjfjaaGreat.Ev
open Go
section
variable {P : Program}

/-- Where nothing is known yet: in every world. -/
theorem Rel.start (w : World) : Rel (fun _ => none) ⟨heap0, 0⟩ w := by
  have hd : ∀ nm, ¬ Alive ⟨heap0, 0⟩ nm := by
    intro nm h
    apply h
    rw [St.obj_mk]
    by_cases hn : nm < 65536
    · unfold objAt
      rw [bsel_eq, if_neg (by rw [ble_iff]; omega)]
      exact heap0_get hn
    · exact objAt_big (by omega)
  exact ⟨fun nm h => absurd h (hd nm), fun nm nm' k k' h => absurd h (hd nm), fun nm h => ⟨rfl, hd nm⟩, (fun nm k h => by cases h), Nat.zero_le _⟩

/-- A call without arguments, in every world: what it returns; all memory that was there stays as it was. -/
theorem call0_top (hm : P.follows .mixedOrders = true) {O : Orc} (hO : OrcOk P O) {K : Nat} {f : FuncId} {v : Value} {st' : St} (h : call0 P O K f = .ok v st') (w : World) :
    Calls P f #[] w fun e w' => ∃ σ' v', e = .returned v' ∧ VR σ' v v' ∧ Rel σ' st' w' ∧ w.heap.size ≤ w'.heap.size ∧ (∀ b, b < w.heap.size → w'.heap[b]? = w.heap[b]?) ∧
      (∀ b, Own σ' st' b → w.heap.size ≤ b) ∧ w'.tape = w.tape ∧ w'.os = w.os ∧ w'.output = w.output := by
  have := calls_top hm hO h (Rel.start w) (args' := []) .nil
  intro cs
  obtain ⟨e, w', fr, ⟨σ', v', h1, h2, h3, h4⟩, rest⟩ := this cs
  have hno : ∀ b, ¬ Own (fun _ => none) ⟨heap0, 0⟩ b := fun b ⟨x, k, _, hk, _⟩ => by cases hk
  refine ⟨e, w', fr, ⟨σ', v', h1, h2, h3, h4.size, fun b hb => h4.kept b hb (hno b), fun b hb => ?_, h4.tape, h4.os, h4.output⟩, rest⟩
  rcases Nat.lt_or_ge b w.heap.size with h | h
  · exact absurd (h4.own b h hb) (hno b)
  · exact h

/-- A call that returns a truth value. -/
noncomputable def isTrue (r : Re) : Bool := Re.rec false (fun v _ => isBool v true) r

theorem call0_true (hm : P.follows .mixedOrders = true) {O : Orc} (hO : OrcOk P O) {K : Nat} {f : FuncId} (h : isTrue (call0 P O K f) = true) (w : World) :
    Calls P f #[] w fun e w' => e = .returned (.bool true) ∧ w.heap.size ≤ w'.heap.size ∧ (∀ b, b < w.heap.size → w'.heap[b]? = w.heap[b]?) ∧ w'.tape = w.tape ∧ w'.os = w.os ∧ w'.output = w.output := by
  cases hc : call0 P O K f with
  | no => rw [hc] at h; cases h
  | ok v st' =>
    rw [hc] at h
    have hv := isBool_iff.1 (show isBool v true = true from h)
    subst hv
    intro cs
    obtain ⟨e, w', fr, ⟨σ', v', h1, h2, h3, h4, h5, h6, h7, h8, h9⟩, rest⟩ := call0_top hm hO hc w cs
    have := bool_inv h2
    subst this
    exact ⟨e, w', fr, ⟨h1, h4, h5, h7, h8, h9⟩, rest⟩
end
end Go.Proofs.YtieclenlldjfjaaGreat.Ev

set_option autoImplicit false
set_option linter.unusedVariables false
set_option linter.unusedSimpArgs false
namespace Go.Proofs.YtieclenlldjfjaaGreat.Ev
open Go
section
variable {σ1 σ3 : Nm}

/-- A value whose names an elder naming knows, related anew. -/
theorem VR.re (hs : Sub σ1 σ3) (hd : ∀ nm, 65536 ≤ nm → σ3 nm = none) {v u1 : Value} (h1 : VR σ1 v u1) : ∀ {u3 : Value}, VR σ3 v u3 → VR σ1 v u3 := by
  have same : ∀ {nm k k3}, σ1 nm = some k → σ3 nm = some k3 → k3 = k := fun h h' => by rw [hs _ _ h] at h'; cases h'; rfl
  induction h1 with
  | bool b => intro u3 h3; cases h3; exact .bool b
  | int k n => intro u3 h3; cases h3; exact .int k n
  | string s => intro u3 h3; cases h3; exact .string s
  | nilptr => intro u3 h3; cases h3; exact .nilptr
  | ptr nm off k hk =>
    intro u3 h3
    obtain ⟨k3, hk3, rfl⟩ := ptr_inv h3
    have := same hk hk3; subst this
    exact .ptr nm off k3 hk
  | nilslice => intro u3 h3; cases h3; exact .nilslice
  | slice nm off n c c' k hk e1 e2 e3 =>
    intro u3 h3
    generalize hv : Value.slice (some ⟨nm, off, none⟩) n c = u at h3
    cases h3 with
    | slice nm2 off2 n2 c2 c3 k3 hk3 f1 f2 f3 =>
      cases hv
      have := same hk hk3; subst this
      exact .slice nm off n c c3 k3 hk f1 f2 f3
    | void a c3 =>
      simp only [voidS, Value.slice.injEq, Option.some.injEq, Addr.mk.injEq] at hv
      obtain ⟨⟨rfl, rfl, _⟩, rfl, rfl⟩ := hv
      exact .void a c3
    | _ => cases hv
  | void a c' =>
    intro u3 h3
    generalize hv : voidS = u at h3
    cases h3 with
    | slice nm2 off2 n2 c2 c3 k3 hk3 f1 f2 f3 =>
      simp only [voidS, Value.slice.injEq, Option.some.injEq, Addr.mk.injEq] at hv
      obtain ⟨⟨rfl, _⟩, _⟩ := hv
      rw [hd voidNm (by simp [voidNm])] at hk3
      cases hk3
    | void a c3 => exact .void a c3
    | _ => cases hv
  | nilmap => intro u3 h3; cases h3; exact .nilmap
  | map nm k hk =>
    intro u3 h3
    cases h3 with
    | map nm2 k3 hk3 => have := same hk hk3; subst this; exact .map nm k3 hk
  | func f as as' bs bs' e1 e2 e3 e4 ih1 ih2 =>
    intro u3 h3
    cases h3 with
    | func f2 as2 as3 bs2 bs3 f1 f2 f3 f4 =>
      refine .func f as as3 bs bs3 f1 (fun i u v hu hv => ?_) f3 (fun i u v hu hv => ?_)
      · obtain ⟨x, hx, _⟩ := VRL.get (σ := σ1) ⟨e1, e2⟩ hu
        exact ih1 i u x hu hx (f2 i u v hu hv)
      · obtain ⟨x, hx, _⟩ := VRL.get (σ := σ1) ⟨e3, e4⟩ hu
        exact ih2 i u x hu hx (f4 i u v hu hv)
  | yield l k hk =>
    intro u3 h3
    cases h3 with
    | yield l2 k3 hk3 => have := same hk hk3; subst this; exact .yield l k3 hk
  | nilFunc => intro u3 h3; cases h3; exact .nilFunc
  | iface t u v hu ih =>
    intro u3 h3
    cases h3 with
    | iface t2 u2 v2 h => exact .iface t u v2 (ih h)
  | nilIface => intro u3 h3; cases h3; exact .nilIface
  | agg as as' e0 e1 e2 ih =>
    intro u3 h3
    cases h3 with
    | agg as2 as3 f0 f1 f2 =>
      refine .agg as as3 e0 f1 fun i u v hu hv => ?_
      obtain ⟨x, hx, _⟩ := VRL.get (σ := σ1) ⟨e1, e2⟩ hu
      exact ih i u x hu hx (f2 i u v hu hv)
  | tuple as as' e1 e2 ih =>
    intro u3 h3
    cases h3 with
    | tuple as2 as3 f1 f2 =>
      refine .tuple as as3 f1 fun i u v hu hv => ?_
      obtain ⟨x, hx, _⟩ := VRL.get (σ := σ1) ⟨e1, e2⟩ hu
      exact ih i u x hu hx (f2 i u v hu hv)

theorem VRL.re (hs : Sub σ1 σ3) (hd : ∀ nm, 65536 ≤ nm → σ3 nm = none) {as bs cs : List Value} (h1 : VRL σ1 as bs) (h3 : VRL σ3 as cs) : VRL σ1 as cs :=
  ⟨h3.1, fun i u v hu hv => by obtain ⟨x, _, hx⟩ := h1.get hu; exact hx.re hs hd (h3.2 i u v hu hv)⟩

theorem OR.re (hs : Sub σ1 σ3) (hd : ∀ nm, 65536 ≤ nm → σ3 nm = none) {k : Blk} {w1 w3 : World} {o : AObj} (h1 : OR σ1 k w1 o) (h3 : OR σ3 k w3 o) : OR σ1 k w3 o := by
  cases o with
  | cells d n es ex t =>
    obtain ⟨_, _, _, _, _, c1, e1, _, _, _, g⟩ := h1
    obtain ⟨a1, a2, a3, a4, a5, c, e, a6, a7, a8, a9⟩ := h3
    exact ⟨a1, a2, a3, a4, a5, c, e, a6, a7, a8, g.re hs hd a9⟩
  | map es clock =>
    obtain ⟨es1, _, b1, b2⟩ := h1
    obtain ⟨es3, a1, a2, a3⟩ := h3
    refine ⟨es3, a1, a2, fun i e e' he he' => ?_⟩
    have hi : i < es1.length := by
      rw [← b1]; exact (List.getElem?_eq_some_iff.1 he).1
    obtain ⟨q1, q2, q3⟩ := b2 i e es1[i] he (by simp [hi])
    obtain ⟨r1, r2, r3⟩ := a3 i e e' he he'
    exact ⟨q1.re hs hd r1, q2.re hs hd r2, r3⟩
  | loop s p n t ps as bo df =>
    obtain ⟨l1, _, _, _, b3, _, _, _, k1, b7, _⟩ := h1
    obtain ⟨l3, a0, a1, a2, a3, a4, a5, a6, k3, a7, a8⟩ := h3
    have : k3 = k1 := by rw [hs _ _ b7] at a7; cases a7; rfl
    subst this
    exact ⟨l3, a0, a1, a2, ⟨a3.1, a3.2.1, fun i hi => (b3.2.2 i hi).re hs hd (a3.2.2 i hi)⟩, a4, a5, a6, k3, b7, a8⟩
  | deferred => exact h3
  | dead => trivial

/-- An elder state, in a later world that has kept its objects. -/
theorem Rel.restrict {st1 st3 : St} {w1 w3 : World} (h1 : Rel σ1 st1 w1) (h3 : Rel σ3 st3 w3) (hs : Sub σ1 σ3) (hobj : ∀ nm, Alive st1 nm → st3.obj nm = st1.obj nm) : Rel σ1 st1 w3 := by
  have hd : ∀ nm, 65536 ≤ nm → σ3 nm = none := fun nm hn => (h3.fresh nm (Nat.le_trans h3.lim hn)).1
  refine ⟨fun nm ha => ?_, h1.apart, h1.fresh, fun nm k hk => h3.bound nm k (hs _ _ hk), h1.lim⟩
  obtain ⟨k, e1, e2⟩ := h1.obj nm ha
  have ha3 : Alive st3 nm := by unfold Alive; rw [hobj nm ha]; exact ha
  obtain ⟨k3, f1, f2⟩ := h3.obj nm ha3
  rw [hs _ _ e1] at f1; cases f1
  rw [hobj nm ha] at f2
  exact ⟨k, e1, e2.re hs hd f2⟩
end
end Go.Proofs.YtieclenlldjfjaaGreat.Ev

set_option autoImplicit false
set_option linter.unusedVariables false
set_option linter.unusedSimpArgs false
namespace Go.Proofs.YtieclenlldjfjaaGreat.Ev
open Go

noncomputable section
/-! ## Calls whose ends are known -/
def vEqL (f : Value → Value → Bool) : List Value → List Value → Bool :=
  fun as => List.rec (fun bs => List.rec true (fun _ _ _ => false) bs) (fun a _ ih bs => List.rec false (fun b bs' _ => bsel (f a b) (ih bs') false) bs) as

def vEq1 (f : Value → Value → Bool) (a b : Value) : Bool :=
  match a, b with
  | .agg as, .agg bs => vEqL f as.toList bs.toList
  | .tuple as, .tuple bs => vEqL f as.toList bs.toList
  | .iface t v, .iface u w => bsel (Nat.beq t u) (f v w) false
  | a, b => sameV a b

def vEq (d : Nat) : Value → Value → Bool := Nat.rec sameV (fun _ ih => vEq1 ih) d

theorem vEqL_eq {f : Value → Value → Bool} (hf : ∀ a b, f a b = true → a = b) : ∀ {as bs : List Value}, vEqL f as bs = true → as = bs
  | [], [], _ => rfl
  | [], _ :: _, h => by cases h
  | _ :: _, [], h => by cases h
  | a :: as, b :: bs, h => by
    have h : bsel (f a b) (vEqL f as bs) false = true := h
    obtain ⟨h1, h2⟩ := bsel_ne h (by simp)
    rw [hf a b h1, vEqL_eq hf h2]

theorem vEq1_eq {f : Value → Value → Bool} (hf : ∀ a b, f a b = true → a = b) {a b : Value} (h : vEq1 f a b = true) : a = b := by
  unfold vEq1 at h
  split at h
  · exact congrArg _ (Array.ext' (vEqL_eq hf h))
  · exact congrArg _ (Array.ext' (vEqL_eq hf h))
  · obtain ⟨h1, h2⟩ := bsel_ne h (by simp)
    rw [beq_iff.1 h1, hf _ _ h2]
  · exact sameV_eq h

theorem vEq_eq : ∀ (d : Nat) {a b : Value}, vEq d a b = true → a = b
  | 0, _, _, h => sameV_eq h
  | d + 1, _, _, h => vEq1_eq (fun _ _ h => vEq_eq d h) h

def btEq (t : Bt) : Bt → Bool :=
  Bt.rec (fun a t => Bt.rec (fun b => vEq 3 a b) (fun _ _ _ _ => false) t) (fun _ _ il ir t => Bt.rec (fun _ => false) (fun l r _ _ => bsel (il l) (ir r) false) t) t

theorem btEq_eq : ∀ {t u : Bt}, btEq t u = true → t = u
  | .leaf a, .leaf b, h => congrArg _ (vEq_eq 3 h)
  | .leaf _, .node _ _, h => by cases h
  | .node _ _, .leaf _, h => by cases h
  | .node l r, .node l' r', h => by
    have h : bsel (btEq l l') (btEq r r') false = true := h
    obtain ⟨h1, h2⟩ := bsel_ne h (by simp)
    rw [btEq_eq h1, btEq_eq h2]

def entEq (a b : MapEntry) : Bool := bsel (vEq 3 a.key b.key) (bsel (vEq 3 a.val b.val) (Nat.beq a.born b.born) false) false

theorem entEq_eq {a b : MapEntry} (h : entEq a b = true) : a = b := by
  obtain ⟨h1, h⟩ := bsel_ne h (by simp)
  obtain ⟨h2, h3⟩ := bsel_ne h (by simp)
  cases a; cases b
  simp only [MapEntry.mk.injEq]
  exact ⟨vEq_eq 3 h1, vEq_eq 3 h2, beq_iff.1 h3⟩

def entsEq : List MapEntry → List MapEntry → Bool :=
  fun as => List.rec (fun bs => List.rec true (fun _ _ _ => false) bs) (fun a _ ih bs => List.rec false (fun b bs' _ => bsel (entEq a b) (ih bs') false) bs) as

theorem entsEq_eq : ∀ {as bs : List MapEntry}, entsEq as bs = true → as = bs
  | [], [], _ => rfl
  | [], _ :: _, h => by cases h
  | _ :: _, [], h => by cases h
  | a :: as, b :: bs, h => by
    have h : bsel (entEq a b) (entsEq as bs) false = true := h
    obtain ⟨h1, h2⟩ := bsel_ne h (by simp)
    rw [entEq_eq h1, entsEq_eq h2]

/-- Two objects that are the same, and alive. -/
def objEq (a b : AObj) : Bool :=
  match a, b with
  | .cells d n es ex t, .cells d' n' es' ex' t' => bsel (Nat.beq d d') (bsel (Nat.beq n n') (bsel (Nat.beq es es') (bsel (ex == ex') (btEq t t') false) false) false) false
  | .map es c, .map es' c' => bsel (Nat.beq c c') (entsEq es es') false
  | _, _ => false

theorem objEq_eq {a b : AObj} (h : objEq a b = true) : a = b ∧ b ≠ .dead := by
  unfold objEq at h
  split at h
  · obtain ⟨h1, h⟩ := bsel_ne h (by simp)
    obtain ⟨h2, h⟩ := bsel_ne h (by simp)
    obtain ⟨h3, h⟩ := bsel_ne h (by simp)
    obtain ⟨h4, h5⟩ := bsel_ne h (by simp)
    have h4 := eq_of_beq h4
    rw [beq_iff.1 h1, beq_iff.1 h2, beq_iff.1 h3, h4, btEq_eq h5]
    exact ⟨rfl, by simp⟩
  · obtain ⟨h1, h2⟩ := bsel_ne h (by simp)
    rw [beq_iff.1 h1, entsEq_eq h2]
    exact ⟨rfl, by simp⟩
  · cases h

/-! ## Values and objects with other names -/
def renL (f : Value → Option Value) : List Value → Option (List Value) :=
  fun xs => List.rec (some []) (fun x _ ih => osel (f x) none fun y => osel ih none fun ys => some (y :: ys)) xs

def ren1 (r : Nat → Option Nat) (f : Value → Option Value) (v : Value) : Option Value :=
  match v with
  | .pointer (some ⟨b, o, none⟩) => osel (r b) none fun b' => some (.pointer (some ⟨b', o, none⟩))
  | .slice (some ⟨b, o, none⟩) n c => osel (r b) none fun b' => some (.slice (some ⟨b', o, none⟩) n c)
  | .map (some b) => osel (r b) none fun b' => some (.map (some b'))
  | .func (.func g) as bs => osel (renL f as.toList) none fun as' => osel (renL f bs.toList) none fun bs' => some (.func (.func g) ⟨as'⟩ ⟨bs'⟩)
  | .iface t u => osel (f u) none fun u' => some (.iface t u')
  | .agg cs => osel (renL f cs.toList) none fun cs' => some (.agg ⟨cs'⟩)
  | .tuple cs => osel (renL f cs.toList) none fun cs' => some (.tuple ⟨cs'⟩)
  | v => bsel (flat v) (some v) none

def renV (r : Nat → Option Nat) (d : Nat) : Value → Option Value := Nat.rec (fun v => bsel (flat v) (some v) none) (fun _ ih => ren1 r ih) d

def renE (f : Value → Option Value) : List MapEntry → Option (List MapEntry) :=
  fun xs => List.rec (some []) (fun x _ ih => osel (f x.key) none fun k => osel (f x.val) none fun v => osel ih none fun ys => some ({ key := k, val := v, born := x.born } :: ys)) xs

def renO (f : Value → Option Value) (o : AObj) : Option AObj :=
  match o with
  | .cells d n es ex t => osel (renL f (Bt.sub t (half d) 0 n [])) none fun xs => bsel (Nat.ble n (Nat.pow 2 d)) (some (.cells d n es ex (Bt.ofL d xs))) none
  | .map es c => osel (renE f es) none fun es' => some (.map es' c)
  | _ => none

/-- Two namings that say the same of what r renames. -/
def RenOk (r : Nat → Option Nat) (σ τ : Nm) : Prop := ∀ nm nm' k, r nm = some nm' → σ nm = some k → τ nm' = some k
def RenF (f : Value → Option Value) (σ τ : Nm) : Prop := ∀ v u v', f v = some u → VR σ v v' → VR τ u v'

theorem renL_ok {f : Value → Option Value} {σ τ : Nm} (hf : RenF f σ τ) : ∀ {xs ys zs : List Value}, renL f xs = some ys → VRL σ xs zs → VRL τ ys zs
  | [], ys, zs, h, hv => by cases h; have := hv.nil_inv; subst this; exact .nil
  | x :: xs, ys, zs, h, hv => by
    have h : (osel (f x) none fun y => osel (renL f xs) none fun ys => some (y :: ys)) = some ys := h
    obtain ⟨y, h1, h⟩ := osel_ne h (by simp)
    obtain ⟨ys', h2, h⟩ := osel_ne h (by simp)
    cases h
    obtain ⟨z, zs', rfl, q1, q2⟩ := hv.cons_inv
    exact .cons (hf x y z h1 q1) (renL_ok hf h2 q2)

theorem renL_len {f : Value → Option Value} : ∀ {xs ys : List Value}, renL f xs = some ys → ys.length = xs.length
  | [], ys, h => by cases h; rfl
  | x :: xs, ys, h => by
    have h : (osel (f x) none fun y => osel (renL f xs) none fun ys => some (y :: ys)) = some ys := h
    obtain ⟨y, h1, h⟩ := osel_ne h (by simp)
    obtain ⟨ys', h2, h⟩ := osel_ne h (by simp)
    cases h
    simp [renL_len h2]

theorem ones {σ : Nm} {xs zs : List Value} (h : VRL σ xs zs) (h1 : ∀ u, u ∈ xs → u.oneCell' = true) : ∀ z, z ∈ zs → z.oneCell' = true := by
  intro z hz
  obtain ⟨i, hi⟩ := List.mem_iff_getElem?.1 hz
  have : i < xs.length := by rw [h.1]; exact (List.getElem?_eq_some_iff.1 hi).1
  have hx : xs[i]? = some xs[i] := by simp [this]
  rw [← (h.2 i _ z hx hi).one]
  exact h1 _ (by simp)

theorem ones' {σ : Nm} {xs zs : List Value} (h : VRL σ xs zs) (h1 : ∀ z, z ∈ zs → z.oneCell' = true) : ∀ u, u ∈ xs → u.oneCell' = true := by
  intro u hu
  obtain ⟨i, hi⟩ := List.mem_iff_getElem?.1 hu
  obtain ⟨z, hz, hr⟩ := h.get hi
  rw [hr.one]
  exact h1 z (List.mem_of_getElem? hz)

theorem renV_flat {σ τ : Nm} {v u v' : Value} (h : (bsel (flat v) (some v) none) = some u) (hv : VR σ v v') : VR τ u v' := by
  obtain ⟨hf, h⟩ := bsel_ne h (by simp)
  cases h
  cases hv with
  | bool b => exact .bool b
  | int k n => exact .int k n
  | string s => exact .string s
  | nilptr => exact .nilptr
  | nilslice => exact .nilslice
  | nilmap => exact .nilmap
  | nilFunc => exact .nilFunc
  | nilIface => exact .nilIface
  | _ => cases hf

theorem ren1_ok {r : Nat → Option Nat} {f : Value → Option Value} {σ τ : Nm} (hr : RenOk r σ τ) (hv0 : r voidNm = none) (hf : RenF f σ τ) : RenF (ren1 r f) σ τ := by
  intro v u v' h hv
  cases hv with
  | bool b => exact renV_flat (σ := σ) (show (bsel (flat (.bool b)) (some (.bool b)) none) = some u from h) (.bool b)
  | int k n => exact renV_flat (σ := σ) (show (bsel (flat (.int k n)) (some (.int k n)) none) = some u from h) (.int k n)
  | string s => exact renV_flat (σ := σ) (show (bsel (flat (.string s)) (some (.string s)) none) = some u from h) (.string s)
  | nilptr => exact renV_flat (σ := σ) (show (bsel (flat (.pointer none)) (some (.pointer none)) none) = some u from h) .nilptr
  | nilslice => exact renV_flat (σ := σ) (show (bsel (flat (.slice none 0 0)) (some (.slice none 0 0)) none) = some u from h) .nilslice
  | nilmap => exact renV_flat (σ := σ) (show (bsel (flat (.map none)) (some (.map none)) none) = some u from h) .nilmap
  | nilFunc => exact renV_flat (σ := σ) (show (bsel (flat (.nilFunc)) (some (.nilFunc)) none) = some u from h) .nilFunc
  | nilIface => exact renV_flat (σ := σ) (show (bsel (flat (.nilIface)) (some (.nilIface)) none) = some u from h) .nilIface
  | ptr nm off k hk =>
    have h : (osel (r nm) none fun b' => some (.pointer (some ⟨b', off, none⟩))) = some u := h
    obtain ⟨b, h1, h⟩ := osel_ne h (by simp)
    cases h
    exact .ptr b off k (hr _ _ _ h1 hk)
  | slice nm off n c c' k hk e1 e2 e3 =>
    have h : (osel (r nm) none fun b' => some (.slice (some ⟨b', off, none⟩) n c)) = some u := h
    obtain ⟨b, h1, h⟩ := osel_ne h (by simp)
    cases h
    exact .slice b off n c c' k (hr _ _ _ h1 hk) e1 e2 e3
  | void a c' =>
    have h : (osel (r voidNm) none fun b' => some (.slice (some ⟨b', 0, none⟩) 0 0)) = some u := h
    rw [hv0] at h
    cases h
  | map nm k hk =>
    have h : (osel (r nm) none fun b' => some (.map (some b'))) = some u := h
    obtain ⟨b, h1, h⟩ := osel_ne h (by simp)
    cases h
    exact .map b k (hr _ _ _ h1 hk)
  | func g as as' bs bs' e1 e2 e3 e4 =>
    have h : (osel (renL f as) none fun as' => osel (renL f bs) none fun bs' => some (Value.func (.func g) ⟨as'⟩ ⟨bs'⟩)) = some u := h
    obtain ⟨a, h1, h⟩ := osel_ne h (by simp)
    obtain ⟨b, h2, h⟩ := osel_ne h (by simp)
    cases h
    have q1 := renL_ok hf h1 (show VRL σ as as' from ⟨e1, e2⟩)
    have q2 := renL_ok hf h2 (show VRL σ bs bs' from ⟨e3, e4⟩)
    exact .func g a as' b bs' q1.1 q1.2 q2.1 q2.2
  | yield l k hk => cases h
  | iface t x x' hx =>
    have h : (osel (f x) none fun u' => some (.iface t u')) = some u := h
    obtain ⟨y, h1, h⟩ := osel_ne h (by simp)
    cases h
    exact .iface t y x' (hf _ _ _ h1 hx)
  | agg as as' e0 e1 e2 =>
    have h : (osel (renL f as) none fun cs' => some (.agg ⟨cs'⟩)) = some u := h
    obtain ⟨a, h1, h⟩ := osel_ne h (by simp)
    cases h
    have q := renL_ok hf h1 (show VRL σ as as' from ⟨e1, e2⟩)
    exact .agg a as' (ones' q (ones ⟨e1, e2⟩ e0)) q.1 q.2
  | tuple as as' e1 e2 =>
    have h : (osel (renL f as) none fun cs' => some (.tuple ⟨cs'⟩)) = some u := h
    obtain ⟨a, h1, h⟩ := osel_ne h (by simp)
    cases h
    have q := renL_ok hf h1 (show VRL σ as as' from ⟨e1, e2⟩)
    exact .tuple a as' q.1 q.2

theorem renV_ok {r : Nat → Option Nat} {σ τ : Nm} (hr : RenOk r σ τ) (hv0 : r voidNm = none) : ∀ d, RenF (renV r d) σ τ
  | 0 => fun v u v' h hv => renV_flat h hv
  | d + 1 => ren1_ok hr hv0 (renV_ok hr hv0 d)

theorem renE_ok {f : Value → Option Value} {σ τ : Nm} (hf : RenF f σ τ) : ∀ {xs ys zs : List MapEntry}, renE f xs = some ys → ERL σ xs zs → ERL τ ys zs
  | [], ys, zs, h, hv => by cases h; exact ⟨hv.1, fun i e e' he => by simp at he⟩
  | x :: xs, ys, zs, h, hv => by
    have h : (osel (f x.key) none fun k => osel (f x.val) none fun v => osel (renE f xs) none fun ys => some ({ key := k, val := v, born := x.born } :: ys)) = some ys := h
    obtain ⟨k, h1, h⟩ := osel_ne h (by simp)
    obtain ⟨v, h2, h⟩ := osel_ne h (by simp)
    obtain ⟨ys', h3, h⟩ := osel_ne h (by simp)
    cases h
    cases zs with
    | nil => have := hv.1; simp at this
    | cons z zs =>
      obtain ⟨q1, q2, q3⟩ := hv.2 0 x z rfl rfl
      have ih := renE_ok hf h3 (zs := zs) ⟨by have := hv.1; simpa using this, fun i e e' he he' => hv.2 (i + 1) e e' (by simpa using he) (by simpa using he')⟩
      refine ⟨by simp [ih.1], fun i e e' he he' => ?_⟩
      cases i with
      | zero => simp at he he'; subst he; subst he'; exact ⟨hf _ _ _ h1 q1, hf _ _ _ h2 q2, q3⟩
      | succ i => exact ih.2 i e e' (by simpa using he) (by simpa using he')

theorem renO_ok {f : Value → Option Value} {σ τ : Nm} (hf : RenF f σ τ) {k : Blk} {w : World} {o u : AObj} (h : renO f o = some u) (ho : OR σ k w o) : OR τ k w u := by
  cases o with
  | cells d n es ex t =>
    have h : (osel (renL f (Bt.sub t (half d) 0 n [])) none fun xs => bsel (Nat.ble n (Nat.pow 2 d)) (some (.cells d n es ex (Bt.ofL d xs))) none) = some u := h
    obtain ⟨xs, h1, h⟩ := osel_ne h (by simp)
    obtain ⟨hn, h⟩ := bsel_ne h (by simp)
    cases h
    have hn : n ≤ 2 ^ d := ble_iff.1 hn
    obtain ⟨e1, e2, e3, e4, e5, c, e, e6, e7, e8, e9⟩ := ho
    rw [Bt.sub_eq e3, List.append_nil, List.drop_zero, Nat.sub_zero] at h1
    have hl := renL_len h1
    have hlen : (t.leaves.take n).length = n := by rw [List.length_take, Bt.perf_len e3]; omega
    have q := renL_ok hf h1 e9
    obtain ⟨p1, p2⟩ := Bt.ofL_perf d xs
    have et : (Bt.ofL d xs).leaves.take n = xs := by
      apply List.ext_getElem?
      intro i
      rw [List.getElem?_take]
      split
      · rename_i hi
        exact p2 i (by omega) (by omega)
      · rename_i hi
        rw [List.getElem?_eq_none (by omega)]
    refine ⟨e1, e2, p1, e4, ?_, c, e, e6, e7, e8, ?_⟩
    · rw [et]; exact ones' q (ones e9 e5)
    · rw [et]; exact q
  | map es c =>
    have h : (osel (renE f es) none fun es' => some (.map es' c)) = some u := h
    obtain ⟨es', h1, h⟩ := osel_ne h (by simp)
    cases h
    obtain ⟨es2, q1, q2⟩ := ho
    exact ⟨es2, q1, renE_ok hf h1 q2⟩
  | _ => cases h

theorem renO_alive {f : Value → Option Value} {o u : AObj} (h : renO f o = some u) : u ≠ .dead ∧ o ≠ .dead := by
  cases o with
  | cells d n es ex t =>
    have h : (osel (renL f (Bt.sub t (half d) 0 n [])) none fun xs => bsel (Nat.ble n (Nat.pow 2 d)) (some (AObj.cells d n es ex (Bt.ofL d xs))) none) = some u := h
    obtain ⟨xs, h1, h⟩ := osel_ne h (by simp)
    obtain ⟨hn, h⟩ := bsel_ne h (by simp)
    cases h
    simp
  | map es c =>
    have h : (osel (renE f es) none fun es' => some (AObj.map es' c)) = some u := h
    obtain ⟨es', h1, h⟩ := osel_ne h (by simp)
    cases h
    simp
  | _ => cases h

/-! ## Calls whose ends are known -/
/-- What is known of one call: its function and arguments; the objects that it looks at, and a bound of their names; what it yields, and the objects that it makes. -/
structure Known where
  f : FuncId
  args : List Value
  old : List (Nat × AObj)
  base : Nat
  v : Value
  new : List (Nat × AObj)

def layL (h : Heap) (l : List (Nat × AObj)) : Heap := List.rec h (fun p _ ih => putAt p.1 ih p.2) l
def allP (f : Nat → AObj → Bool) (l : List (Nat × AObj)) : Bool := List.rec true (fun p _ ih => bsel (f p.1 p.2) ih false) l
def hasP (l : List (Nat × AObj)) (nm : Nat) : Bool := List.rec false (fun p _ ih => bsel (Nat.beq p.1 nm) true ih) l
/-- Where a new object goes: from i on. -/
def newAt (l : List (Nat × AObj)) (nm : Nat) : Nat → Option Nat := List.rec (fun _ => none) (fun p _ ih i => bsel (Nat.beq p.1 nm) (some i) (ih (Nat.succ i))) l
def renAt (old new : List (Nat × AObj)) (n nm : Nat) : Option Nat := bsel (hasP old nm) (some nm) (newAt new nm n)
def okE (o : Option Value) (v : Value) : Bool := osel o false fun u => vEq 3 u v

theorem allP_eq {f : Nat → AObj → Bool} : ∀ {l : List (Nat × AObj)}, allP f l = true → ∀ p, p ∈ l → f p.1 p.2 = true
  | [], _, p, hp => by simp at hp
  | q :: l, h, p, hp => by
    have h : bsel (f q.1 q.2) (allP f l) false = true := h
    obtain ⟨h1, h2⟩ := bsel_ne h (by simp)
    rcases List.mem_cons.1 hp with rfl | hp
    · exact h1
    · exact allP_eq h2 p hp

theorem hasP_eq {nm : Nat} : ∀ {l : List (Nat × AObj)}, hasP l nm = true ↔ ∃ p, p ∈ l ∧ p.1 = nm
  | [] => by simp [hasP]
  | q :: l => by
    have e : hasP (q :: l) nm = bsel (Nat.beq q.1 nm) true (hasP l nm) := rfl
    rw [e, bsel_eq]
    have ih := hasP_eq (nm := nm) (l := l)
    by_cases hq : q.1 = nm
    · rw [if_pos (beq_iff.2 hq)]
      simp [hq]
    · rw [if_neg (fun h => hq (beq_iff.1 h)), ih]
      simp [hq]

theorem newAt_eq {nm j : Nat} : ∀ {l : List (Nat × AObj)} {i : Nat}, newAt l nm i = some j → ∃ m o, j = i + m ∧ l[m]? = some (nm, o)
  | [], i, h => by cases h
  | q :: l, i, h => by
    have h : bsel (Nat.beq q.1 nm) (some i) (newAt l nm (i + 1)) = some j := h
    rw [bsel_eq] at h
    split at h
    · rename_i hq
      cases h
      have := beq_iff.1 hq
      exact ⟨0, q.2, rfl, by rw [← this]; rfl⟩
    · obtain ⟨m, o, h1, h2⟩ := newAt_eq h
      exact ⟨m + 1, o, by omega, h2⟩

theorem layL_obj {h : Heap} {nm : Nat} : ∀ {l : List (Nat × AObj)}, (∀ p, p ∈ l → p.1 < 65536) → (∃ p, p ∈ l ∧ p.1 = nm ∧ objAt nm (layL h l) = p.2) ∨ ((∀ p, p ∈ l → p.1 ≠ nm) ∧ objAt nm (layL h l) = objAt nm h)
  | [], _ => .inr ⟨fun p hp => by simp at hp, rfl⟩
  | q :: l, hl => by
    have he : objAt nm (layL h (q :: l)) = if nm = q.1 then q.2 else objAt nm (layL h l) := objAt_put (hl q (by simp))
    by_cases e : nm = q.1
    · exact .inl ⟨q, by simp, e.symm, by rw [he, if_pos e]⟩
    · rw [he, if_neg e]
      rcases layL_obj (h := h) (nm := nm) (l := l) (fun p hp => hl p (by simp [hp])) with ⟨p, h1, h2, h3⟩ | ⟨h1, h2⟩
      · exact .inl ⟨p, by simp [h1], h2, h3⟩
      · refine .inr ⟨fun p hp => ?_, h2⟩
        rcases List.mem_cons.1 hp with rfl | hp
        · exact fun h => e h.symm
        · exact h1 p hp

/-- The new objects, renamed, from a name on. -/
def layN (f : Value → Option Value) (l : List (Nat × AObj)) : Nat → Heap → Option St :=
  List.rec (fun n h => some ⟨h, n⟩) (fun p _ ih n h => bsel (Nat.ble 65536 n) none (osel (renO f p.2) none fun o => ih (Nat.succ n) (putAt n h o))) l

theorem layN_eq {f : Value → Option Value} : ∀ {l : List (Nat × AObj)} {n : Nat} {h : Heap} {st : St}, layN f l n h = some st →
    st.next = n + l.length ∧ (l = [] ∨ st.next ≤ 65536) ∧ (∀ nm, nm < n → st.obj nm = objAt nm h) ∧ (∀ nm, n + l.length ≤ nm → st.obj nm = objAt nm h) ∧ ∀ (i : Nat) (p : Nat × AObj), l[i]? = some p → ∃ o, renO f p.2 = some o ∧ st.obj (n + i) = o
  | [], n, h, st, e => by
    have e : some (St.mk h n) = some st := e
    cases e
    exact ⟨rfl, .inl rfl, fun nm _ => rfl, fun nm _ => rfl, fun i p hp => by simp at hp⟩
  | q :: l, n, h, st, e => by
    have e : bsel (Nat.ble 65536 n) none (osel (renO f q.2) none fun o => layN f l (n + 1) (putAt n h o)) = some st := e
    cases hb : Nat.ble 65536 n with
    | true => rw [hb] at e; cases e
    | false =>
      rw [hb, bsel_false] at e
      have hn := ble_false hb
      obtain ⟨o, h1, e⟩ := osel_ne e (by simp)
      obtain ⟨g1, g2, g3, g4, g5⟩ := layN_eq e
      have hlen : (q :: l).length = l.length + 1 := rfl
      refine ⟨by rw [g1, hlen]; omega, .inr ?_, fun nm hnm => ?_, fun nm hnm => ?_, fun i p hp => ?_⟩
      · rcases g2 with rfl | g2
        · rw [g1]; simp; omega
        · exact g2
      · rw [g3 nm (by omega), objAt_put hn, if_neg (by omega)]
      · rw [g4 nm (by rw [hlen] at hnm; omega), objAt_put hn, if_neg (by rw [hlen] at hnm; omega)]
      · cases i with
        | zero =>
          simp at hp
          subst hp
          exact ⟨o, h1, by rw [Nat.add_zero, g3 n (by omega), objAt_put hn, if_pos rfl]⟩
        | succ i =>
          obtain ⟨o', q1, q2⟩ := g5 i p (by simpa using hp)
          exact ⟨o', q1, by rw [← q2]; congr 1; omega⟩

namespace Known
variable (k : Known)
def st : St := ⟨layL heap0 k.old, k.base⟩

def fits (args : List Value) (st : St) : Bool := St.rec (fun h n => bsel (vEqL (vEq 3) args k.args) (allP (fun nm o => objEq (objAt nm h) o) k.old) false) st
def ren (n : Nat) : Value → Option Value := renV (renAt k.old k.new n) 3
def after (st : St) : Re := St.rec (fun h n => osel (layN (k.ren n) k.new n h) .no fun st' => osel (k.ren n k.v) .no fun v => .ok v st') st
def «at» : Orc := fun f args st => bsel (Nat.beq f k.f) (bsel (k.fits args st) (k.after st) .no) .no

/-- Nothing else is named in what it looks at. -/
def closedV (v : Value) : Bool := okE (renV (fun nm => bsel (hasP k.old nm) (some nm) none) 3 v) v
def closedL (vs : List Value) : Bool := List.rec true (fun v _ ih => bsel (k.closedV v) ih false) vs
def fresh (l : List (Nat × AObj)) : Bool := List.rec true (fun p l' ih => bsel (hasP l' p.1) false ih) l
def formed : Bool := bsel (Nat.ble k.base 65536) (bsel (allP (fun nm _ => Nat.ble (Nat.succ nm) k.base) k.old) (bsel (k.closedL k.args) (fresh k.new) false) false) false
def endOk (st2 : St) : Bool := St.rec (fun h _ => bsel (allP (fun nm o => objEq (objAt nm h) o) k.old)
  (allP (fun nm o => bsel (Nat.ble k.base nm) (objEq (objAt nm h) o) false) k.new) false) st2
def atEnd (r : Re) : Bool := Re.rec false (fun v st2 => bsel (vEq 3 v k.v) (k.endOk st2) false) r
def isRow (o : AObj) : Bool := match o with | .cells d n _ _ t => k.closedL (Bt.sub t (half d) 0 n []) | .map .. => false | _ => false
def rows : Bool := allP (fun _ o => k.isRow o) k.old
/-- The call was followed. -/
def run (P : Program) (O : Orc) (K : Nat) : Bool := bsel k.formed (bsel k.rows (k.atEnd (callF P (evCode P O K) k.f k.args k.st)) false) false
end Known

theorem fits_eq {k : Known} {args : List Value} {st : St} (h : k.fits args st = true) : args = k.args ∧ ∀ p, p ∈ k.old → st.obj p.1 = p.2 ∧ p.2 ≠ .dead := by
  obtain ⟨hp, n⟩ := st
  have h : bsel (vEqL (vEq 3) args k.args) (allP (fun nm o => objEq (objAt nm hp) o) k.old) false = true := h
  obtain ⟨h2, h3⟩ := bsel_ne h (by simp)
  exact ⟨vEqL_eq (fun _ _ => vEq_eq 3) h2, fun p hp => objEq_eq (allP_eq h3 p hp)⟩

theorem endOk_eq {k : Known} {st : St} (h : k.endOk st = true) : (∀ p, p ∈ k.old → st.obj p.1 = p.2) ∧ ∀ p, p ∈ k.new → k.base ≤ p.1 ∧ st.obj p.1 = p.2 ∧ p.2 ≠ .dead := by
  obtain ⟨hp, n⟩ := st
  have h : bsel (allP (fun nm o => objEq (objAt nm hp) o) k.old) (allP (fun nm o => bsel (Nat.ble k.base nm) (objEq (objAt nm hp) o) false) k.new) false = true := h
  obtain ⟨h2, h3⟩ := bsel_ne h (by simp)
  refine ⟨fun p hp => (objEq_eq (allP_eq h2 p hp)).1, fun p hp => ?_⟩
  obtain ⟨g1, g3⟩ := bsel_ne (allP_eq h3 p hp) (by simp)
  exact ⟨ble_iff.1 g1, objEq_eq g3⟩

theorem fresh_eq : ∀ {l : List (Nat × AObj)}, Known.fresh l = true → ∀ (i j : Nat) (p q : Nat × AObj), l[i]? = some p → l[j]? = some q → p.1 = q.1 → i = j
  | [], _, i, j, p, q, h, _, _ => by simp at h
  | x :: l, h, i, j, p, q, hp, hq, e => by
    have h : bsel (hasP l x.1) false (Known.fresh l) = true := h
    rw [bsel_eq] at h
    split at h
    · cases h
    · rename_i hno
      have hno : ∀ y, y ∈ l → y.1 ≠ x.1 := fun y hy he => hno (hasP_eq.2 ⟨y, hy, he⟩)
      cases i with
      | zero =>
        cases j with
        | zero => rfl
        | succ j =>
          simp at hp hq
          subst hp
          exact absurd e.symm (hno q (List.mem_of_getElem? hq))
      | succ i =>
        cases j with
        | zero =>
          simp at hp hq
          subst hq
          exact absurd e (hno p (List.mem_of_getElem? hp))
        | succ j => rw [fresh_eq h i j p q (by simpa using hp) (by simpa using hq) e]

/-- The names of before. -/
def oldNm (k : Known) (σ : Nm) : Nm := fun nm => if hasP k.old nm = true then σ nm else none

theorem oldNm_sub (k : Known) (σ : Nm) : Sub (oldNm k σ) σ := fun nm b h => by
  unfold oldNm at h
  split at h
  · exact h
  · cases h

theorem closedV_ok {k : Known} {σ : Nm} (hv0 : hasP k.old voidNm = false) {v v' : Value} (h : k.closedV v = true) (hv : VR σ v v') : VR (oldNm k σ) v v' := by
  unfold Known.closedV okE at h
  obtain ⟨u, h1, h2⟩ := osel_ne h (by simp)
  have := vEq_eq 3 h2; subst this
  refine renV_ok (σ := σ) (fun nm nm' b e hb => ?_) ?_ 3 _ _ v' h1 hv
  · rw [bsel_eq] at e
    split at e
    · rename_i ho
      cases e
      unfold oldNm; rw [if_pos ho]; exact hb
    · cases e
  · rw [hv0]; rfl

theorem closedL_ok {k : Known} {σ : Nm} (hv0 : hasP k.old voidNm = false) : ∀ {vs vs' : List Value}, k.closedL vs = true → VRL σ vs vs' → VRL (oldNm k σ) vs vs'
  | [], vs', h, hv => ⟨hv.1, fun i u v hu => by simp at hu⟩
  | v :: vs, vs', h, hv => by
    have h : bsel (k.closedV v) (k.closedL vs) false = true := h
    obtain ⟨h1, h2⟩ := bsel_ne h (by simp)
    obtain ⟨b, bs, rfl, q1, q2⟩ := hv.cons_inv
    exact .cons (closedV_ok hv0 h1 q1) (closedL_ok hv0 h2 q2)

structure Formed (k : Known) : Prop where
  lim : k.base ≤ 65536
  low : ∀ p, p ∈ k.old → p.1 < k.base
  args : k.closedL k.args = true
  once : ∀ (i j : Nat) (p q : Nat × AObj), k.new[i]? = some p → k.new[j]? = some q → p.1 = q.1 → i = j
  void : hasP k.old voidNm = false

theorem formed_eq {k : Known} (h : k.formed = true) : Formed k := by
  unfold Known.formed at h
  obtain ⟨h1, h⟩ := bsel_ne h (by simp)
  obtain ⟨h2, h⟩ := bsel_ne h (by simp)
  obtain ⟨h3, h4⟩ := bsel_ne h (by simp)
  have low : ∀ p, p ∈ k.old → p.1 < k.base := fun p hp => ble_iff.1 (allP_eq h2 p hp)
  refine ⟨ble_iff.1 h1, low, h3, fresh_eq h4, ?_⟩
  cases hv : hasP k.old voidNm with
  | false => rfl
  | true =>
    obtain ⟨p, q1, q2⟩ := hasP_eq.1 hv
    have := low p q1
    have := ble_iff.1 h1
    have e : voidNm = 1073741824 := rfl
    omega

/-- The objects of a state that the call has looked at. -/
theorem Rel.part {σ : Nm} {st : St} {w : World} {k : Known} (hr : Rel σ st w) (hk : Formed k) (hrow : k.rows = true) (ho : ∀ p, p ∈ k.old → st.obj p.1 = p.2 ∧ p.2 ≠ .dead) :
    Rel (oldNm k σ) k.st w ∧ (∀ nm, Alive k.st nm → k.st.obj nm = st.obj nm ∧ Alive st nm ∧ ∃ p, p ∈ k.old ∧ p.1 = nm) := by
  have key : ∀ nm, (∃ p, p ∈ k.old ∧ p.1 = nm ∧ k.st.obj nm = p.2) ∨ ((∀ p, p ∈ k.old → p.1 ≠ nm) ∧ k.st.obj nm = .dead) := by
    intro nm
    rcases layL_obj (h := heap0) (nm := nm) (l := k.old) (fun p hp => by have := hk.low p hp; have := hk.lim; omega) with h | ⟨h1, h2⟩
    · exact .inl h
    · refine .inr ⟨h1, ?_⟩
      show objAt nm (layL heap0 k.old) = .dead
      rw [h2]
      by_cases hn : nm < 65536
      · unfold objAt
        rw [bsel_eq, if_neg (by rw [ble_iff]; omega)]
        exact heap0_get hn
      · exact objAt_big (by omega)
  have hal : ∀ nm, Alive k.st nm → k.st.obj nm = st.obj nm ∧ Alive st nm ∧ ∃ p, p ∈ k.old ∧ p.1 = nm := by
    intro nm ha
    rcases key nm with ⟨p, h1, h2, h3⟩ | ⟨_, h⟩
    · obtain ⟨g1, g2⟩ := ho p h1
      rw [h2] at g1
      exact ⟨by rw [h3, g1], by unfold Alive; rw [g1]; exact g2, p, h1, h2⟩
    · exact absurd h ha
  have hs : ∀ nm b, Alive k.st nm → σ nm = some b → oldNm k σ nm = some b := fun nm b ha hb => by
    obtain ⟨_, _, p, h1, h2⟩ := hal nm ha
    unfold oldNm; rw [if_pos (hasP_eq.2 ⟨p, h1, h2⟩)]; exact hb
  refine ⟨⟨fun nm ha => ?_, fun nm nm' b b' ha ha' e e' => hr.apart nm nm' b b' (hal nm ha).2.1 (hal nm' ha').2.1 (oldNm_sub k σ _ _ e) (oldNm_sub k σ _ _ e'), fun nm hnm => ⟨?_, fun ha => ?_⟩, fun nm b e => hr.bound nm b (oldNm_sub k σ _ _ e), hk.lim⟩, hal⟩
  · obtain ⟨h1, h2, p, h3, h4⟩ := hal nm ha
    obtain ⟨b, e1, e2⟩ := hr.obj nm h2
    refine ⟨b, hs nm b ha e1, ?_⟩
    subst h4
    have hrow : k.isRow p.2 = true := allP_eq hrow p h3
    rw [h1]
    rw [(ho p h3).1] at e2 ⊢
    cases hp : p.2 with
    | cells d n es ex t =>
      rw [hp] at e2 hrow
      have hrow : k.closedL (Bt.sub t (half d) 0 n []) = true := hrow
      obtain ⟨q1, q2, q3, q4, q5, c, e, q6, q7, q8, q9⟩ := e2
      rw [Bt.sub_eq q3, List.append_nil, List.drop_zero, Nat.sub_zero] at hrow
      exact ⟨q1, q2, q3, q4, q5, c, e, q6, q7, q8, closedL_ok hk.void hrow q9⟩
    | _ => rw [hp] at hrow; cases hrow
  · unfold oldNm
    have hnm : k.base ≤ nm := hnm
    rw [if_neg fun h => ?_]
    obtain ⟨p, h1, h2⟩ := hasP_eq.1 h
    have := hk.low p h1
    omega
  · obtain ⟨_, _, p, h3, h4⟩ := hal nm ha
    have := hk.low p h3
    have hnm : k.base ≤ nm := hnm
    omega

/-- The names behind it. -/
def newNm (k : Known) (n : Nat) (σ σ' : Nm) : Nm := fun nm => if nm < n then σ nm else match k.new[nm - n]? with | some p => σ' p.1 | none => none

theorem known_end {σ σ' : Nm} {st st2 st' : St} {w w' : World} {k : Known} (hr : Rel σ st w) (hk : Formed k) (ho : ∀ p, p ∈ k.old → st.obj p.1 = p.2 ∧ p.2 ≠ .dead)
    (rp : Rel (oldNm k σ) k.st w) (hal : ∀ nm, Alive k.st nm → k.st.obj nm = st.obj nm ∧ Alive st nm ∧ ∃ p, p ∈ k.old ∧ p.1 = nm)
    (g2 : ∀ p, p ∈ k.old → st2.obj p.1 = p.2) (g3 : ∀ p, p ∈ k.new → k.base ≤ p.1 ∧ st2.obj p.1 = p.2 ∧ p.2 ≠ .dead)
    (r2 : Rel σ' st2 w') (x2 : Ext (oldNm k σ) k.st w σ' st2 w') (hlay : layN (k.ren st.next) k.new st.next st.heap = some st') :
    RenOk (renAt k.old k.new st.next) σ' (newNm k st.next σ σ') ∧ Rel (newNm k st.next σ σ') st' w' ∧ Ext σ st w (newNm k st.next σ σ') st' w' := by
  obtain ⟨l1, l2, l3, l4, l5⟩ := layN_eq hlay
  have olds : ∀ nm, Alive st nm → nm < st.next := fun nm ha => by
    rcases Nat.lt_or_ge nm st.next with h | h
    · exact h
    · exact absurd ha (hr.fresh nm h).2
  have oldA : ∀ p, p ∈ k.old → Alive st p.1 := fun p hp => by unfold Alive; rw [(ho p hp).1]; exact (ho p hp).2
  have oldS : ∀ nm, (∃ p, p ∈ k.old ∧ p.1 = nm) → σ' nm = σ nm := by
    intro nm ⟨p, h1, h2⟩
    subst h2
    rw [x2.low p.1 (hk.low p h1)]
    unfold oldNm
    rw [if_pos (hasP_eq.2 ⟨p, h1, rfl⟩)]
  have hsub : Sub σ (newNm k st.next σ σ') := fun nm b h => by
    have := hr.name_lt h
    unfold newNm; rw [if_pos this]; exact h
  have newS : ∀ (i : Nat) (p : Nat × AObj), k.new[i]? = some p → newNm k st.next σ σ' (st.next + i) = σ' p.1 := fun i p hp => by
    unfold newNm
    rw [if_neg (by omega), Nat.add_sub_cancel_left, hp]
  have hren : RenOk (renAt k.old k.new st.next) σ' (newNm k st.next σ σ') := by
    intro nm nm' b h hb
    unfold renAt at h
    rw [bsel_eq] at h
    split at h
    · rename_i hold
      cases h
      have hold := hasP_eq.1 hold
      rw [oldS nm hold] at hb
      exact hsub nm b hb
    · obtain ⟨m, o, rfl, hm⟩ := newAt_eq h
      rw [newS m _ hm]; exact hb
  have hv0 : renAt k.old k.new st.next voidNm = none := by
    unfold renAt
    rw [hk.void, bsel_false]
    cases hn : newAt k.new voidNm st.next with
    | none => rfl
    | some j =>
      obtain ⟨m, o, _, hm⟩ := newAt_eq hn
      obtain ⟨_, q2, q3⟩ := g3 _ (List.mem_of_getElem? hm)
      rw [St.obj_eq, objAt_big (show 65536 ≤ voidNm by decide)] at q2
      exact absurd q2.symm q3
  have hRF : RenF (k.ren st.next) σ' (newNm k st.next σ σ') := renV_ok hren hv0 3
  -- an object behind it: a new one, or one of before
  have key : ∀ nm, (∃ i p, k.new[i]? = some p ∧ nm = st.next + i ∧ Alive st2 p.1 ∧ (∃ o, renO (k.ren st.next) p.2 = some o ∧ st'.obj nm = o) ∧ st2.obj p.1 = p.2 ∧ k.base ≤ p.1) ∨ ((nm < st.next ∨ st.next + k.new.length ≤ nm) ∧ st'.obj nm = st.obj nm) := by
    intro nm
    by_cases h1 : nm < st.next
    · exact .inr ⟨.inl h1, by rw [l3 nm h1, St.obj_eq]⟩
    · by_cases h2 : st.next + k.new.length ≤ nm
      · exact .inr ⟨.inr h2, by rw [l4 nm h2, St.obj_eq]⟩
      · have hi : nm - st.next < k.new.length := by omega
        have hp : k.new[nm - st.next]? = some k.new[nm - st.next] := by simp [hi]
        obtain ⟨o, q1, q2⟩ := l5 _ _ hp
        obtain ⟨t1, t2, t3⟩ := g3 _ (List.mem_of_getElem? hp)
        have e : st.next + (nm - st.next) = nm := by omega
        rw [e] at q2
        exact .inl ⟨nm - st.next, _, hp, by omega, by unfold Alive; rw [t2]; exact t3, ⟨o, q1, q2⟩, t2, t1⟩
  have newb : ∀ nm b, Alive st2 nm → k.base ≤ nm → σ' nm = some b → w.heap.size ≤ b.b := by
    intro nm b ha hb hs
    rcases Nat.lt_or_ge b.b w.heap.size with h | h
    · obtain ⟨nm2, b2, q1, q2, q3⟩ := x2.own b.b h ⟨nm, b, ha, hs, rfl⟩
      obtain ⟨_, _, p, q4, q5⟩ := hal nm2 q1
      have := hk.low p q4
      have ha2 : Alive st2 nm2 := by
        unfold Alive
        rw [← q5, g2 p q4]
        exact (ho p q4).2
      have := r2.apart nm2 nm b2 b ha2 ha (x2.sub _ _ q2) hs q3
      omega
    · exact h
  have hd : ∀ nm, 65536 ≤ nm → σ' nm = none := fun nm hn => (r2.fresh nm (Nat.le_trans r2.lim hn)).1
  have nameS : ∀ nm b, nm < st.next → newNm k st.next σ σ' nm = some b → σ nm = some b := by
    intro nm b ha hs
    unfold newNm at hs; rw [if_pos ha] at hs; exact hs
  have hR : Rel (newNm k st.next σ σ') st' w' := by
    refine ⟨fun nm ha => ?_, fun nm nm' b b' ha ha' hs hs' hb => ?_, fun nm hnm => ?_, fun nm b hs => ?_, ?_⟩
    · rcases key nm with ⟨i, p, h1, h2, h3, ⟨o, h4, h5⟩, h6, h7⟩ | ⟨h1, h⟩
      · obtain ⟨b, q1, q2⟩ := r2.obj p.1 h3
        rw [h6] at q2
        refine ⟨b, by rw [h2, newS i p h1]; exact q1, ?_⟩
        rw [h5]
        exact renO_ok hRF h4 q2
      · unfold Alive at ha
        rw [h] at ha ⊢
        obtain ⟨b, q1, q2⟩ := hr.obj nm ha
        by_cases hold : ∃ p, p ∈ k.old ∧ p.1 = nm
        · obtain ⟨p, p1, p2⟩ := hold
          subst p2
          have e : st2.obj p.1 = st.obj p.1 := by rw [g2 p p1, (ho p p1).1]
          have ha2 : Alive st2 p.1 := by unfold Alive; rw [e]; exact ha
          have hak : Alive k.st p.1 ∧ k.st.obj p.1 = st.obj p.1 := by
            have : Alive k.st p.1 := by
              rcases layL_obj (h := heap0) (nm := p.1) (l := k.old) (fun q hq => by have := hk.low q hq; have := hk.lim; omega) with ⟨q, t1, t2, t3⟩ | ⟨t1, _⟩
              · unfold Alive
                have t3 : k.st.obj p.1 = q.2 := t3
                rw [t3]; exact (ho q t1).2
              · exact absurd rfl (t1 p p1)
            exact ⟨this, (hal p.1 this).1⟩
          obtain ⟨b0, s1, s2⟩ := rp.obj p.1 hak.1
          obtain ⟨b2, s3, s4⟩ := r2.obj p.1 ha2
          rw [x2.sub _ _ s1] at s3; cases s3
          rw [hak.2] at s2
          rw [e] at s4
          refine ⟨b0, hsub _ _ (oldNm_sub k σ _ _ s1), ?_⟩
          exact (s2.re x2.sub hd s4).mono (fun x c hx => hsub _ _ (oldNm_sub k σ _ _ hx)) rfl
        · refine ⟨b, hsub _ _ q1, q2.mono hsub (x2.kept b.b (hr.bound nm b q1) fun ⟨nm2, b2, t1, t2, t3⟩ => ?_)⟩
          obtain ⟨_, t4, t5⟩ := hal nm2 t1
          have := hr.apart nm2 nm b2 b t4 ha (oldNm_sub k σ _ _ t2) q1 t3
          subst this
          exact hold t5
    · rcases key nm with ⟨i, p, h1, h2, h3, _, _, h7⟩ | ⟨h0, h⟩ <;> rcases key nm' with ⟨i', p', h1', h2', h3', _, _, h7'⟩ | ⟨h0', h'⟩
      · rw [h2, newS i p h1] at hs
        rw [h2', newS i' p' h1'] at hs'
        have := r2.apart p.1 p'.1 b b' h3 h3' hs hs' hb
        have := hk.once i i' p p' h1 h1' this
        omega
      · have hA : Alive st nm' := by unfold Alive at ha' ⊢; rw [h'] at ha'; exact ha'
        rw [h2, newS i p h1] at hs
        have := newb p.1 b h3 h7 hs
        have := hr.bound nm' b' (nameS nm' b' (olds nm' hA) hs')
        omega
      · have hA : Alive st nm := by unfold Alive at ha ⊢; rw [h] at ha; exact ha
        rw [h2', newS i' p' h1'] at hs'
        have := newb p'.1 b' h3' h7' hs'
        have := hr.bound nm b (nameS nm b (olds nm hA) hs)
        omega
      · have hA : Alive st nm := by unfold Alive at ha ⊢; rw [h] at ha; exact ha
        have hA' : Alive st nm' := by unfold Alive at ha' ⊢; rw [h'] at ha'; exact ha'
        exact hr.apart nm nm' b b' hA hA' (nameS nm b (olds nm hA) hs) (nameS nm' b' (olds nm' hA') hs') hb
    · rw [l1] at hnm
      refine ⟨?_, fun ha => ?_⟩
      · unfold newNm
        rw [if_neg (by omega), List.getElem?_eq_none (by omega)]
      · rcases key nm with ⟨i, p, h1, h2, _⟩ | ⟨_, h⟩
        · have := (List.getElem?_eq_some_iff.1 h1).1
          omega
        · have hA : Alive st nm := by unfold Alive at ha ⊢; rw [h] at ha; exact ha
          have := olds nm hA
          omega
    · unfold newNm at hs
      split at hs
      · exact Nat.lt_of_lt_of_le (hr.bound nm b hs) x2.size
      · split at hs
        · exact r2.bound _ b hs
        · cases hs
    · rcases l2 with h | h
      · rw [l1, h]; exact hr.lim
      · exact h
  refine ⟨hren, hR, hsub, by rw [l1]; omega, x2.size, fun b hb ⟨nm, c, q1, q2, q3⟩ => ?_, fun b hb hno => x2.kept b hb fun ⟨nm, c, q1, q2, q3⟩ => hno ⟨nm, c, (hal nm q1).2.1, oldNm_sub k σ _ _ q2, q3⟩, x2.tape, x2.os, x2.output, fun nm hnm => by unfold newNm; rw [if_pos hnm]⟩
  rcases key nm with ⟨i, p, h1, h2, h3, _, _, h7⟩ | ⟨_, h⟩
  · rw [h2, newS i p h1] at q2
    have := newb p.1 c h3 h7 q2
    omega
  · have hA : Alive st nm := by unfold Alive at q1 ⊢; rw [h] at q1; exact q1
    exact ⟨nm, c, hA, nameS nm c (olds nm hA) q2, q3⟩

theorem known_ok {P : Program} (hm : P.follows .mixedOrders = true) {O : Orc} (hO : OrcOk P O) {K : Nat} {k : Known} (h : k.run P O K = true) : OrcOk P k.at := by
  intro f args st v st' hat σ w args' hr ha n ro
  unfold Known.run at h
  obtain ⟨hk, h⟩ := bsel_ne h (by simp)
  obtain ⟨hrow, h⟩ := bsel_ne h (by simp)
  have hk := formed_eq hk
  unfold Known.at at hat
  obtain ⟨hf, hat1⟩ := bsel_ne hat Re.no_ne
  obtain ⟨hfit, hat2⟩ := bsel_ne hat1 Re.no_ne
  have hf := beq_iff.1 hf
  clear hat hat1
  subst hf
  obtain ⟨rfl, e3⟩ := fits_eq hfit
  have hat3 : (osel (layN (k.ren st.next) k.new st.next st.heap) Re.no fun st' => osel (k.ren st.next k.v) .no fun v => .ok v st') = .ok v st' := hat2
  obtain ⟨st3, hlay, hat4⟩ := osel_ne hat3 Re.no_ne
  obtain ⟨v3, hv3, hat5⟩ := osel_ne hat4 Re.no_ne
  obtain ⟨rfl, rfl⟩ := Re.ok_inj hat5
  obtain ⟨rp, hal⟩ := hr.part hk hrow e3
  cases hc : callF P (evCode P O K) k.f k.args k.st with
  | no => rw [hc] at h; cases h
  | ok v2 st2 =>
    rw [hc] at h
    have h : bsel (vEq 3 v2 k.v) (k.endOk st2) false = true := h
    obtain ⟨h1, h2⟩ := bsel_ne h (by simp)
    have := vEq_eq 3 h1; subst this
    obtain ⟨g2, g3⟩ := endOk_eq h2
    have hcall := callF_ok (code_ok hO (fun rec hrec => reg_ok hm hrec) K) hc rp (closedL_ok hk.void hk.args ha) n ro
    refine CallsIn.mono hcall fun e w' he => ?_
    obtain ⟨σ', v', rfl, hv, r2, x2⟩ := he
    obtain ⟨q1, q2, q3⟩ := known_end hr hk e3 rp hal g2 g3 r2 x2 hlay
    refine ⟨newNm k st.next σ σ', v', rfl, ?_, q2, q3⟩
    refine renV_ok q1 ?_ 3 _ _ _ hv3 hv
    unfold renAt
    rw [hk.void, bsel_false]
    cases hn : newAt k.new voidNm st.next with
    | none => rfl
    | some j =>
      obtain ⟨m, o, _, hm⟩ := newAt_eq hn
      obtain ⟨_, q2, q3⟩ := g3 _ (List.mem_of_getElem? hm)
      rw [St.obj_eq, objAt_big (show 65536 ≤ voidNm by decide)] at q2
      exact absurd q2.symm q3

/-- All that is known. -/
def orc (ks : List Known) : Orc := fun f args st => List.rec .no (fun k _ ih => Re.rec ih (fun v st => .ok v st) (k.at f args st)) ks

theorem orc_ok {P : Program} : ∀ {ks : List Known}, (∀ k, k ∈ ks → OrcOk P k.at) → OrcOk P (orc ks)
  | [], _ => fun f args st v st' h => by cases h
  | k :: ks, hks => fun f args st v st' h => by
    have h : Re.rec (motive := fun _ => Re) (orc ks f args st) (fun v st => .ok v st) (k.at f args st) = .ok v st' := h
    cases hc : k.at f args st with
    | no => rw [hc] at h; exact orc_ok (fun q hq => hks q (by simp [hq])) f args st v st' h
    | ok v1 st1 => rw [hc] at h; cases h; exact hks k (by simp) f args st _ _ hc

theorem noOrc_ok {P : Program} : OrcOk P noOrc := fun f args st v st' h => by cases h
end
end Go.Proofs.YtieclenlldjfjaaGreat.Ev

set_option autoImplicit false
namespace Go.Proofs.YtieclenlldjfjaaGreat.Ev
open Go
noncomputable section
/-- A row of cells, told by runs. -/
def rle : List (Nat × Value) → List Value := fun xs => List.rec [] (fun p _ ih => Nat.rec ih (fun _ r => p.2 :: r) p.1) xs
def rleB (d : Nat) (xs : List (Nat × Value)) : Bt := Bt.ofL d (rle xs)
end
end Go.Proofs.YtieclenlldjfjaaGreat.Ev

