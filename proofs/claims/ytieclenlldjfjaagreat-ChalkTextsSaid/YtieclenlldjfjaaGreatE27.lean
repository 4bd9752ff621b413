import Derived.Test.YtieclenlldjfjaaGreatE26
set_option autoImplicit false
set_option linter.unusedVariables false
set_option linter.unusedSimpArgs false
namespace Go.Proofs.YtieclenlldjfjaaGreat.Ev
open Go

/-- What holds when the operations of D have been done, in whatever order. -/
structure Inv (P : Program) (ops : Array Oper) (A : Nat → Ac) (S : Nat → St) (V : Nat → Value) (σ0 : Nm) (st0 : St) (w0 : World) (D : Nat → Prop) (s : Nat) (τ : Nm) (b : Ac) (act : Act) (w : World) : Prop where
  dom : ∀ nm k, τ nm = some k → nm < 65536 ∧ k.b < w.heap.size
  ar : AR τ b act
  regs : Regs0 ops V (A 0) D b
  le : s ≤ ops.size
  done : ∀ k, k < s → WM ops A k → D k
  rel : Rel (cut (S s).next τ) (S s) w
  ghost : ∀ e, D e → s ≤ e → WM ops A e → ∃ o el z B, ops[e]? = some o ∧ o.op = .alloc el ∧ zeroL P el = some z ∧ τ (S e).next = some ⟨B, 0, z.length, 0, true⟩ ∧ w.heap[B]? = some (.cells ⟨z⟩ el (0, 0)) ∧ w0.heap.size ≤ B ∧ B < w.heap.size ∧
    ∀ x kx, Alive (S s) x → cut (S s).next τ x = some kx → kx.b ≠ B
  apart : ∀ e e' k k', D e → s ≤ e → WM ops A e → D e' → s ≤ e' → WM ops A e' → e ≠ e' → τ (S e).next = some k → τ (S e').next = some k' → k.b ≠ k'.b
  above : ∀ nm k, τ nm = some k → nm < (S s).next ∨ ∃ e, D e ∧ s ≤ e ∧ WM ops A e ∧ nm = (S e).next
  ext : Ext σ0 st0 w0 (cut (S s).next τ) (S s) w

section
variable {P : Program} {rec : Rec} {ops : Array Oper} {xs : List Inf} {A : Nat → Ac} {S : Nat → St} {V : Nat → Value} {σ0 : Nm} {st0 : St} {w0 : World} {D D' : Nat → Prop} {s : Nat} {τ : Nm} {b : Ac} {act : Act} {w : World}

theorem Inv.adv (T : Tr P rec ops xs A S V) (h : Inv P ops A S V σ0 st0 w0 D s τ b act w) (hs : s < ops.size) (hd : WM ops A s → D s) : Inv P ops A S V σ0 st0 w0 D (s + 1) τ b act w := by
  by_cases hm : WM ops A s
  · obtain ⟨o, el, z, B, g1, g2, g3, g4, g5, g6, g6b, g7⟩ := h.ghost s (hd hm) (Nat.le_refl s) hm
    obtain ⟨o', ho', hw, _⟩ := hm
    rw [g1] at ho'; cases ho'
    obtain ⟨z', hz, a1, a2, a3⟩ := T.alloc g1 hw g2
    rw [g3] at hz; cases hz
    have hfl : z.all flat = true := (zeroL_ok g3).choose_spec.2.2
    obtain ⟨σ', s1, s2, s3, s4, s5⟩ := h.rel.named (o := rowOf z 0 true) (k := ⟨B, 0, z.length, 0, true⟩) a3 g6b (fun x kx h1 h2 => g7 x kx h1 h2) (fun ρ hρ1 hρ2 => by
      unfold rowOf
      rw [lenL_eq]
      refine ⟨rfl, rfl, (Bt.ofL_perf _ _).1, dep_le _, by rw [ofL_take]; exact flat_one hfl, z, el, g5, rfl, by simp, ?_⟩
      rw [ofL_take]
      simpa using VRL.flat (σ := ρ) hfl)
    rw [← a2] at s2 s5
    have hn : (S (s + 1)).next = (S s).next + 1 := by rw [a2]
    have hσ : σ' = cut (S (s + 1)).next τ := by
      funext x
      rw [hn]
      by_cases e : x = (S s).next
      · subst e
        rw [s1, cut_some g4 (by omega)]
      · rw [s4 x e]
        unfold cut
        by_cases e2 : x < (S s).next
        · rw [if_pos e2, if_pos (by omega)]
        · rw [if_neg e2, if_neg (by omega)]
    subst hσ
    have hlo := h.ext.next
    refine ⟨h.dom, h.ar, h.regs, hs, fun k hk hwm => ?_, s2, fun e he hle hwm => ?_, fun e e' k k' h1 h2 h3 h4 h5 h6 h7 => h.apart e e' k k' h1 (by omega) h3 h4 (by omega) h6 h7, fun nm k hk => ?_, ?_⟩
    · by_cases e : k = s
      · subst e; exact hd hwm
      · exact h.done k (by omega) hwm
    · obtain ⟨o2, el2, z2, B2, q1, q2, q3, q4, q5, q6, q6b, q7⟩ := h.ghost e he (by omega) hwm
      refine ⟨o2, el2, z2, B2, q1, q2, q3, q4, q5, q6, q6b, fun x kx hx hk => ?_⟩
      by_cases ex : x = (S s).next
      · subst ex
        rw [s1] at hk; cases hk
        exact h.apart s e _ _ (hd ⟨o, g1, hw, by rw [g2]; rfl⟩) (Nat.le_refl s) ⟨o, g1, hw, by rw [g2]; rfl⟩ he (by omega) hwm (by omega) g4 q4
      · rw [s4 x ex] at hk
        exact q7 x kx (s5 x hx ex) hk
    · rcases h.above nm k hk with h1 | ⟨e, h1, h2, h3, h4⟩
      · exact .inl (by rw [hn]; omega)
      · by_cases e2 : e = s
        · subst e2; exact .inl (by rw [hn]; omega)
        · exact .inr ⟨e, h1, by omega, h3, h4⟩
    · refine ⟨h.ext.sub.trans s3, by rw [hn]; omega, h.ext.size, fun c hc ⟨x, kx, h1, h2, h3⟩ => ?_, h.ext.kept, h.ext.tape, h.ext.os, h.ext.output, fun nm hnm => ?_⟩
      · by_cases ex : x = (S s).next
        · subst ex
          rw [s1] at h2; cases h2
          have h3 : B = c := h3
          omega
        · rw [s4 x ex] at h2
          exact h.ext.own c hc ⟨x, kx, s5 x h1 ex, h2, h3⟩
      · rw [s4 nm (by omega)]
        exact h.ext.low nm hnm
  · have e := T.still hs hm
    refine ⟨h.dom, h.ar, h.regs, hs, fun k hk hwm => ?_, by rw [e]; exact h.rel, fun e' he hle hwm => ?_, fun e e' k k' h1 h2 h3 h4 h5 h6 h7 => h.apart e e' k k' h1 (by omega) h3 h4 (by omega) h6 h7, fun nm k hk => ?_, by rw [e]; exact h.ext⟩
    · by_cases ek : k = s
      · subst ek; exact absurd hwm hm
      · exact h.done k (by omega) hwm
    · rw [e]; exact h.ghost e' he (by omega) hwm
    · rw [e]
      rcases h.above nm k hk with h1 | ⟨e', h1, h2, h3, h4⟩
      · exact .inl h1
      · by_cases e2 : e' = s
        · subst e2; exact absurd h3 hm
        · exact .inr ⟨e', h1, by omega, h3, h4⟩

theorem Inv.advTo (T : Tr P rec ops xs A S V) : ∀ t, s ≤ t → t ≤ ops.size → (∀ k, s ≤ k → k < t → WM ops A k → D k) → Inv P ops A S V σ0 st0 w0 D s τ b act w → Inv P ops A S V σ0 st0 w0 D t τ b act w
  | 0, h1, _, _, h => by have : s = 0 := by omega
                         subst this; exact h
  | t + 1, h1, h2, h3, h => by
    by_cases e : s = t + 1
    · subst e; exact h
    · exact (Inv.advTo T t (by omega) (by omega) (fun k q1 q2 => h3 k q1 (by omega)) h).adv T (by omega) (h3 t (by omega) (by omega))

theorem Inv.advMax (T : Tr P rec ops xs A S V) : ∀ (m s : Nat), ops.size - s ≤ m → Inv P ops A S V σ0 st0 w0 D s τ b act w → ∃ t, s ≤ t ∧ Inv P ops A S V σ0 st0 w0 D t τ b act w ∧ (t = ops.size ∨ (WM ops A t ∧ ¬ D t))
  | 0, s, hm, h => ⟨s, Nat.le_refl s, h, .inl (by have := h.le; omega)⟩
  | m + 1, s, hm, h => by
    by_cases e : s = ops.size
    · exact ⟨s, Nat.le_refl s, h, .inl e⟩
    · by_cases hd : WM ops A s → D s
      · obtain ⟨t, h1, h2, h3⟩ := Inv.advMax T m (s + 1) (by omega) (h.adv T (by have := h.le; omega) hd)
        exact ⟨t, by omega, h2, h3⟩
      · exact ⟨s, Nat.le_refl s, h, .inr (Classical.not_imp.1 hd)⟩

/-- An operation that leaves the core's memory as it is told. -/
theorem Inv.quiet (T : Tr P rec ops xs A S V) (h : Inv P ops A S V σ0 st0 w0 D s τ b act w) {w2 : World} (x2 : Ext (cut (S s).next τ) (S s) w (cut (S s).next τ) (S s) w2) (r2 : Rel (cut (S s).next τ) (S s) w2)
    {i : Nat} {o : Oper} (ho : ops[i]? = some o) {v' : Value} (hv : VR τ (V i) v') {st st2 : St} {b' : Ac} (hp : b.put o.dst (V i) st = .ok b' st2) (hnm : ¬ WM ops A i) (hD : ∀ k, D' k ↔ D k ∨ k = i) :
    Inv P ops A S V σ0 st0 w0 D' s τ b' (act.put o.dst v') w2 := by
  have back : ∀ e, D' e → WM ops A e → D e := fun e he hw => ((hD e).1 he).resolve_right (fun e' => by subst e'; exact hnm hw)
  refine ⟨fun nm k hk => ⟨(h.dom nm k hk).1, Nat.lt_of_lt_of_le (h.dom nm k hk).2 x2.size⟩, h.ar.put hp hv, h.regs.put T.ok ho hp (fun j o' t hj hne hd => T.uniq ho hj hne hd) hD, h.le, fun k hk hw => (hD k).2 (.inl (h.done k hk hw)), r2,
    fun e he hle hw => ?_, fun e e' k k' h1 h2 h3 h4 h5 h6 => h.apart e e' k k' (back e h1 h3) h2 h3 (back e' h4 h6) h5 h6, fun nm k hk => ?_, h.ext.trans x2⟩
  · obtain ⟨o2, el, z, B, q1, q2, q3, q4, q5, q6, q6b, q7⟩ := h.ghost e (back e he hw) hle hw
    refine ⟨o2, el, z, B, q1, q2, q3, q4, ?_, q6, Nat.lt_of_lt_of_le q6b x2.size, q7⟩
    rw [x2.kept B q6b (fun ⟨x, kx, h1, h2, h3⟩ => q7 x kx h1 h2 h3)]
    exact q5
  · rcases h.above nm k hk with h1 | ⟨e, h1, h2⟩
    · exact .inl h1
    · exact .inr ⟨e, (hD e).2 (.inl h1), h2⟩

/-- An operation that works on memory, in its turn. -/
theorem Inv.turn (T : Tr P rec ops xs A S V) {i : Nat} (h : Inv P ops A S V σ0 st0 w0 D i τ b act w) {w2 : World} {σ' : Nm} (x2 : Ext (cut (S i).next τ) (S i) w σ' (S (i + 1)) w2) (r2 : Rel σ' (S (i + 1)) w2)
    {o : Oper} (ho : ops[i]? = some o) (hni : ¬ D i) {v' : Value} (hv : VR σ' (V i) v') {st st2 : St} {b' : Ac} (hp : b.put o.dst (V i) st = .ok b' st2) (hD : ∀ k, D' k ↔ D k ∨ k = i) (hdone : ∀ k, k < i → WM ops A k → D k) :
    ∃ τ', Inv P ops A S V σ0 st0 w0 D' (i + 1) τ' b' (act.put o.dst v') w2 := by
  have hi := op_lt ho
  let τ' : Nm := fun nm => if nm < (S (i + 1)).next then σ' nm else τ nm
  have hlt : ∀ nm, nm < (S (i + 1)).next → τ' nm = σ' nm := fun nm hn => if_pos hn
  have hge : ∀ nm, (S (i + 1)).next ≤ nm → τ' nm = τ nm := fun nm hn => if_neg (by omega)
  have hle := T.le1 hi
  have hcut : cut (S (i + 1)).next τ' = σ' := by
    funext nm
    unfold cut
    by_cases e : nm < (S (i + 1)).next
    · rw [if_pos e, hlt nm e]
    · rw [if_neg e]; exact ((r2.fresh nm (by omega)).1).symm
  have hlate : ∀ e, D e → i ≤ e → i + 1 ≤ e := fun e he hle => by
    by_cases e' : e = i
    · subst e'; exact absurd he hni
    · omega
  have hsub : Sub τ τ' := by
    intro nm k hk
    rcases h.above nm k hk with h1 | ⟨e, h1, h2, h3, h4⟩
    · rw [hlt nm (by omega), x2.low nm h1]
      exact cut_some hk h1
    · have := hlate e h1 h2
      have hen : e ≤ ops.size := by obtain ⟨oe, hoe, _⟩ := h3; exact Nat.le_of_lt (op_lt hoe)
      have := T.le (i := i + 1) e this hen
      rw [hge nm (by omega)]; exact hk
  have back : ∀ e, D' e → i + 1 ≤ e → D e := fun e he hle => ((hD e).1 he).resolve_right (by omega)
  refine ⟨τ', ⟨fun nm k hk => ?_, (h.ar.mono hsub).put hp (hv.mono (fun nm k hk => ?_)), h.regs.put T.ok ho hp (fun j o' t hj hne hd => T.uniq ho hj hne hd) hD, hi, fun k hk hw => ?_, by rw [hcut]; exact r2,
    fun e he hle2 hw => ?_, fun e e' k k' h1 h2 h3 h4 h5 h6 h7 h8 h9 => ?_, fun nm k hk => ?_, by rw [hcut]; exact h.ext.trans x2⟩⟩
  · by_cases e : nm < (S (i + 1)).next
    · rw [hlt nm e] at hk
      exact ⟨Nat.lt_of_lt_of_le e r2.lim, r2.bound nm k hk⟩
    · rw [hge nm (by omega)] at hk
      exact ⟨(h.dom nm k hk).1, Nat.lt_of_lt_of_le (h.dom nm k hk).2 x2.size⟩
  · have := r2.name_lt hk
    rw [hlt nm this]; exact hk
  · by_cases e : k = i
    · exact (hD k).2 (.inr e)
    · exact (hD k).2 (.inl (hdone k (by omega) hw))
  · obtain ⟨o2, el, z, B, q1, q2, q3, q4, q5, q6, q6b, q7⟩ := h.ghost e (back e he hle2) (by omega) hw
    have hun : ¬ Own (cut (S i).next τ) (S i) B := fun ⟨x, kx, h1, h2, h3⟩ => q7 x kx h1 h2 h3
    have := T.le (i := i + 1) e hle2 (Nat.le_of_lt (op_lt q1))
    refine ⟨o2, el, z, B, q1, q2, q3, by rw [hge _ this]; exact q4, by rw [x2.kept B q6b hun]; exact q5, q6, Nat.lt_of_lt_of_le q6b x2.size, fun x kx hx hk hB => ?_⟩
    rw [hcut] at hk
    exact hun (x2.own B q6b ⟨x, kx, hx, hk, hB⟩)
  · have e1 := T.le (i := i + 1) e h2 (by obtain ⟨oe, hoe, _⟩ := h3; exact Nat.le_of_lt (op_lt hoe))
    have e2 := T.le (i := i + 1) e' h5 (by obtain ⟨oe, hoe, _⟩ := h6; exact Nat.le_of_lt (op_lt hoe))
    rw [hge _ e1] at h8
    rw [hge _ e2] at h9
    exact h.apart e e' k k' (back e h1 h2) (by omega) h3 (back e' h4 h5) (by omega) h6 h7 h8 h9
  · by_cases e : nm < (S (i + 1)).next
    · exact .inl e
    · rw [hge nm (by omega)] at hk
      rcases h.above nm k hk with h1 | ⟨e2, h1, h2, h3, h4⟩
      · omega
      · exact .inr ⟨e2, (hD e2).2 (.inl h1), hlate e2 h1 h2, h3, h4⟩

/-- An alloc, early or not. -/
theorem Inv.early (T : Tr P rec ops xs A S V) (h : Inv P ops A S V σ0 st0 w0 D s τ b act w) {i : Nat} {o : Oper} (ho : ops[i]? = some o) (hni : ¬ D i) (hsi : s ≤ i) (hw : wantedA ops o (A i) = true) {el : TypeId} (hop : o.op = .alloc el)
    {z : List Value} (hz : zeroL P el = some z) {st st2 : St} {b' : Ac} (hp : b.put o.dst (V i) st = .ok b' st2) (hD : ∀ k, D' k ↔ D k ∨ k = i) :
    ∃ τ', Inv P ops A S V σ0 st0 w0 D' s τ' b' (act.put o.dst (.pointer (some ⟨w.heap.size, 0, none⟩))) { w with heap := w.heap.push (.cells ⟨z⟩ el) } := by
  have hi := op_lt ho
  obtain ⟨z', hz', a1, a2, a3⟩ := T.alloc ho hw hop
  rw [hz] at hz'; cases hz'
  have hwm : WM ops A i := ⟨o, ho, hw, by rw [hop]; rfl⟩
  have hn1 : (S (i + 1)).next = (S i).next + 1 := by rw [a2]
  have hne : ∀ e, D e → s ≤ e → WM ops A e → (S e).next ≠ (S i).next := by
    intro e he hse hwe heq
    obtain ⟨oe, hoe, hwoe, hme⟩ := hwe
    rcases Nat.lt_trichotomy e i with h1 | h1 | h1
    · obtain ⟨o2, el2, z2, B2, q1, q2, _⟩ := h.ghost e he hse ⟨oe, hoe, hwoe, hme⟩
      rw [hoe] at q1; cases q1
      obtain ⟨_, _, _, b2, _⟩ := T.alloc hoe hwoe q2
      have : (S (e + 1)).next = (S e).next + 1 := by rw [b2]
      have := T.le (i := e + 1) i (by omega) (by omega)
      omega
    · subst h1; exact hni he
    · have := T.le (i := i + 1) e (by omega) (Nat.le_of_lt (op_lt hoe))
      omega
  have hsn := T.le (i := s) i hsi (by omega)
  have hnone : τ (S i).next = none := by
    cases hk : τ (S i).next with
    | none => rfl
    | some k =>
      rcases h.above _ k hk with h1 | ⟨e, h1, h2, h3, h4⟩
      · omega
      · exact absurd h4.symm (hne e h1 h2 h3)
  let k : Blk := ⟨w.heap.size, 0, z.length, 0, true⟩
  let τ' : Nm := fun nm => if nm = (S i).next then some k else τ nm
  have hself : τ' (S i).next = some k := if_pos rfl
  have hoth : ∀ nm, nm ≠ (S i).next → τ' nm = τ nm := fun nm hn => if_neg hn
  have hsub : Sub τ τ' := fun nm kk hk => by
    rw [hoth nm (fun e => by rw [e, hnone] at hk; cases hk)]; exact hk
  have hcut : cut (S s).next τ' = cut (S s).next τ := by
    funext nm
    unfold cut
    by_cases e : nm < (S s).next
    · rw [if_pos e, if_pos e, hoth nm (by omega)]
    · rw [if_neg e, if_neg e]
  have hold : ∀ c, c < w.heap.size → (w.heap.push (.cells ⟨z⟩ el))[c]? = w.heap[c]? := fun c hc => by simp [Array.getElem?_push, Nat.ne_of_lt hc]
  have r2 : Rel (cut (S s).next τ) (S s) { w with heap := w.heap.push (.cells ⟨z⟩ el) } :=
    ⟨fun nm ha => let ⟨kk, h1, h2⟩ := h.rel.obj nm ha; ⟨kk, h1, OR.mono (.refl _) (hold _ (h.rel.bound nm kk h1)) h2⟩, h.rel.apart, h.rel.fresh, fun nm kk hk => by have := h.rel.bound nm kk hk; simp; omega, h.rel.lim⟩
  have x2 : Ext (cut (S s).next τ) (S s) w (cut (S s).next τ) (S s) { w with heap := w.heap.push (.cells ⟨z⟩ el) } :=
    ⟨.refl _, Nat.le_refl _, by simp, fun _ _ h => h, fun c hc _ => hold c hc, rfl, rfl, rfl, fun _ _ => rfl⟩
  refine ⟨τ', ⟨fun nm kk hk => ?_, (h.ar.mono hsub).put hp ?_, h.regs.put T.ok ho hp (fun j o' t hj hne hd => T.uniq ho hj hne hd) hD, h.le, fun j hj hwj => (hD j).2 (.inl (h.done j hj hwj)), by rw [hcut]; exact r2,
    fun e he hle hwe => ?_, fun e e' k1 k2 h1 h2 h3 h4 h5 h6 h7 h8 h9 => ?_, fun nm kk hk => ?_, by rw [hcut]; exact h.ext.trans x2⟩⟩
  · by_cases e : nm = (S i).next
    · subst e
      rw [hself] at hk; cases hk
      exact ⟨a3, by simp [k]⟩
    · rw [hoth nm e] at hk
      have := h.dom nm kk hk
      exact ⟨this.1, by simp; omega⟩
  · rw [a1]
    exact .ptr (S i).next 0 k hself
  · by_cases ei : e = i
    · subst ei
      refine ⟨o, el, z, w.heap.size, ho, hop, hz, hself, by simp, h.ext.size, by simp, fun x kx hx hk => ?_⟩
      rw [hcut] at hk
      have := h.rel.bound x kx hk
      omega
    · obtain ⟨o2, el2, z2, B, q1, q2, q3, q4, q5, q6, q6b, q7⟩ := h.ghost e (((hD e).1 he).resolve_right ei) hle hwe
      refine ⟨o2, el2, z2, B, q1, q2, q3, by rw [hoth _ (hne e (((hD e).1 he).resolve_right ei) hle hwe)]; exact q4, by rw [hold B q6b]; exact q5, q6, by simp; omega, fun x kx hx hk => ?_⟩
      rw [hcut] at hk
      exact q7 x kx hx hk
  · by_cases e1 : e = i
    · subst e1
      rw [hself] at h8; cases h8
      have hDe : D e' := ((hD e').1 h4).resolve_right (fun e2 => h7 e2.symm)
      rw [hoth _ (hne e' hDe h5 h6)] at h9
      have := (h.dom _ _ h9).2
      show w.heap.size ≠ k2.b
      omega
    · have hDe : D e := ((hD e).1 h1).resolve_right e1
      rw [hoth _ (hne e hDe h2 h3)] at h8
      by_cases e2 : e' = i
      · subst e2
        rw [hself] at h9; cases h9
        have := (h.dom _ _ h8).2
        show k1.b ≠ w.heap.size
        omega
      · have hDe' : D e' := ((hD e').1 h4).resolve_right e2
        rw [hoth _ (hne e' hDe' h5 h6)] at h9
        exact h.apart e e' k1 k2 hDe h2 h3 hDe' h5 h6 h7 h8 h9
  · by_cases e : nm = (S i).next
    · exact .inr ⟨i, (hD i).2 (.inr rfl), hsi, hwm, e⟩
    · rw [hoth nm e] at hk
      rcases h.above nm kk hk with h1 | ⟨e2, h1, h2⟩
      · exact .inl h1
      · exact .inr ⟨e2, (hD e2).2 (.inl h1), h2⟩
end
end Go.Proofs.YtieclenlldjfjaaGreat.Ev
