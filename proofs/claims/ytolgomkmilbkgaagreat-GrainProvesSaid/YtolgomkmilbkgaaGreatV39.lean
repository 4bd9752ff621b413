import Derived.Test.YtolgomkmilbkgaaGreatV26
import Derived.Lib.Hide
import Derived.KernelRfl
set_option autoImplicit false
set_option linter.unusedVariables false
set_option linter.unusedSimpArgs false
namespace Go.Proofs.YtolgomkmilbkgaaGreat.Ev
open Go

/-- What holds when the operations of D have been done, in whatever order. -/
structure Inv (P : Program) (ops : Array Oper) (A : Nat → Ac) (S : Nat → St) (V : Nat → Value) (σ0 : Nm) (st0 : St) (w0 : World) (D : Nat → Prop) (s : Nat) (τ : Nm) (b : Ac) (act : Act) (w : World) : Prop where
  dom : ∀ nm k, τ nm = some k → nm < (S ops.size).next ∧ k.b < w.heap.size ∧ (k.ex = true → k.o = 0)
  ar : AR τ b act
  regs : Regs0 ops V (A 0) D b
  le : s ≤ ops.size
  done : ∀ k, k < s → WM ops A k → D k
  rel : Rel (cut (S s).next τ) (S s) w
  ghost : ∀ e, D e → s ≤ e → WM ops A e → ∃ o el z B, ops[e]? = some o ∧ o.op = .alloc el ∧ zeroL P el = some z ∧ τ (S e).next = some ⟨B, 0, z.length, 0, true⟩ ∧ w.heap[B]? = some (.cells ⟨z⟩ el (0, 0)) ∧ w0.heap.size ≤ B ∧ (B < w.heap.size ∧ ∀ c, τ.fz B ≠ some c) ∧
    ∀ x kx, Alive (S s) x → cut (S s).next τ x = some kx → kx.b ≠ B
  apart : ∀ e e' k k', D e → s ≤ e → WM ops A e → D e' → s ≤ e' → WM ops A e' → e ≠ e' → τ (S e).next = some k → τ (S e').next = some k' → k.b ≠ k'.b
  above : ∀ nm k, τ nm = some k → nm < (S s).next ∨ ∃ e, D e ∧ s ≤ e ∧ WM ops A e ∧ nm = (S e).next
  ext : Ext σ0 st0 w0 (cut (S s).next τ) (S s) w

section
variable {P : Program} {rec : Rec} {ops : Array Oper} {xs : List Inf} {A : Nat → Ac} {S : Nat → St} {V : Nat → Value} {σ0 : Nm} {st0 : St} {w0 : World} {D D' : Nat → Prop} {s : Nat} {τ : Nm} {b : Ac} {act : Act} {w : World}

theorem fz_lt {w : World} {b : Nat} {o : Obj} (h : w.heap[b]? = some o) : b < w.heap.size := by
  rcases Nat.lt_or_ge b w.heap.size with h' | h'
  · exact h'
  · rw [Array.getElem?_eq_none h'] at h; cases h

theorem Inv.adv (T : Tr P rec ops xs A S V) (h : Inv P ops A S V σ0 st0 w0 D s τ b act w) (hs : s < ops.size) (hd : WM ops A s → D s) : Inv P ops A S V σ0 st0 w0 D (s + 1) τ b act w := by
  by_cases hm : WM ops A s
  · obtain ⟨o, el, z, B, g1, g2, g3, g4, g5, g6, g6b, g7⟩ := h.ghost s (hd hm) (Nat.le_refl s) hm
    obtain ⟨o', ho', hw, _⟩ := hm
    rw [g1] at ho'; cases ho'
    obtain ⟨z', hz, a1, a2⟩ := T.alloc g1 hw g2
    rw [g3] at hz; cases hz
    have hfl : z.all flat = true := (zeroL_ok g3).choose_spec.2.2
    obtain ⟨σ', s1, s1f, s2, s3, s4, s5⟩ := h.rel.named (o := rowOf z 0 true) (k := ⟨B, 0, z.length, 0, true⟩) g6b.1 (fun x kx h1 h2 => g7 x kx h1 h2) g6b.2 (fun ρ hρ1 hρ2 => by
      unfold rowOf
      rw [lenL_eq]
      refine ⟨rfl, rfl, (Bt.ofL_perf _ _).1, dep_le _, by rw [ofL_take]; exact flat_one hfl, z, el, g5, rfl, by simp, ?_⟩
      rw [ofL_take]
      simpa using VRL.flat (σ := ρ) hfl)
    rw [← a2] at s2 s5
    have hn : (S (s + 1)).next = (S s).next + 1 := by rw [a2]
    have hσ : σ' = cut (S (s + 1)).next τ := by
      refine Nm.ext (fun x => ?_) s1f
      rw [hn]
      by_cases e : x = (S s).next
      · subst e
        rw [s1, cut_some g4 (by omega)]
      · rw [s4 x e, cut_at, cut_at]
        by_cases e2 : x < (S s).next
        · rw [if_pos e2, if_pos (by omega)]
        · rw [if_neg e2, if_neg (by omega)]
    subst hσ
    have hlo := h.ext.next
    refine ⟨h.dom, h.ar, h.regs, hs, fun k hk hwm => ?_, s2, fun e he hle hwm => ?_, fun e e' k k' h1 h2 h3 h4 h5 h6 h7 => h.apart e e' k k' h1 (by omega) h3 h4 (by omega) h6 h7, fun nm k hk => ?_, ?_⟩
    · by_cases e : k = s
      · subst e; exact hd hwm
      · exact h.done k (by omega) hwm
    · obtain ⟨o2, el2, z2, B2, q1, q2, q3, q4, q5, q6, q6b, q7⟩ := h.ghost e he (by omega) hwm
      refine ⟨o2, el2, z2, B2, q1, q2, q3, q4, q5, q6, q6b, fun x kx hx hk => ?_⟩
      by_cases ex : x = (S s).next
      · subst ex
        rw [s1] at hk; cases hk
        exact h.apart s e _ _ (hd ⟨o, g1, hw, by rw [g2]; rfl⟩) (Nat.le_refl s) ⟨o, g1, hw, by rw [g2]; rfl⟩ he (by omega) hwm (by omega) g4 q4
      · rw [s4 x ex] at hk
        exact q7 x kx (s5 x hx ex) hk
    · rcases h.above nm k hk with h1 | ⟨e, h1, h2, h3, h4⟩
      · exact .inl (by rw [hn]; omega)
      · by_cases e2 : e = s
        · subst e2; exact .inl (by rw [hn]; omega)
        · exact .inr ⟨e, h1, by omega, h3, h4⟩
    · refine ⟨h.ext.sub.trans s3, by rw [hn]; omega, h.ext.size, fun c hc ⟨x, kx, h1, h2, h3⟩ => ?_, h.ext.kept, h.ext.tape, h.ext.os, h.ext.output, fun nm hnm => ?_, ?_⟩
      · by_cases ex : x = (S s).next
        · subst ex
          rw [s1] at h2; cases h2
          have h3 : B = c := h3
          omega
        · rw [s4 x ex] at h2
          exact h.ext.own c hc ⟨x, kx, s5 x h1 ex, h2, h3⟩
      · rw [s4 nm (by omega)]
        exact h.ext.low nm hnm
      · exact h.ext.fzn
  · have e := T.still hs hm
    refine ⟨h.dom, h.ar, h.regs, hs, fun k hk hwm => ?_, by rw [e]; exact h.rel, fun e' he hle hwm => ?_, fun e e' k k' h1 h2 h3 h4 h5 h6 h7 => h.apart e e' k k' h1 (by omega) h3 h4 (by omega) h6 h7, fun nm k hk => ?_, by rw [e]; exact h.ext⟩
    · by_cases ek : k = s
      · subst ek; exact absurd hwm hm
      · exact h.done k (by omega) hwm
    · rw [e]; exact h.ghost e' he (by omega) hwm
    · rw [e]
      rcases h.above nm k hk with h1 | ⟨e', h1, h2, h3, h4⟩
      · exact .inl h1
      · by_cases e2 : e' = s
        · subst e2; exact absurd h3 hm
        · exact .inr ⟨e', h1, by omega, h3, h4⟩

theorem Inv.advTo (T : Tr P rec ops xs A S V) : ∀ t, s ≤ t → t ≤ ops.size → (∀ k, s ≤ k → k < t → WM ops A k → D k) → Inv P ops A S V σ0 st0 w0 D s τ b act w → Inv P ops A S V σ0 st0 w0 D t τ b act w
  | 0, h1, _, _, h => by have : s = 0 := by omega
                         subst this; exact h
  | t + 1, h1, h2, h3, h => by
    by_cases e : s = t + 1
    · subst e; exact h
    · exact (Inv.advTo T t (by omega) (by omega) (fun k q1 q2 => h3 k q1 (by omega)) h).adv T (by omega) (h3 t (by omega) (by omega))

theorem Inv.advMax (T : Tr P rec ops xs A S V) : ∀ (m s : Nat), ops.size - s ≤ m → Inv P ops A S V σ0 st0 w0 D s τ b act w → ∃ t, s ≤ t ∧ Inv P ops A S V σ0 st0 w0 D t τ b act w ∧ (t = ops.size ∨ (WM ops A t ∧ ¬ D t))
  | 0, s, hm, h => ⟨s, Nat.le_refl s, h, .inl (by have := h.le; omega)⟩
  | m + 1, s, hm, h => by
    by_cases e : s = ops.size
    · exact ⟨s, Nat.le_refl s, h, .inl e⟩
    · by_cases hd : WM ops A s → D s
      · obtain ⟨t, h1, h2, h3⟩ := Inv.advMax T m (s + 1) (by omega) (h.adv T (by have := h.le; omega) hd)
        exact ⟨t, by omega, h2, h3⟩
      · exact ⟨s, Nat.le_refl s, h, .inr (Classical.not_imp.1 hd)⟩

/-- An operation that leaves the core's memory as it is told. -/
theorem Inv.quiet (T : Tr P rec ops xs A S V) (h : Inv P ops A S V σ0 st0 w0 D s τ b act w) {w2 : World} {φ : Fz} (x2 : Ext (cut (S s).next τ) (S s) w (cut (S s).next ⟨τ.nm, φ⟩) (S s) w2) (r2 : Rel (cut (S s).next ⟨τ.nm, φ⟩) (S s) w2)
    {i : Nat} {o : Oper} (ho : ops[i]? = some o) {v' : Value} (hv : VR ⟨τ.nm, φ⟩ (V i) v') {st st2 : St} {b' : Ac} (hp : b.put o.dst (V i) st = .ok b' st2) (hnm : ¬ WM ops A i) (hD : ∀ k, D' k ↔ D k ∨ k = i) :
    Inv P ops A S V σ0 st0 w0 D' s ⟨τ.nm, φ⟩ b' (act.put o.dst v') w2 := by
  have hsub : Sub τ ⟨τ.nm, φ⟩ := ⟨fun _ _ h => h, fun b c hb => x2.sub.fz b c hb⟩
  have back : ∀ e, D' e → WM ops A e → D e := fun e he hw => ((hD e).1 he).resolve_right (fun e' => by subst e'; exact hnm hw)
  refine ⟨fun nm k hk => ⟨(h.dom nm k hk).1, Nat.lt_of_lt_of_le (h.dom nm k hk).2.1 x2.size, (h.dom nm k hk).2.2⟩, (h.ar.mono hsub).put hp hv, h.regs.put T.ok ho hp (fun j o' t hj hne hd => T.uniq ho hj hne hd) hD, h.le, fun k hk hw => (hD k).2 (.inl (h.done k hk hw)), r2,
    fun e he hle hw => ?_, fun e e' k k' h1 h2 h3 h4 h5 h6 => h.apart e e' k k' (back e h1 h3) h2 h3 (back e' h4 h6) h5 h6, fun nm k hk => ?_, h.ext.trans x2⟩
  · obtain ⟨o2, el, z, B, q1, q2, q3, q4, q5, q6, q6b, q7⟩ := h.ghost e (back e he hw) hle hw
    refine ⟨o2, el, z, B, q1, q2, q3, q4, ?_, q6, ⟨Nat.lt_of_lt_of_le q6b.1 x2.size, fun c hc => q6b.2 c (x2.fzn B c q6b.1 hc)⟩, q7⟩
    rw [x2.kept B q6b.1 (fun ⟨x, kx, h1, h2, h3⟩ => q7 x kx h1 h2 h3)]
    exact q5
  · rcases h.above nm k hk with h1 | ⟨e, h1, h2⟩
    · exact .inl h1
    · exact .inr ⟨e, (hD e).2 (.inl h1), h2⟩

/-- An operation that works on memory, in its turn. -/
theorem Inv.turn (T : Tr P rec ops xs A S V) {i : Nat} (h : Inv P ops A S V σ0 st0 w0 D i τ b act w) {w2 : World} {σ' : Nm} (x2 : Ext (cut (S i).next τ) (S i) w σ' (S (i + 1)) w2) (r2 : Rel σ' (S (i + 1)) w2)
    {o : Oper} (ho : ops[i]? = some o) (hni : ¬ D i) {v' : Value} (hv : VR σ' (V i) v') {st st2 : St} {b' : Ac} (hp : b.put o.dst (V i) st = .ok b' st2) (hD : ∀ k, D' k ↔ D k ∨ k = i) (hdone : ∀ k, k < i → WM ops A k → D k) :
    ∃ τ', Inv P ops A S V σ0 st0 w0 D' (i + 1) τ' b' (act.put o.dst v') w2 := by
  have hi := op_lt ho
  let τ' : Nm := ⟨fun nm => if nm < (S (i + 1)).next then σ' nm else τ nm, σ'.fz⟩
  have hlt : ∀ nm, nm < (S (i + 1)).next → τ' nm = σ' nm := fun nm hn => if_pos hn
  have hge : ∀ nm, (S (i + 1)).next ≤ nm → τ' nm = τ nm := fun nm hn => if_neg (by omega)
  have hle := T.le1 hi
  have hcut : cut (S (i + 1)).next τ' = σ' := by
    refine Nm.ext (fun nm => ?_) rfl
    rw [cut_at]
    by_cases e : nm < (S (i + 1)).next
    · rw [if_pos e, hlt nm e]
    · rw [if_neg e]; exact ((r2.fresh nm (by omega)).1).symm
  have hlate : ∀ e, D e → i ≤ e → i + 1 ≤ e := fun e he hle => by
    by_cases e' : e = i
    · subst e'; exact absurd he hni
    · omega
  have hsub : Sub τ τ' := by
    refine ⟨fun nm k hk => ?_, fun b c hb => x2.sub.fz b c hb⟩
    rcases h.above nm k hk with h1 | ⟨e, h1, h2, h3, h4⟩
    · rw [hlt nm (by omega), x2.low nm h1]
      exact cut_some hk h1
    · have := hlate e h1 h2
      have hen : e ≤ ops.size := by obtain ⟨oe, hoe, _⟩ := h3; exact Nat.le_of_lt (op_lt hoe)
      have := T.le (i := i + 1) e this hen
      rw [hge nm (by omega)]; exact hk
  have hs2 : Sub σ' τ' := by
    refine ⟨fun nm k hk => ?_, fun _ _ h => h⟩
    have := r2.name_lt hk
    rw [hlt nm this]; exact hk
  have back : ∀ e, D' e → i + 1 ≤ e → D e := fun e he hle => ((hD e).1 he).resolve_right (by omega)
  refine ⟨τ', ⟨fun nm k hk => ?_, (h.ar.mono hsub).put hp (hv.mono hs2), h.regs.put T.ok ho hp (fun j o' t hj hne hd => T.uniq ho hj hne hd) hD, hi, fun k hk hw => ?_, by rw [hcut]; exact r2,
    fun e he hle2 hw => ?_, fun e e' k k' h1 h2 h3 h4 h5 h6 h7 h8 h9 => ?_, fun nm k hk => ?_, by rw [hcut]; exact h.ext.trans x2⟩⟩
  · by_cases e : nm < (S (i + 1)).next
    · rw [hlt nm e] at hk
      exact ⟨Nat.lt_of_lt_of_le e (T.le (i := i + 1) ops.size (by omega) (Nat.le_refl _)), r2.bnd nm k hk⟩
    · rw [hge nm (by omega)] at hk
      exact ⟨(h.dom nm k hk).1, Nat.lt_of_lt_of_le (h.dom nm k hk).2.1 x2.size, (h.dom nm k hk).2.2⟩
  · by_cases e : k = i
    · exact (hD k).2 (.inr e)
    · exact (hD k).2 (.inl (hdone k (by omega) hw))
  · obtain ⟨o2, el, z, B, q1, q2, q3, q4, q5, q6, q6b, q7⟩ := h.ghost e (back e he hle2) (by omega) hw
    have hun : ¬ Own (cut (S i).next τ) (S i) B := fun ⟨x, kx, h1, h2, h3⟩ => q7 x kx h1 h2 h3
    have := T.le (i := i + 1) e hle2 (Nat.le_of_lt (op_lt q1))
    refine ⟨o2, el, z, B, q1, q2, q3, by rw [hge _ this]; exact q4, by rw [x2.kept B q6b.1 hun]; exact q5, q6, ⟨Nat.lt_of_lt_of_le q6b.1 x2.size, fun c hc => q6b.2 c (x2.fzn B c q6b.1 hc)⟩, fun x kx hx hk hB => ?_⟩
    rw [hcut] at hk
    exact hun (x2.own B q6b.1 ⟨x, kx, hx, hk, hB⟩)
  · have e1 := T.le (i := i + 1) e h2 (by obtain ⟨oe, hoe, _⟩ := h3; exact Nat.le_of_lt (op_lt hoe))
    have e2 := T.le (i := i + 1) e' h5 (by obtain ⟨oe, hoe, _⟩ := h6; exact Nat.le_of_lt (op_lt hoe))
    rw [hge _ e1] at h8
    rw [hge _ e2] at h9
    exact h.apart e e' k k' (back e h1 h2) (by omega) h3 (back e' h4 h5) (by omega) h6 h7 h8 h9
  · by_cases e : nm < (S (i + 1)).next
    · exact .inl e
    · rw [hge nm (by omega)] at hk
      rcases h.above nm k hk with h1 | ⟨e2, h1, h2, h3, h4⟩
      · omega
      · exact .inr ⟨e2, (hD e2).2 (.inl h1), hlate e2 h1 h2, h3, h4⟩

/-- An alloc, early or not. -/
theorem Inv.early (T : Tr P rec ops xs A S V) (h : Inv P ops A S V σ0 st0 w0 D s τ b act w) {i : Nat} {o : Oper} (ho : ops[i]? = some o) (hni : ¬ D i) (hsi : s ≤ i) (hw : wantedA ops o (A i) = true) {el : TypeId} (hop : o.op = .alloc el)
    {z : List Value} (hz : zeroL P el = some z) {st st2 : St} {b' : Ac} (hp : b.put o.dst (V i) st = .ok b' st2) (hD : ∀ k, D' k ↔ D k ∨ k = i) :
    ∃ τ', Inv P ops A S V σ0 st0 w0 D' s τ' b' (act.put o.dst (.pointer (some ⟨w.heap.size, 0, none⟩))) { w with heap := w.heap.push (.cells ⟨z⟩ el) } := by
  have hi := op_lt ho
  obtain ⟨z', hz', a1, a2⟩ := T.alloc ho hw hop
  rw [hz] at hz'; cases hz'
  have hwm : WM ops A i := ⟨o, ho, hw, by rw [hop]; rfl⟩
  have hn1 : (S (i + 1)).next = (S i).next + 1 := by rw [a2]
  have hne : ∀ e, D e → s ≤ e → WM ops A e → (S e).next ≠ (S i).next := by
    intro e he hse hwe heq
    obtain ⟨oe, hoe, hwoe, hme⟩ := hwe
    rcases Nat.lt_trichotomy e i with h1 | h1 | h1
    · obtain ⟨o2, el2, z2, B2, q1, q2, _⟩ := h.ghost e he hse ⟨oe, hoe, hwoe, hme⟩
      rw [hoe] at q1; cases q1
      obtain ⟨_, _, _, b2⟩ := T.alloc hoe hwoe q2
      have : (S (e + 1)).next = (S e).next + 1 := by rw [b2]
      have := T.le (i := e + 1) i (by omega) (by omega)
      omega
    · subst h1; exact hni he
    · have := T.le (i := i + 1) e (by omega) (Nat.le_of_lt (op_lt hoe))
      omega
  have hsn := T.le (i := s) i hsi (by omega)
  have hnone : τ (S i).next = none := by
    cases hk : τ (S i).next with
    | none => rfl
    | some k =>
      rcases h.above _ k hk with h1 | ⟨e, h1, h2, h3, h4⟩
      · omega
      · exact absurd h4.symm (hne e h1 h2 h3)
  let k : Blk := ⟨w.heap.size, 0, z.length, 0, true⟩
  let τ' : Nm := ⟨fun nm => if nm = (S i).next then some k else τ nm, τ.fz⟩
  have hself : τ' (S i).next = some k := if_pos rfl
  have hoth : ∀ nm, nm ≠ (S i).next → τ' nm = τ nm := fun nm hn => if_neg hn
  have hsub : Sub τ τ' := by
    refine ⟨fun nm kk hk => ?_, fun _ _ h => h⟩
    rw [hoth nm (fun e => by rw [e, hnone] at hk; cases hk)]; exact hk
  have hcut : cut (S s).next τ' = cut (S s).next τ := by
    refine Nm.ext (fun nm => ?_) rfl
    rw [cut_at, cut_at]
    by_cases e : nm < (S s).next
    · rw [if_pos e, if_pos e, hoth nm (by omega)]
    · rw [if_neg e, if_neg e]
  have hold : ∀ c, c < w.heap.size → (w.heap.push (.cells ⟨z⟩ el))[c]? = w.heap[c]? := fun c hc => by simp [Array.getElem?_push, Nat.ne_of_lt hc]
  have r2 : Rel (cut (S s).next τ) (S s) { w with heap := w.heap.push (.cells ⟨z⟩ el) } :=
    ⟨fun nm ha => let ⟨kk, h1, h2⟩ := h.rel.obj nm ha; ⟨kk, h1, OR.mono (.refl _) (hold _ (h.rel.bound nm kk h1)) h2⟩, h.rel.apart, h.rel.fresh, fun nm kk hk => ⟨by have := h.rel.bound nm kk hk; simp; omega, (h.rel.bnd nm kk hk).2⟩, fun b c hb => ⟨(h.rel.fro b c hb).1.imp fun e he => (hold b (fz_lt he)).trans he, (h.rel.fro b c hb).2⟩⟩
  have x2 : Ext (cut (S s).next τ) (S s) w (cut (S s).next τ) (S s) { w with heap := w.heap.push (.cells ⟨z⟩ el) } :=
    ⟨.refl _, Nat.le_refl _, by simp, fun _ _ h => h, fun c hc _ => hold c hc, rfl, rfl, rfl, fun _ _ => rfl, fun _ _ _ h => h⟩
  refine ⟨τ', ⟨fun nm kk hk => ?_, (h.ar.mono hsub).put hp ?_, h.regs.put T.ok ho hp (fun j o' t hj hne hd => T.uniq ho hj hne hd) hD, h.le, fun j hj hwj => (hD j).2 (.inl (h.done j hj hwj)), by rw [hcut]; exact r2,
    fun e he hle hwe => ?_, fun e e' k1 k2 h1 h2 h3 h4 h5 h6 h7 h8 h9 => ?_, fun nm kk hk => ?_, by rw [hcut]; exact h.ext.trans x2⟩⟩
  · by_cases e : nm = (S i).next
    · subst e
      rw [hself] at hk; cases hk
      exact ⟨by have := T.le (i := i + 1) ops.size (by omega) (Nat.le_refl _); omega, by simp [k], fun _ => rfl⟩
    · rw [hoth nm e] at hk
      have := h.dom nm kk hk
      exact ⟨this.1, by simp; omega, this.2.2⟩
  · rw [a1]
    exact .ptr (S i).next 0 k hself
  · by_cases ei : e = i
    · subst ei
      refine ⟨o, el, z, w.heap.size, ho, hop, hz, hself, by simp, h.ext.size, ⟨by simp, fun c hc => by obtain ⟨⟨e', he'⟩, _⟩ := h.rel.fro _ c hc; have := fz_lt he'; omega⟩, fun x kx hx hk => ?_⟩
      rw [hcut] at hk
      have := h.rel.bound x kx hk
      omega
    · obtain ⟨o2, el2, z2, B, q1, q2, q3, q4, q5, q6, q6b, q7⟩ := h.ghost e (((hD e).1 he).resolve_right ei) hle hwe
      refine ⟨o2, el2, z2, B, q1, q2, q3, by rw [hoth _ (hne e (((hD e).1 he).resolve_right ei) hle hwe)]; exact q4, by rw [hold B q6b.1]; exact q5, q6, ⟨by have := q6b.1; simp; omega, q6b.2⟩, fun x kx hx hk => ?_⟩
      rw [hcut] at hk
      exact q7 x kx hx hk
  · by_cases e1 : e = i
    · subst e1
      rw [hself] at h8; cases h8
      have hDe : D e' := ((hD e').1 h4).resolve_right (fun e2 => h7 e2.symm)
      rw [hoth _ (hne e' hDe h5 h6)] at h9
      have := (h.dom _ _ h9).2.1
      show w.heap.size ≠ k2.b
      omega
    · have hDe : D e := ((hD e).1 h1).resolve_right e1
      rw [hoth _ (hne e hDe h2 h3)] at h8
      by_cases e2 : e' = i
      · subst e2
        rw [hself] at h9; cases h9
        have := (h.dom _ _ h8).2.1
        show k1.b ≠ w.heap.size
        omega
      · have hDe' : D e' := ((hD e').1 h4).resolve_right e2
        rw [hoth _ (hne e' hDe' h5 h6)] at h9
        exact h.apart e e' k1 k2 hDe h2 h3 hDe' h5 h6 h7 h8 h9
  · by_cases e : nm = (S i).next
    · exact .inr ⟨i, (hD i).2 (.inr rfl), hsi, hwm, e⟩
    · rw [hoth nm e] at hk
      rcases h.above nm kk hk with h1 | ⟨e2, h1, h2⟩
      · exact .inl h1
      · exact .inr ⟨e2, (hD e2).2 (.inl h1), h2⟩
end
end Go.Proofs.YtolgomkmilbkgaaGreat.Ev

set_option autoImplicit false
set_option linter.unusedVariables false
set_option linter.unusedSimpArgs false
namespace Go.Proofs.YtolgomkmilbkgaaGreat.Ev
open Go
section
variable {P : Program} {rec : Rec} {ops : Array Oper} {xs : List Inf} {A : Nat → Ac} {S : Nat → St} {V : Nat → Value} {σ0 : Nm} {st0 : St} {w0 : World} {D D' : Nat → Prop} {s : Nat} {τ : Nm} {b : Ac} {act : Act} {w : World}

theorem put_exists {a b : Ac} (hn : a.n = b.n) {dst : Option Tmp} {v : Value} {st : St} {a' : Ac} {st' : St} (h : a.put dst v st = .ok a' st') : ∃ b', b.put dst v st = .ok b' st := by
  cases dst with
  | none => exact ⟨b, rfl⟩
  | some d =>
    have h1 := ((put_ok2 h).2.2.2 d rfl).1
    obtain ⟨n, t, ds⟩ := b
    refine ⟨⟨n, (regAt d).s v t, ds⟩, ?_⟩
    show bsel (Nat.ble (Nat.succ d) n) (Ra.ok ⟨n, (regAt d).s v t, ds⟩ st) .no = _
    rw [ble_iff.2 (show Nat.succ d ≤ n by have hn : a.n = n := hn; rw [← hn]; exact h1)]
    rfl

theorem last_wm (i : Nat) : ∀ t, i ≤ t → (∀ k, i ≤ k → k < t → ¬ WM ops A k) ∨ ∃ q, i ≤ q ∧ q < t ∧ WM ops A q ∧ ∀ k, q < k → k < t → ¬ WM ops A k
  | 0, h => .inl (fun k h1 h2 => by omega)
  | t + 1, h => by
    by_cases e : i = t + 1
    · exact .inl (fun k h1 h2 => by omega)
    · by_cases hw : WM ops A t
      · exact .inr ⟨t, by omega, by omega, hw, fun k h1 h2 => by omega⟩
      · rcases last_wm i t (by omega) with h1 | ⟨q, h1, h2, h3, h4⟩
        · refine .inl fun k q1 q2 => ?_
          by_cases ek : k = t
          · subst ek; exact hw
          · exact h1 k q1 (by omega)
        · refine .inr ⟨q, h1, by omega, h3, fun k q1 q2 => ?_⟩
          by_cases ek : k = t
          · subst ek; exact hw
          · exact h4 k q1 (by omega)

/-- What a read yields, wherever it is done. -/
theorem Inv.readAt (T : Tr P rec ops xs A S V) (h : Inv P ops A S V σ0 st0 w0 D s τ b act w) (hcl : ∀ j x, D j → xs[j]? = some x → ∀ k, x.cl.testBit k = true → D k) {i : Nat} {o : Oper} {x : Inf} (ho : ops[i]? = some o) (hx : xs[i]? = some x)
    (hni : ¬ D i) (hci : ∀ k, x.cl.testBit k = true → D k) (hw : wantedA ops o (A i) = true) (hc : cls o.op = .reads) :
    ∃ t, Inv P ops A S V σ0 st0 w0 D t τ b act w ∧ opsBelow o.op (A i) (S t) = true ∧ stepS P rec (stpOf P o.op) (A i) (S t) = .ok (V i) (S t) := by
  have hi := op_lt ho
  have hf := T.fact i o x ho hx
  have hnm : ¬ WM ops A i := fun ⟨o2, q1, q2, q3⟩ => by
    rw [ho] at q1; cases q1
    rcases isMem_cls q3 with e | e <;> rw [hc] at e <;> cases e
  obtain ⟨g1, _, g3⟩ := hf.rd hw hc
  have hon := hf.on hw
  have hsame := reads_any hc hon
  rw [hsame] at hon
  obtain ⟨t, h1, h2, h3⟩ := h.advMax T (ops.size - s) s (Nat.le_refl _)
  refine ⟨t, h2, ?_⟩
  rcases Nat.lt_or_ge i t with hlt | hge
  · rcases last_wm (ops := ops) (A := A) i t (by omega) with hno | ⟨q, q1, q2, q3, q4⟩
    · rw [T.stills t (by omega) h2.le hno]
      exact ⟨g1, hon⟩
    · have hDq := h2.done q q2 q3
      have hst : S t = S (q + 1) := T.stills t (by omega) h2.le (fun k e1 e2 => q4 k (by omega) e2)
      rw [hst]
      obtain ⟨oq, hoq, hwq, hmq⟩ := q3
      obtain ⟨xq, hxq, hfq⟩ := T.op hoq
      have hqi : i < q := by
        rcases Nat.lt_or_eq_of_le q1 with e | e
        · exact e
        · subst e; exact absurd ⟨oq, hoq, hwq, hmq⟩ hnm
      rcases (hfq.mm hwq hmq).2.2.2 i o (Nat.zero_le _) hqi ho hw hc with hb | hb
      · rw [bit_test] at hb
        exact absurd (hcl q xq hDq hxq i hb) hni
      · exact hb
  · rcases h3 with h3 | ⟨h3, h4⟩
    · omega
    · have hti : t < i := by
        rcases Nat.lt_or_eq_of_le hge with e | e
        · exact e
        · subst e; exact absurd h3 hnm
      obtain ⟨ot, hot, hwt, hmt⟩ := h3
      rcases g3 t ot (Nat.zero_le _) hti hot hwt hmt with hb | hb
      · rw [bit_test] at hb
        exact absurd (hci t hb) h4
      · exact hb

theorem run_alloc {el : TypeId} {z : List Value} (hz : zeroL P el = some z) (w : World) : (Instr.alloc el true (.tuple #[])).run P w = .ok (.pointer (some ⟨w.heap.size, 0, none⟩)) { w with heap := w.heap.push (.cells ⟨z⟩ el) } := by
  obtain ⟨zv, h1, h2, h3⟩ := zeroL_ok hz
  unfold Instr.alloc
  simp only [Sem.run_bind, run_zeroValue h1, Result.andThen_ok, newVar, h2]
  simp [newRow]

/-- One operation of a drawn region, when its turn has been drawn. -/
theorem Inv.step (hrec : CodeOk P rec) (T : Tr P rec ops xs A S V) (h : Inv P ops A S V σ0 st0 w0 D s τ b act w) (hcl : ∀ j x, D j → xs[j]? = some x → ∀ k, x.cl.testBit k = true → D k) (hin : ∀ j, D j → j < ops.size)
    {i : Nat} {o : Oper} {x : Inf} (ho : ops[i]? = some o) (hx : xs[i]? = some x) (hni : ¬ D i) (hci : ∀ k, x.cl.testBit k = true → D k) (hD : ∀ k, D' k ↔ D k ∨ k = i) (n : Nat) (ro : Option Nat) {Q : Exit → Act → World → Prop} {K : Act → World → Prop}
    (hK : ∀ s' τ' b' act' w', Inv P ops A S V σ0 st0 w0 D' s' τ' b' act' w' → K act' w') : wpOpIn (Fr ro) n P ops Q i K act w := by
  have hf := T.fact i o x ho hx
  have hi := op_lt ho
  obtain ⟨ev, hwa⟩ := T.evals ho hx (b := b) (fun t ht hl => T.look hcl h.regs hx hni hci hin ht hl)
  have hn : (A i).n = b.n := (T.canon i (by omega)).1.trans h.regs.1.symm
  obtain ⟨b', hp⟩ := put_exists hn hf.put
  have hE : ∀ y, y ∈ o.op.operands.toList → VR τ (evalA b y) (act.eval y) := fun y hy => h.ar.eval (T.ok.opd o (mem_ops ho) y hy)
  have hdom : ∀ nm, (S ops.size).next ≤ nm → τ nm = none := fun nm hn => by
    cases hk : τ nm with
    | none => rfl
    | some k => have := (h.dom nm k hk).1; omega
  have hcong : ∀ st, stepS P rec (stpOf P o.op) b st = stepS P rec (stpOf P o.op) (A i) st := fun st => stepS_congr ev st
  unfold wpOpIn
  simp only [ho]
  rw [wanted_ok T.ok o h.ar, hwa]
  cases hw : wantedA ops o (A i) with
  | false =>
    rw [if_neg (by simp)]
    have hnm : ¬ WM ops A i := fun ⟨o2, q1, q2, q3⟩ => by rw [ho] at q1; cases q1; rw [hw] at q2; cases q2
    refine ⟨fun _ _ => trivial, hK s τ b' _ w (h.quiet T (.refl _ _ _) h.rel ho (v' := undef) ?_ hp hnm hD)⟩
    rw [(hf.off hw).1]
    exact .junk τ
  | true =>
    rw [if_pos rfl]
    have hon := hf.on hw
    cases hm : isMem o.op with
    | false =>
      have hnm : ¬ WM ops A i := fun ⟨o2, q1, q2, q3⟩ => by rw [ho] at q1; cases q1; rw [hm] at q3; cases q3
      rcases not_mem_cls hm with hc | hc
      · -- pure
        have hpure := (pure_any hc hon).2 ⟨heap0, (S ops.size).next⟩
        rw [← hcong] at hpure
        refine step_ok hrec hE hpure (Rel.nothing hdom (fun nm k hk => (h.dom nm k hk).2) h.rel.fzok) n ro fun σ' w' v' g1 g2 g3 => ?_
        have hσ : σ' = ⟨τ.nm, σ'.fz⟩ := by
          refine Nm.ext (fun nm => ?_) rfl
          by_cases e : nm < (S ops.size).next
          · exact g3.low nm e
          · rw [(g2.fresh nm (by show (S ops.size).next ≤ nm; omega)).1]
            exact (hdom nm (by omega)).symm
        have hold : ∀ c, c < w.heap.size → w'.heap[c]? = w.heap[c]? := fun c hc => g3.kept c hc fun ⟨y, ky, hy, _, _⟩ => dead_all _ y hy
        have hnew : ∀ b c, σ'.fz b = some c → τ.fz b = some c ∨ w.heap.size ≤ b := fun b c hb => by
          rcases Nat.lt_or_ge b w.heap.size with e | e
          · exact .inl (g3.fzn b c e hb)
          · exact .inr e
        have hR := h.rel.grow (w' := w') g3.size hold (φ := σ'.fz) (fun b c hb => g3.sub.fz b c hb) hnew g2.fzok
        rw [hσ] at g1
        exact hK s _ b' _ w' (h.quiet T (w2 := w') (φ := σ'.fz) ⟨⟨fun _ _ h => h, fun b c hb => g3.sub.fz b c hb⟩, Nat.le_refl _, g3.size, fun _ _ h => h, fun c hc _ => hold c hc, g3.tape, g3.os, g3.output, fun _ _ => rfl, g3.fzn⟩ hR ho g1 hp hnm hD)
      · -- reads
        obtain ⟨t, ht, g1, g2⟩ := h.readAt T hcl ho hx hni hci hw hc
        rw [← hcong] at g2
        refine step_ok hrec (fun y hy => ?_) g2 ht.rel n ro fun σ' w' v' q1 q2 q3 => ?_
        · refine below_vr 6 ?_ (hE y hy)
          rw [ev y hy]
          exact opsBelow_ok g1 hy
        · have hσ : σ' = cut (S t).next ⟨τ.nm, σ'.fz⟩ := by
            refine Nm.ext (fun nm => ?_) rfl
            rw [cut_at]
            by_cases e : nm < (S t).next
            · rw [if_pos e, q3.low nm e, cut_at, if_pos e]
            · rw [(q2.fresh nm (by omega)).1, if_neg e]
          have q1' := q1.mono (σ := σ') (τ := ⟨τ.nm, σ'.fz⟩) (by rw [hσ]; exact cut_sub _ _)
          exact hK t _ b' _ w' (ht.quiet T (φ := σ'.fz) (by rw [← hσ]; exact q3) (by rw [← hσ]; exact q2) ho q1' hp hnm hD)
    | true =>
      have hwm : WM ops A i := ⟨o, ho, hw, hm⟩
      have hsi : s ≤ i := by
        rcases Nat.lt_or_ge i s with e | e
        · exact absurd (h.done i e hwm) hni
        · exact e
      cases hal : isAlloc o.op with
      | true =>
        have hop : ∃ el, o.op = .alloc el := by
          unfold isAlloc at hal
          split at hal
          · exact ⟨_, by assumption⟩
          · cases hal
        obtain ⟨el, hop⟩ := hop
        obtain ⟨z, hz, _⟩ := T.alloc ho hw hop
        refine ⟨fun _ _ => trivial, ?_⟩
        show o.uponIn (Fr ro) n P act K Q ((o.semAt ro act.eval).run P w)
        rw [Oper.semAt_eq ro _ o (fun c e => by rw [hop] at e; cases e)]
        have hrun : (execOp act.eval o).run P w = .ok (.value (.pointer (some ⟨w.heap.size, 0, none⟩))) { w with heap := w.heap.push (.cells ⟨z⟩ el) } := by
          unfold execOp
          rw [hop]
          simp only [Sem.run_bind, run_alloc hz, Result.andThen_ok, Sem.run_pure]
        rw [hrun]
        obtain ⟨τ', hI⟩ := h.early T ho hni hsi hw hop hz hp hD
        exact hK s τ' b' _ _ hI
      | false =>
        have hst : isStrict o.op = true := by unfold isStrict; rw [hm, hal]; rfl
        have hdone : ∀ k, k < i → WM ops A k → D k := by
          intro k hk ⟨ok, hok, hwk, hmk⟩
          obtain ⟨xk, hxk, hxk2, _⟩ := T.R.inf k ok hok
          obtain ⟨o', ho', hx2, _⟩ := T.R.op hx
          rw [ho] at ho'; cases ho'
          exact hci k (T.R.order hxk hx hk (by rw [(infOf_ok hxk2).2.2.2.2]; exact hmk) (by rw [(infOf_ok hx2).2.2.2.1]; exact hst))
        have hI := Inv.advTo T i hsi (by omega) (fun k _ hk hwk => hdone k hk hwk) h
        obtain ⟨g1, _⟩ := hf.mm hw hm
        rw [← hcong] at hon
        refine step_ok hrec (fun y hy => ?_) hon hI.rel n ro fun σ' w' v' q1 q2 q3 => ?_
        · refine below_vr 6 ?_ (hE y hy)
          rw [ev y hy]
          exact opsBelow_ok g1 hy
        · obtain ⟨τ', hI'⟩ := hI.turn T q3 q2 ho hni q1 hp hD hdone
          exact hK (i + 1) τ' b' _ w' hI'
end
end Go.Proofs.YtolgomkmilbkgaaGreat.Ev

set_option autoImplicit false
set_option linter.unusedVariables false
set_option linter.unusedSimpArgs false
namespace Go.Proofs.YtolgomkmilbkgaaGreat.Ev
open Go

theorem countP_lt {p q : Nat → Bool} : ∀ {l : List Nat}, (∀ x, x ∈ l → q x = true → p x = true) → (∃ x, x ∈ l ∧ p x = true ∧ q x = false) → l.countP q < l.countP p
  | [], _, h => by obtain ⟨x, h, _⟩ := h; simp at h
  | y :: l, h1, h2 => by
    have hle : l.countP q ≤ l.countP p := List.countP_mono_left (fun x hx hq => h1 x (by simp [hx]) hq)
    rw [List.countP_cons, List.countP_cons]
    obtain ⟨x, hx, hp, hq⟩ := h2
    rcases List.mem_cons.1 hx with rfl | hx
    · rw [if_pos hp, if_neg (by simp [hq])]
      omega
    · have := countP_lt (p := p) (q := q) (l := l) (fun x hx hq => h1 x (by simp [hx]) hq) ⟨x, hx, hp, hq⟩
      have h3 := h1 y (by simp)
      by_cases hy : q y = true
      · rw [if_pos hy, if_pos (h3 hy)]; omega
      · rw [if_neg hy]; split <;> omega

theorem edges_lt : ∀ {es : List Edge} {acc : List Inf} {p : Nat × Nat}, edges acc es = some p → ∀ e, e ∈ es → Region.binds .any e = true → ∃ x, acc[e.on]? = some x
  | [], acc, p, h, e, he, _ => by simp at he
  | e0 :: es, acc, p, h, e, he, hb => by
    have h : bsel (Region.binds .any e0) (osel (edges acc es) none fun p => osel (nthI acc e0.on) none fun x =>
      some (Nat.lor p.1 (Nat.lor (Nat.shiftLeft 1 e0.on) x.cl), Nat.lor p.2 (Nat.lor x.dst x.dm))) (edges acc es) = some p := h
    rw [bsel_eq] at h
    split at h
    · obtain ⟨p', hp', h⟩ := osel_ne h (by simp)
      obtain ⟨x, hx, h⟩ := osel_ne h (by simp)
      rw [nthI_eq] at hx
      rcases List.mem_cons.1 he with rfl | he
      · exact ⟨x, hx⟩
      · exact edges_lt hp' e he hb
    · rename_i hnb
      rcases List.mem_cons.1 he with rfl | he
      · exact absurd hb hnb
      · exact edges_lt h e he hb

section
variable {P : Program} {rec : Rec} {ops : Array Oper} {xs : List Inf} {A : Nat → Ac} {S : Nat → St} {V : Nat → Value} {σ0 : Nm} {st0 : St} {w0 : World}

def Done (listed : Array Bool) (j : Nat) : Prop := listed.getD j false = true

theorem done_lt {listed : Array Bool} {j : Nat} (h : Done listed j) : j < listed.size := by
  unfold Done at h
  rcases Nat.lt_or_ge j listed.size with h' | h'
  · exact h'
  · simp [Array.getElem?_eq_none h'] at h

theorem done_getD {listed : Array Bool} {j : Nat} (hj : j < listed.size) : listed.getD j true = listed.getD j false := by
  simp [hj]

theorem done_set {listed : Array Bool} {i : Nat} (hi : i < listed.size) (k : Nat) : Done (listed.setIfInBounds i true) k ↔ Done listed k ∨ k = i := by
  unfold Done
  by_cases e : k = i
  · subst e; simp [hi]
  · rw [getD_set_ne false (Ne.symm e)]; simp [e]

theorem done_rep (n j : Nat) : ¬ Done (Array.replicate n false) j := by
  unfold Done
  simp only [Array.getD_eq_getD_getElem?, Array.getElem?_replicate]
  split <;> simp

/-- The whole region, in whatever order. -/
theorem any_ok (hrec : CodeOk P rec) (T : Tr P rec ops xs A S V) (n : Nat) (ro : Option Nat) {Q : Exit → Act → World → Prop}
    (hQ : ∀ σ' w' act', Rel σ' (S ops.size) w' → AR σ' (A ops.size) act' → Ext σ0 st0 w0 σ' (S ops.size) w' → Q .normal act' w') :
    ∀ (fuel : Nat) (listed : Array Bool) (s : Nat) (τ : Nm) (b : Ac) (act : Act) (w : World), listed.size = ops.size → (∀ j o, Done listed j → ops[j]? = some o → ∀ e, e ∈ o.after.toList → Region.binds .any e = true → Done listed e.on) →
      Inv P ops A S V σ0 st0 w0 (Done listed) s τ b act w → (List.range ops.size).countP (fun j => !listed.getD j false) ≤ fuel → wpAnyIn (Fr ro) n P .any ops Q fuel listed act w := by
  have fin : ∀ (listed : Array Bool) (s : Nat) (τ : Nm) (b : Ac) (act : Act) (w : World), (∀ j, j < ops.size → Done listed j) → listed.size = ops.size → Inv P ops A S V σ0 st0 w0 (Done listed) s τ b act w → Q .normal act w := by
    intro listed s τ b act w hall hsz h
    obtain ⟨t, h1, h2, h3⟩ := h.advMax T (ops.size - s) s (Nat.le_refl _)
    have ht : t = ops.size := by
      rcases h3 with h3 | ⟨⟨o, ho, _⟩, h4⟩
      · exact h3
      · exact absurd (hall t (op_lt ho)) h4
    subst ht
    have hcut : cut (S ops.size).next τ = τ := by
      refine Nm.ext (fun nm => ?_) rfl
      rw [cut_at]
      by_cases e : nm < (S ops.size).next
      · rw [if_pos e]
      · rw [if_neg e]
        cases hk : τ nm with
        | none => rfl
        | some k =>
          rcases h2.above nm k hk with h4 | ⟨e2, _, h4, ⟨o, ho, _⟩, _⟩
          · exact absurd h4 e
          · have := op_lt ho; omega
    have hr := h2.rel
    have hx := h2.ext
    rw [hcut] at hr hx
    refine hQ τ w act hr ?_ hx
    obtain ⟨⟨t1, t2, t3⟩, t4⟩ := h2.ar
    obtain ⟨c1, c2, c3⟩ := T.canon ops.size (Nat.le_refl _)
    obtain ⟨r1, r2, r3⟩ := h2.regs
    refine ⟨⟨by rw [c1, ← r1]; exact t1, by rw [c1, ← r1]; exact t2, fun i hi => ?_⟩, by rw [c2, ← r2]; exact t4⟩
    have heq : (regAt i).g (A ops.size).t = (regAt i).g b.t := by
      by_cases hex : ∃ (j : Nat) (o : Oper), ops[j]? = some o ∧ o.dst = some i
      · obtain ⟨j, o, hj, hd⟩ := hex
        rw [(c3 i hi).1 j o (op_lt hj) hj hd, (r3 i hi).1 j o (hall j (op_lt hj)) hj hd]
      · rw [(c3 i hi).2 (fun j o _ hj hd => hex ⟨j, o, hj, hd⟩), (r3 i hi).2 (fun j o _ hj hd => hex ⟨j, o, hj, hd⟩)]
    rw [heq]; exact t3 i hi
  have allDone : ∀ (listed : Array Bool), listed.size = ops.size → Region.ready .any ops listed = [] → ∀ j, j < ops.size → Done listed j := by
    intro listed hsz hre j
    induction j using Nat.strongRecOn with
    | _ j ih =>
      intro hj
      cases hd : listed.getD j false with
      | true => exact hd
      | false =>
        exfalso
        obtain ⟨o, ho⟩ := get_op hj
        obtain ⟨x, hx, hx2, _⟩ := T.R.inf j o ho
        have : j ∈ Region.ready .any ops listed := mem_ready.2 ⟨by rw [done_getD (by omega)]; exact hd, o, ho, fun e he hb => by
          obtain ⟨y, hy⟩ := edges_lt (infOf_ok hx2).1 e (by simpa using he) hb
          obtain ⟨hlt, _⟩ := take_at hy
          exact ih e.on hlt (by omega)⟩
        rw [hre] at this
        cases this
  intro fuel
  induction fuel with
  | zero =>
    intro listed s τ b act w hsz hcl h hc
    have hall : ∀ j, j < ops.size → Done listed j := by
      intro j hj
      have h0 : (List.range ops.size).countP (fun j => !listed.getD j false) = 0 := by omega
      rw [List.countP_eq_zero] at h0
      have := h0 j (by simpa using hj)
      simpa [Done] using this
    refine ⟨?_, fin listed s τ b act w hall hsz h⟩
    cases hre : Region.ready .any ops listed with
    | nil => rfl
    | cons j l =>
      exfalso
      have hj : j ∈ Region.ready .any ops listed := by rw [hre]; simp
      obtain ⟨h1, o, ho, _⟩ := mem_ready.1 hj
      have hj' := op_lt ho
      rw [done_getD (by omega)] at h1
      have := hall j hj'
      unfold Done at this
      rw [h1] at this; cases this
  | succ fuel ih =>
    intro listed s τ b act w hsz hcl h hc
    refine ⟨fun hre => fin listed s τ b act w (allDone listed hsz hre) hsz h, fun i hi => ?_⟩
    obtain ⟨h1, o, ho, h2⟩ := mem_ready.1 hi
    have hilt := op_lt ho
    rw [done_getD (by omega)] at h1
    obtain ⟨x, hx, _⟩ := T.R.inf i o ho
    have hD := done_set (listed := listed) (i := i) (by omega)
    refine h.step hrec T (fun j y hj hy k hk => ?_) (fun j hj => by rw [← hsz]; exact done_lt hj) ho hx (fun hd => by unfold Done at hd; rw [h1] at hd; cases hd)
      (T.R.closed hcl i x o hx ho (fun e he hb => h2 e (by simpa using he) hb)) hD n ro fun s' τ' b' act' w' hI => ?_
    · obtain ⟨oj, hoj, _⟩ := T.R.op hy
      exact T.R.closed hcl j y oj hy hoj (fun e he hb => hcl j oj hj hoj e he hb) k hk
    · refine ih _ s' τ' b' act' w' (by simpa using hsz) (fun j oj hj hoj e he hb => ?_) hI ?_
      · rw [hD] at hj ⊢
        rcases hj with hj | rfl
        · exact .inl (hcl j oj hj hoj e he hb)
        · rw [ho] at hoj; cases hoj
          exact .inl (h2 e (by simpa using he) hb)
      · have : (List.range ops.size).countP (fun j => !(listed.setIfInBounds i true).getD j false) < (List.range ops.size).countP (fun j => !listed.getD j false) := by
          refine countP_lt (fun j hj hq => ?_) ⟨i, by simpa using hilt, by simp only [h1]; rfl, ?_⟩
          · cases hd : listed.getD j false with
            | false => rfl
            | true =>
              have := (hD j).2 (.inl hd)
              unfold Done at this
              rw [this] at hq; cases hq
          · have := (hD i).2 (.inr rfl)
            unfold Done at this
            rw [this]; rfl
        omega

/-- A region keeps what is asked. -/
theorem reg_ok (hm : P.follows .mixedOrders = true) (hrec : CodeOk P rec) : RegOk P rec := by
  intro id ops draw ro a st x a' st' h σ w act ro' hr hA hro n Q hQ
  unfold evRegion at h
  cases hpl : planOf ops draw with
  | no => rw [hpl] at h; cases h
  | seq =>
    rw [hpl] at h
    have h : Ra.rec (motive := fun _ => Rc) .no (fun a st => .ok .normal a st) (seqOps P rec ops ops.toList a st) = .ok x a' st' := h
    cases hs : seqOps P rec ops ops.toList a st with
    | no => rw [hs] at h; cases h
    | ok a1 st1 =>
      rw [hs] at h
      cases h
      unfold planOf at hpl
      obtain ⟨hok, hpl⟩ := bsel_ne hpl (by simp)
      cases draw with
      | true =>
        exfalso
        have hpl : (match infs ops ops.toList [] 0 0 with | some xs => Plan.draw (xs.map fun (x : Inf) => x.cl) | none => .no) = .seq := hpl
        split at hpl <;> cases hpl
      | false => exact wpIn_region_list (seq_ok hrec (opsOk_ok hok) n ro' Q ops.toList a st a' st' (fun o ho => ho) hs σ w act hr hA hQ)
  | draw cl =>
    rw [hpl] at h
    have h : Ra.rec (motive := fun _ => Rc) .no (fun a st => .ok .normal a st) (drawOps P rec ops ops.toList cl 0 a st 0 [] []) = .ok x a' st' := h
    cases hs : drawOps P rec ops ops.toList cl 0 a st 0 [] [] with
    | no => rw [hs] at h; cases h
    | ok a1 st1 =>
      rw [hs] at h
      cases h
      unfold planOf at hpl
      obtain ⟨hok, hpl⟩ := bsel_ne hpl (by simp)
      cases draw with
      | false => cases hpl
      | true =>
        have hpl : (match infs ops ops.toList [] 0 0 with | some xs => Plan.draw (xs.map fun (x : Inf) => x.cl) | none => .no) = .draw cl := hpl
        split at hpl
        · rename_i xs hxs
          cases hpl
          obtain ⟨A, S, V, e1, e2, e3, e4, hF⟩ := draw_trace (ops := ops) ops.toList _ 0 a st 0 [] [] a' st' (fun j => by simp) (fun q hq => by simp at hq) (fun q hq => by simp at hq) hs
          simp only [Nat.zero_add, Array.length_toList] at e3 e4 hF
          have T : Tr P rec ops xs A S V := ⟨infs_region hxs, opsOk_ok hok, fun k o x ho hx => hF k o x.cl (by simpa using ho) (by simp [hx])⟩
          refine wpIn_region_any hm ?_
          have hrd := hr.drew
          have hcut : cut (S 0).next σ = σ := by
            refine Nm.ext (fun nm => ?_) rfl
            rw [cut_at, e2]
            by_cases e : nm < st.next
            · rw [if_pos e]
            · rw [if_neg e]; exact ((hr.fresh nm (by omega)).1).symm
          refine any_ok (σ0 := σ) (st0 := st) (w0 := { w with drawn := w.drawn + 1 }) hrec T n ro' (fun σ' w' act' r1 a1 x1 => ?_) ops.size (Array.replicate ops.size false) 0 σ a act _ (by simp) (fun j o hj => ?_) ?_ ?_
          · rw [e4] at r1 x1
            rw [e3] at a1
            exact hQ σ' w' act' r1 a1 ((Ext.drew σ st w).trans x1)
          · exact absurd hj (done_rep _ j)
          · have hno : ∀ j, ¬ Done (Array.replicate ops.size false) j := done_rep _
            refine ⟨fun nm k hk => ⟨Nat.lt_of_lt_of_le (hr.name_lt hk) (by rw [← e2]; exact T.le (i := 0) ops.size (Nat.zero_le _) (Nat.le_refl _)), hrd.bnd nm k hk⟩, hA, ⟨by rw [e1], by rw [e1], fun t ht => ⟨fun j o hj => absurd hj (hno j), fun _ => by rw [e1]⟩⟩, Nat.zero_le _, fun k hk => by omega, by rw [hcut, e2]; exact hrd,
              fun e he => absurd he (hno e), fun e e' k k' he => absurd he (hno e), fun nm k hk => .inl (by rw [e2]; exact hr.name_lt hk), by rw [hcut, e2]; exact .refl _ _ _⟩
          · exact Nat.le_trans List.countP_le_length (by simp)
        · cases hpl

/-- THE TOP: a call that the interpreter follows, in every order that the model may draw. -/
theorem calls_top (hm : P.follows .mixedOrders = true) {O : Orc} (hO : OrcOk P O) {K : Nat} {f : FuncId} {args args' : List Value} {v : Value} {σ : Nm} {st st' : St} {w : World} (h : callF P (evCode P O K) f args st = .ok v st') (hr : Rel σ st w) (ha : VRL σ args args') :
    Calls P f ⟨args'⟩ w (Ends σ st w v st') := calls_ok hO (fun rec hrec => reg_ok hm hrec) h hr ha
end
end Go.Proofs.YtolgomkmilbkgaaGreat.Ev

set_option autoImplicit false
set_option linter.unusedVariables false
set_option linter.unusedSimpArgs false
namespace Go.Proofs.YtolgomkmilbkgaaGreat.Ev
open Go
section
variable {P : Program}

/-- Where nothing is known yet: in every world. -/
theorem Rel.start (φ : Fz) {w : World} (hφ : FzOk φ w) : Rel (.pur φ) ⟨heap0, 0⟩ w :=
  Rel.nothing (fun _ _ => rfl) (fun nm k h => by have h : (none : Option Blk) = some k := h; cases h) hφ

/-- A call without arguments, in every world: what it returns; all memory that was there stays as it was. -/
theorem call0_top (hm : P.follows .mixedOrders = true) {O : Orc} (hO : OrcOk P O) {K : Nat} {f : FuncId} {v : Value} {st' : St} (h : call0 P O K f = .ok v st') (w : World) :
    Calls P f #[] w fun e w' => ∃ σ' v', e = .returned v' ∧ VR σ' v v' ∧ Rel σ' st' w' ∧ w.heap.size ≤ w'.heap.size ∧ (∀ b, b < w.heap.size → w'.heap[b]? = w.heap[b]?) ∧
      (∀ b, Own σ' st' b → w.heap.size ≤ b) ∧ w'.tape = w.tape ∧ w'.os = w.os ∧ w'.output = w.output := by
  have := calls_top hm hO h (Rel.start (fun _ => none) (w := w) (fun b c h => by cases h)) (args' := []) .nil
  intro cs
  obtain ⟨e, w', fr, ⟨σ', v', h1, h2, h3, h4⟩, rest⟩ := this cs
  have hno : ∀ b, ¬ Own (.pur fun _ => none) ⟨heap0, 0⟩ b := fun b ⟨x, k, ha, _, _⟩ => dead_all 0 x ha
  refine ⟨e, w', fr, ⟨σ', v', h1, h2, h3, h4.size, fun b hb => h4.kept b hb (hno b), fun b hb => ?_, h4.tape, h4.os, h4.output⟩, rest⟩
  rcases Nat.lt_or_ge b w.heap.size with h | h
  · exact absurd (h4.own b h hb) (hno b)
  · exact h

/-- A call that returns a truth value. -/
noncomputable def isTrue (r : Re) : Bool := Re.rec false (fun v _ => isBool v true) r

theorem call0_true (hm : P.follows .mixedOrders = true) {O : Orc} (hO : OrcOk P O) {K : Nat} {f : FuncId} (h : isTrue (call0 P O K f) = true) (w : World) :
    Calls P f #[] w fun e w' => e = .returned (.bool true) ∧ w.heap.size ≤ w'.heap.size ∧ (∀ b, b < w.heap.size → w'.heap[b]? = w.heap[b]?) ∧ w'.tape = w.tape ∧ w'.os = w.os ∧ w'.output = w.output := by
  cases hc : call0 P O K f with
  | no => rw [hc] at h; cases h
  | ok v st' =>
    rw [hc] at h
    have hv := isBool_iff.1 (show isBool v true = true from h)
    subst hv
    intro cs
    obtain ⟨e, w', fr, ⟨σ', v', h1, h2, h3, h4, h5, h6, h7, h8, h9⟩, rest⟩ := call0_top hm hO hc w cs
    have := bool_inv h2
    subst this
    exact ⟨e, w', fr, ⟨h1, h4, h5, h7, h8, h9⟩, rest⟩
end
end Go.Proofs.YtolgomkmilbkgaaGreat.Ev

set_option autoImplicit false
set_option linter.unusedVariables false
set_option linter.unusedSimpArgs false
namespace Go.Proofs.YtolgomkmilbkgaaGreat.Ev
open Go
section
variable {P : Program}

theorem pur_ends {φ : Fz} {w : World} {f : FuncId} {args' : List Value} (hφ : FzOk φ w) {v pv : Value} {st2 : St} {keep : Bool} {n : Nat} {ro : Option Nat} (hs : snapV keep st2 snapD v = some pv)
    (hcall : CallsIn (Fr ro) n P f ⟨args'⟩ w (Ends (.pur φ) ⟨heap0, 0⟩ w v st2)) : CallsIn (Fr ro) n P f ⟨args'⟩ w (PurEnds φ w pv) := by
  refine CallsIn.mono hcall fun e w' he => ?_
  obtain ⟨σ', v', rfl, hv, hr, hx⟩ := he
  have hlt : ∀ b c, φ b = some c → b < w.heap.size := fun b c hb => fz_lt (hφ b c hb).choose_spec
  have hno : ∀ b, ¬ Own (.pur φ) ⟨heap0, 0⟩ b := fun b ⟨x, k, hal, _, _⟩ => dead_all 0 x hal
  let φ' : Fz := fun b => match φ b with | some c => some c | none => if w.heap.size ≤ b then fzAll w' b else none
  have h1 : ∀ b c, φ b = some c → φ' b = some c := fun b c hb => by show (match φ b with | some c => some c | none => _) = _; rw [hb]
  have h2 : ∀ b c, w.heap.size ≤ b → fzAll w' b = some c → φ' b = some c := fun b c hb hc => by
    show (match φ b with | some c => some c | none => if w.heap.size ≤ b then fzAll w' b else none) = _
    cases hφb : φ b with
    | some c' => have := hlt b c' hφb; omega
    | none => simp only []; rw [if_pos hb]; exact hc
  have h3 : ∀ b c, φ' b = some c → φ b = some c ∨ (w.heap.size ≤ b ∧ fzAll w' b = some c) := fun b c hb => by
    have hb : (match φ b with | some c => some c | none => if w.heap.size ≤ b then fzAll w' b else none) = some c := hb
    split at hb
    · rename_i c' hc'; cases hb; exact .inl hc'
    · split at hb
      · exact .inr ⟨by assumption, hb⟩
      · cases hb
  have hok : FzOk φ' w' := fun b c hb => by
    rcases h3 b c hb with h | ⟨_, h⟩
    · obtain ⟨e, he⟩ := hφ b c h
      exact ⟨e, (hx.kept b (fz_lt he) (hno b)).trans he⟩
    · exact fzAll_ok w' b c h
  refine ⟨φ', v', rfl, snap_ok hr (fun b c hb => ?_) snapD hs hv (.inr fun nm k c e hal hk hw => ?_), h1, fun b c hb => (h3 b c hb).imp id And.left, hok, hx.size, fun b hb => hx.kept b hb (hno b), hx.tape, hx.os, hx.output⟩
  · rcases Nat.lt_or_ge b w.heap.size with hl | hl
    · exact h1 b c (hx.fzn b c hl hb)
    · obtain ⟨e, he⟩ := hr.fzok b c hb
      exact h2 b c hl (fzAll_eq he)
  · rcases Nat.lt_or_ge k.b w.heap.size with hl | hl
    · exact absurd (hx.own k.b hl ⟨nm, k, hal, hk, rfl⟩) (hno _)
    · exact h2 k.b c hl (fzAll_eq hw)

/-- A run from nothing says what the call does with values without names, in every world. -/
theorem pur_of_run (hm : P.follows .mixedOrders = true) {O : Orc} (hO : OrcOk P O) {K : Nat} {f : FuncId} {args : List Value} {v pv : Value} {st2 : St} {keep : Bool}
    (h : callF P (evCode P O K) f args ⟨heap0, 0⟩ = .ok v st2) (hs : snapV keep st2 snapD v = some pv) : PurOk P f args pv :=
  fun φ w args' hφ ha n ro => pur_ends hφ hs (callF_ok (code_ok hO (fun rec hrec => reg_ok hm hrec) K) h (Rel.start φ hφ) ha n ro)

/-- What is known of pure calls, as an oracle. -/
structure Known1 where
  f : FuncId
  keep : Bool
  g : List Value → Option Value

theorem OrcOk.noneCall {O : Orc} (h1 : ∀ f args st, O.call f args st = .no) (h2 : ∀ (f : FuncId) (p : Pf), O.pur f = some p → ∀ args v, p.g args = some v → PurOk P f args v) : OrcOk P O :=
  ⟨fun f args st v st' h => absurd (by rw [h1] at h; exact h) Re.no_ne, h2⟩
end
end Go.Proofs.YtolgomkmilbkgaaGreat.Ev

set_option autoImplicit false
set_option linter.unusedVariables false
set_option linter.unusedSimpArgs false
namespace Go.Proofs.YtolgomkmilbkgaaGreat.Ev
open Go
noncomputable section

/-! # What must hold ahead of a piece of code, so that it ends well: worked out by the kernel, read by a prover -/

/-! These are inductive, so that the kernel compares them part by part and never unfolds them. -/
inductive bindP (r : Re) (F : Value → St → Prop) : Prop
  | mk (v : Value) (st : St) (h : r = .ok v st) (hF : F v st) : bindP r F
inductive bindO (x : Option Value) (F : Value → Prop) : Prop
  | mk (v : Value) (h : x = some v) (hF : F v) : bindO x F
def guarded (w : Bool) (r : Re) (st : St) : Re := bsel w r (.ok junk st)
def guardO (w : Bool) (x : Option Value) : Option Value := bsel w x (some junk)

/-- A call that is known. -/
def pcall (O : Orc) (k : FuncId) (args : List Value) (st : St) : Option Value := osel (O.pur k) none fun p => purS p args st

/-- A call of a function value, from some depth on. -/
def CallP (P : Program) (O : Orc) (fv : Value) (args : List Value) (st : St) (F : Value → St → Prop) : Prop := ∃ K v st', (∀ K', K ≤ K' → callV P (evCode P O K') fv args st = .ok v st') ∧ F v st'
def callG (w : Bool) (P : Program) (O : Orc) (fv : Value) (args : List Value) (st : St) (F : Value → St → Prop) : Prop := bsel w (CallP P O fv args st F) (F junk st)

def statOf (isP : FuncId → Bool) (f : Operand) : Option FuncId := Operand.casesOn f (fun _ => none) (fun _ => none) (fun _ => none) (fun k => bsel (isP k) (some k) none)
def feB (P : Program) (k : FuncId) : Bool := Fe.rec false (fun _ _ _ => true) (feOf P k)

def isKnown (isP : FuncId → Bool) (s : Stp) : Bool := Stp.rec (fun _ => false) (fun f _ => osel (statOf isP f) false fun _ => true) s

/-- An operation: what it yields is handed on. -/
def opP (P : Program) (O : Orc) (isP : FuncId → Bool) (w : Bool) (s : Stp) (a : Ac) (st : St) (F : Value → St → Prop) : Prop :=
  Stp.rec (fun f => OpF.rec False (fun f => bindP (guarded w (f a st) st) F) f)
    (fun f args => osel (statOf isP f) (callG w P O (evalA a f) (mapE a args) st F) fun k => bsel (feB P k) (bindO (guardO w (pcall O k (mapE a args) st)) fun v => F v st) False) s

/-- What is but moved. -/
def valOp (o : Op) : Option Operand := match o with | .move x | .assign x => some x | _ => none
def movOf (o : Oper) : Option Operand := match o.guard with | none => valOp o.op | some _ => none
def putP (a : Ac) (dst : Option Tmp) (v : Value) (F : Ac → Prop) : Prop := Ra.rec False (fun a _ => F a) (a.put dst v ⟨heap0, 0⟩)

def seqP (P : Program) (O : Orc) (isP : FuncId → Bool) (ops : Array Oper) (Q : Ac → St → Prop) (l : List Oper) : Ac → St → Prop :=
  List.rec (fun a st => Q a st) (fun o _ ih a st => osel (movOf o) (opP P O isP (wantedA ops o a) (stpOf P o.op) a st fun v st' => putP a o.dst v fun a' => ih a' st') fun x => putP a o.dst (evalA a x) fun a' => ih a' st) l

def andP (c : Bool) (p : Prop) : Prop := c = true ∧ p
def belL (vs : List Value) (st : St) : Bool := St.rec (fun _ n => vs.all (belowV 6 n)) st
def orN (w c : Bool) : Bool := bsel w c true

def clN (c : Cls) : Nat := Cls.rec 0 1 2 3 c
def clsK {β : Type} (c : Cls) (p r m : β) : β := Cls.rec p r m m c

/-- A drawn region whose checks need no memory (easy): what is left of them. -/
def drawP (P : Program) (O : Orc) (isP : FuncId → Bool) (ops : Array Oper) (Q : Ac → St → Prop) (l : List Oper) : Ac → St → Prop :=
  List.rec (fun a st => Q a st) (fun o _ ih a st =>
    osel (movOf o) (clsK (cls o.op)
      (opP P O isP (wantedA ops o a) (stpOf P o.op) a st fun v st' => putP a o.dst v fun a' => ih a' st')
      (opP P O isP (wantedA ops o a) (stpOf P o.op) a st fun v st' => andP (orN (wantedA ops o a) (opsBelow o.op a st)) (putP a o.dst v fun a' => ih a' st'))
      (bsel (isKnown isP (stpOf P o.op))
        (opP P O isP (wantedA ops o a) (stpOf P o.op) a st fun v st' => andP (orN (wantedA ops o a) (opsBelow o.op a st)) (putP a o.dst v fun a' => ih a' st'))
        (opP P O isP (wantedA ops o a) (stpOf P o.op) a st fun v st' => andP (orN (wantedA ops o a) (bsel (opsBelow o.op a st) (nextLe st st') false)) (putP a o.dst v fun a' => ih a' st')))) fun x => putP a o.dst (evalA a x) fun a' => ih a' st) l

/-- What is known of an operation for the check: 0 nothing, 1 reads, 2 a known call, 3 works on memory, 4 makes memory. -/
def kindOf (P : Program) (isP : FuncId → Bool) (o : Oper) : Nat := Cls.rec 0 1 4 (bsel (isKnown isP (stpOf P o.op)) 2 3) (cls o.op)

/-- Between i and the end of the list of kinds (the last one first) nothing works on memory; nothing but what makes some. -/
def noneMem (ks : List Nat) (n : Nat) : Bool := List.rec (fun _ => true) (fun k _ ih n => Nat.rec true (fun m _ => bsel (Nat.ble 3 k) false (ih m)) n) ks n
def noneAct (ks : List Nat) (n : Nat) : Bool := List.rec (fun _ => true) (fun k _ ih n => Nat.rec true (fun m _ => bsel (Nat.beq k 3) false (ih m)) n) ks n

/-- ks: the kinds of before, the last one first (i of them). -/
def easyOne (m k i : Nat) (ks : List Nat) : Bool :=
  (List.range i).all fun j => bsel (bit m j) true (
    let kj := nthN ks (Nat.sub (Nat.sub i 1) j)
    bsel (Nat.beq k 1) (bsel (Nat.beq kj 2) (noneMem ks (Nat.sub i j)) (bsel (Nat.ble 3 kj) false true))
      (bsel (Nat.beq k 2) (bsel (Nat.beq kj 1) (noneAct ks (Nat.sub i j)) true)
        (bsel (Nat.beq k 3) (bsel (Nat.beq kj 1) false true)
          (bsel (Nat.beq k 4) (bsel (Nat.beq kj 1) (noneAct ks (Nat.sub i j)) true) true))))

def easyL (P : Program) (isP : FuncId → Bool) : List Oper → List Nat → Nat → List Nat → Bool
  | [], _, _, _ => true
  | o :: l, m :: cl, i, ks => bsel (easyOne m (kindOf P isP o) i ks) (easyL P isP l cl (i + 1) (kindOf P isP o :: ks)) false
  | _, _, _, _ => false

def regP (P : Program) (O : Orc) (isP : FuncId → Bool) (ops : Array Oper) (draw : Bool) (a : Ac) (st : St) (Q : Ac → St → Prop) : Prop :=
  Plan.rec False (seqP P O isP ops Q ops.toList a st) (fun cl => bsel (easyL P isP ops.toList cl 0 []) (drawP P O isP ops Q ops.toList a st) (∃ K a' st', (∀ K', K ≤ K' → evRegion P (evCode P O K') ops draw a st = .ok .normal a' st') ∧ Q a' st')) (planOf ops draw)

/-- A piece of code, from some depth on. -/
def RunsC (P : Program) (O : Orc) (c : Code) (ro : Option Nat) (a : Ac) (st : St) (Q : Xit → Ac → St → Prop) : Prop := ∃ K x a' st', (∀ K', K ≤ K' → evCode P O K' c ro a st = .ok x a' st') ∧ Q x a' st'

inductive condP (v : Value) (A B : Prop) : Prop
  | tt (h : v = .bool true) (hA : A) : condP v A B
  | ff (h : v = .bool false) (hB : B) : condP v A B

def wp (P : Program) (O : Orc) (isP : FuncId → Bool) (ro : Option Nat) : Code → Ac → St → (Xit → Ac → St → Prop) → Prop
  | .skip, a, st, Q => Q .normal a st
  | .label _, a, st, Q => Q .normal a st
  | .region _ ops draw, a, st, Q => regP P O isP ops draw a st fun a st => Q .normal a st
  | .seq x y, a, st, Q => wp P O isP ro x a st fun xt a st => Xit.rec (wp P O isP ro y a st Q) (fun id => Q (.exit id) a st) (fun l => Q (.goto l) a st) (Q .ret a st) xt
  | .cond c x y, a, st, Q => bsel (okOpd c) (condP (evalA a c) (wp P O isP ro x a st Q) (wp P O isP ro y a st Q)) False
  | .block id x, a, st, Q => wp P O isP ro x a st fun xt a st => Xit.rec (Q .normal a st) (fun j => bsel (Nat.beq j id) (Q .normal a st) (Q (.exit j) a st)) (fun l => Q (.goto l) a st) (Q .ret a st) xt
  | .loop x, a, st, Q => RunsC P O (.loop x) ro a st Q
  | .rangeFunc f ps as bo, a, st, Q => RunsC P O (.rangeFunc f ps as bo) ro a st Q
  | .exit id, a, st, Q => Q (.exit id) a st
  | .ret, a, st, Q => Q .ret a st
  | .goto l, a, st, Q => Q (.goto l) a st
  | .scope x, a, st, Q => wp P O isP ro x a st fun xt a st => Xit.rec (Q .normal a st) (fun j => Q (.exit j) a st) (fun _ => False) (Q .ret a st) xt
  | .refuse _, _, _, _ => False

/-- A function's way out. -/
def outP (P : Program) (fn : Func) (x : Xit) (a : Ac) (st : St) (F : Value → St → Prop) : Prop :=
  Xit.rec (Rs.rec False (fun st => bindP (resultsA P fn a st) F) (leaveA a.defers st)) (fun _ => False) (fun _ => False) (Rs.rec False (fun st => bindP (resultsA P fn a st) F) (leaveA a.defers st)) x

def wpF (P : Program) (O : Orc) (isP : FuncId → Bool) (f : FuncId) (args : List Value) (st : St) (F : Value → St → Prop) : Prop :=
  Fe.rec False (fun c n fn => bsel (Nat.ble (lenL args) n) (wp P O isP none c (Ac.ofArgs args n) st fun x a st => outP P fn x a st F) False) (feOf P f)

end
end Go.Proofs.YtolgomkmilbkgaaGreat.Ev

set_option autoImplicit false
set_option linter.unusedVariables false
set_option linter.unusedSimpArgs false
namespace Go.Proofs.YtolgomkmilbkgaaGreat.Ev
open Go
section
variable {P : Program} {O : Orc} {isP : FuncId → Bool}

theorem bindP_ok {r : Re} {F : Value → St → Prop} (h : bindP r F) : ∃ v st, r = .ok v st ∧ F v st := by
  obtain ⟨v, st, h1, h2⟩ := h
  exact ⟨v, st, h1, h2⟩
theorem bindO_ok {x : Option Value} {F : Value → Prop} (h : bindO x F) : ∃ v, x = some v ∧ F v := by
  obtain ⟨v, h1, h2⟩ := h
  exact ⟨v, h1, h2⟩
/-- A move. -/
theorem val_ok {ops : Array Oper} {o : Oper} {x : Operand} (h : movOf o = some x) (a : Ac) : wantedA ops o a = true ∧ cls o.op = .pure ∧ ∀ rec st, stepS P rec (stpOf P o.op) a st = .ok (evalA a x) st := by
  unfold movOf at h
  cases hg : o.guard with
  | some g => rw [hg] at h; cases h
  | none =>
    rw [hg] at h
    have h : valOp o.op = some x := h
    refine ⟨?_, ?_⟩
    · show Gd.rec true false (fun d want => isBool (a.get d) want) (gdOf ops o) = true
      unfold gdOf; rw [hg]
    · cases ho : o.op <;> rw [ho] at h <;> first | (cases h; exact ⟨rfl, fun _ _ => rfl⟩) | (cases h)
theorem bselP {b : Bool} {A : Prop} (h : bsel b A False) : b = true ∧ A := by
  cases b with
  | true => exact ⟨rfl, h⟩
  | false => exact h.elim

theorem statOf_some {f : Operand} {k : FuncId} (h : statOf isP f = some k) : f = .func k ∧ isP k = true := by
  cases f with
  | func j =>
    have h : bsel (isP j) (some j) none = some k := h
    obtain ⟨hb, h⟩ := bsel_ne h (by simp)
    cases h
    exact ⟨rfl, hb⟩
  | _ => cases h

theorem feB_ok {k : FuncId} (h : feB P k = true) : ∃ c n fn, feOf P k = .mk c n fn := by
  unfold feB at h
  cases hf : feOf P k with
  | no => rw [hf] at h; cases h
  | mk c n fn => exact ⟨c, n, fn, rfl⟩

theorem callF_known {k : FuncId} {args : List Value} {st : St} {v : Value} (h : pcall O k args st = some v) (K : Nat) : callF P (evCode P O (K + 1)) k args st = .ok v st := by
  unfold pcall at h
  obtain ⟨p, hp, h⟩ := osel_ne h (by simp)
  unfold callF
  have : (evCode P O (K + 1)).pur k = O.pur k := rfl
  rw [this, hp, osel_some, h, osel_some]

/-- An operation, from some depth on. -/
theorem opP_ok {w : Bool} {s : Stp} {a : Ac} {st : St} {F : Value → St → Prop} (h : opP P O isP w s a st F) :
    ∃ K v st', F v st' ∧ (w = false → v = junk ∧ st' = st) ∧ (w = true → ∀ K', K ≤ K' → stepS P (evCode P O K') s a st = .ok v st') ∧ (isKnown isP s = true → st' = st ∧ (w = true → ∀ K', K ≤ K' → calm (evCode P O K') s a st = true)) := by
  cases s with
  | op f =>
    cases f with
    | no => exact h.elim
    | mk f =>
      have h : bindP (guarded w (f a st) st) F := h
      obtain ⟨v, st', h1, h2⟩ := bindP_ok h
      cases w with
      | true => exact ⟨0, v, st', h2, fun e => (by cases e), fun _ K' _ => h1, fun e => (by cases e)⟩
      | false => cases h1; exact ⟨0, junk, st, h2, fun _ => ⟨rfl, rfl⟩, fun e => (by cases e), fun e => (by cases e)⟩
  | call f args =>
    have h : osel (statOf isP f) (callG w P O (evalA a f) (mapE a args) st F) (fun k => bsel (feB P k) (bindO (guardO w (pcall O k (mapE a args) st)) fun v => F v st) False) := h
    cases hs : statOf isP f with
    | none =>
      rw [hs] at h
      have hk : isKnown isP (.call f args) = false := by
        show osel (statOf isP f) false (fun _ => true) = false
        rw [hs]; rfl
      cases w with
      | true =>
        obtain ⟨K, v, st', h1, h2⟩ := h
        exact ⟨K, v, st', h2, fun e => (by cases e), fun _ K' hK => h1 K' hK, fun e => by rw [hk] at e; cases e⟩
      | false => exact ⟨0, junk, st, h, fun _ => ⟨rfl, rfl⟩, fun e => (by cases e), fun e => by rw [hk] at e; cases e⟩
    | some k =>
      rw [hs, osel_some] at h
      obtain ⟨hf, hb1⟩ := bselP h
      clear h
      obtain ⟨v, h1, h2⟩ := bindO_ok hb1
      clear hb1
      obtain ⟨rfl, hisP⟩ := statOf_some hs
      cases w with
      | false => cases h1; exact ⟨0, junk, st, h2, fun _ => ⟨rfl, rfl⟩, fun e => (by cases e), fun _ => ⟨rfl, fun e => by cases e⟩⟩
      | true =>
        have h1 : pcall O k (mapE a args) st = some v := h1
        obtain ⟨c, n, fn, hfe⟩ := feB_ok hf
        have hcalm : ∀ K', 1 ≤ K' → calm (evCode P O K') (.call (.func k) args) a st = true := fun K' hK => by
          obtain ⟨K'', rfl⟩ : ∃ j, K' = j + 1 := ⟨K' - 1, by omega⟩
          show osel (O.pur k) false (fun p => osel (purS p ([] ++ mapE a args ++ []) st) false fun _ => true) = true
          unfold pcall at h1
          obtain ⟨p, hp, h1⟩ := osel_ne h1 (by simp)
          rw [hp, osel_some, List.nil_append, List.append_nil, h1]
          rfl
        refine ⟨1, v, st, h2, fun e => (by cases e), fun _ K' hK => ?_, fun _ => ⟨rfl, fun _ => hcalm⟩⟩
        obtain ⟨K'', rfl⟩ : ∃ j, K' = j + 1 := ⟨K' - 1, by omega⟩
        show callV P (evCode P O (K'' + 1)) (.func (.func k) #[] #[]) (mapE a args) st = .ok v st
        unfold callV
        simp only [hfe]
        show callF P (evCode P O (K'' + 1)) k ([] ++ mapE a args ++ []) st = .ok v st
        rw [List.nil_append, List.append_nil]
        exact callF_known h1 K''

theorem putP_ok {a : Ac} {dst : Option Tmp} {v : Value} {F : Ac → Prop} (h : putP a dst v F) : ∃ a', (∀ st, a.put dst v st = .ok a' st) ∧ F a' := by
  unfold putP at h
  cases hp : a.put dst v ⟨heap0, 0⟩ with
  | no => rw [hp] at h; exact h.elim
  | ok a' st' =>
    rw [hp] at h
    refine ⟨a', fun st => ?_, h⟩
    obtain ⟨n, t, ds⟩ := a
    cases dst with
    | none => cases hp; rfl
    | some d =>
      have hp : bsel (Nat.ble (Nat.succ d) n) (Ra.ok ⟨n, (regAt d).s v t, ds⟩ ⟨heap0, 0⟩) .no = .ok a' st' := hp
      show bsel (Nat.ble (Nat.succ d) n) (Ra.ok ⟨n, (regAt d).s v t, ds⟩ st) .no = .ok a' st
      cases hb : Nat.ble (Nat.succ d) n with
      | false => rw [hb] at hp; cases hp
      | true => rw [hb] at hp; cases hp; rfl

/-- One operation in its place. -/
theorem one_ok2 {ops : Array Oper} {o : Oper} {a : Ac} {st : St} {G : Ac → St → Prop} (h : opP P O isP (wantedA ops o a) (stpOf P o.op) a st fun v st' => putP a o.dst v fun a' => G a' st') :
    ∃ K a' st', G a' st' ∧ ∀ K', K ≤ K' → seqOne P (evCode P O K') ops o a st = .ok a' st' := by
  obtain ⟨K, v, st', h1, h2, h3, _⟩ := opP_ok h
  obtain ⟨a', h4, h5⟩ := putP_ok h1
  refine ⟨K, a', st', h5, fun K' hK => ?_⟩
  unfold seqOne
  cases hw : wantedA ops o a with
  | true =>
    rw [bsel_true, h3 hw K' hK]
    exact h4 st'
  | false =>
    obtain ⟨rfl, rfl⟩ := h2 hw
    rw [bsel_false]
    exact h4 _

theorem seqP_ok {ops : Array Oper} {Q : Ac → St → Prop} : ∀ {l : List Oper} {a : Ac} {st : St}, seqP P O isP ops Q l a st → ∃ K a' st', Q a' st' ∧ ∀ K', K ≤ K' → seqOps P (evCode P O K') ops l a st = .ok a' st'
  | [], a, st, h => ⟨0, a, st, h, fun _ _ => rfl⟩
  | o :: l, a, st, h => by
    have h : osel (movOf o) (opP P O isP (wantedA ops o a) (stpOf P o.op) a st fun v st' => putP a o.dst v fun a' => seqP P O isP ops Q l a' st') (fun x => putP a o.dst (evalA a x) fun a' => seqP P O isP ops Q l a' st) := h
    have hone : ∃ K1 a1 st1, seqP P O isP ops Q l a1 st1 ∧ ∀ K', K1 ≤ K' → seqOne P (evCode P O K') ops o a st = .ok a1 st1 := by
      cases hv : movOf o with
      | none => rw [hv] at h; exact one_ok2 h
      | some x =>
        rw [hv] at h
        obtain ⟨a1, g1, g2⟩ := putP_ok (h : putP a o.dst (evalA a x) fun a' => seqP P O isP ops Q l a' st)
        obtain ⟨e1, _, e3⟩ := val_ok (P := P) (ops := ops) hv a
        refine ⟨0, a1, st, g2, fun K' _ => ?_⟩
        unfold seqOne
        rw [e1, bsel_true, e3]
        exact g1 st
    obtain ⟨K1, a1, st1, h1, h2⟩ := hone
    obtain ⟨K2, a2, st2, h3, h4⟩ := seqP_ok h1
    refine ⟨max K1 K2, a2, st2, h3, fun K' hK => ?_⟩
    show Ra.rec (motive := fun _ => Ra) .no (fun a st => seqOps P (evCode P O K') ops l a st) (seqOne P (evCode P O K') ops o a st) = _
    rw [h2 K' (by omega)]
    exact h4 K' (by omega)

/-! ## Drawn regions -/
theorem nthN_lt {ks : List Nat} : ∀ {n : Nat}, nthN ks n = ks.getD n 0 := by
  induction ks with
  | nil => intro n; rfl
  | cons k ks ih =>
    intro n
    cases n with
    | zero => rfl
    | succ n => show nthN ks n = _; rw [ih]; rfl

theorem noneMem_succ (k : Nat) (ks : List Nat) (n : Nat) : noneMem (k :: ks) (n + 1) = bsel (Nat.ble 3 k) false (noneMem ks n) := rfl
theorem noneAct_succ (k : Nat) (ks : List Nat) (n : Nat) : noneAct (k :: ks) (n + 1) = bsel (Nat.beq k 3) false (noneAct ks n) := rfl

/-- The check's lists, by the kinds of the operations of before. -/
structure DI (ks : List Nat) (i ver : Nat) (hist : List Hist) (watch : List Watch) : Prop where
  len : ks.length = i
  hist : ∀ q, q ∈ hist → q.i < i ∧ (3 ≤ ks.getD (i - 1 - q.i) 0 ∨ (ks.getD (i - 1 - q.i) 0 = 2 ∧ (noneMem ks (i - q.i) = true → q.ver = ver)))
  watch : ∀ q, q ∈ watch → q.i < i ∧ ks.getD (i - 1 - q.i) 0 = 1 ∧ (noneAct ks (i - q.i) = true → q.ver = ver)

theorem getD_cons {k : Nat} {ks : List Nat} {i j : Nat} (h : j < i) : (k :: ks).getD (i + 1 - 1 - j) 0 = ks.getD (i - 1 - j) 0 := by
  rw [show i + 1 - 1 - j = (i - 1 - j) + 1 by omega]; rfl

/-- One more, that is no work on memory. -/
theorem DI.calm {ks : List Nat} {i ver : Nat} {hist : List Hist} {watch : List Watch} (h : DI ks i ver hist watch) (k : Nat) {hist' : List Hist} {watch' : List Watch}
    (hh : ∀ q, q ∈ hist' → q ∈ hist ∨ (q.i = i ∧ q.ver = ver ∧ (k = 2 ∨ 3 ≤ k))) (hw : ∀ q, q ∈ watch' → q ∈ watch ∨ (q.i = i ∧ q.ver = ver ∧ k = 1)) : DI (k :: ks) (i + 1) ver hist' watch' := by
  have hz : (k :: ks).getD (i + 1 - 1 - i) 0 = k := by rw [show i + 1 - 1 - i = 0 by omega]; rfl
  refine ⟨by simp [h.len], fun q hq => ?_, fun q hq => ?_⟩
  · rcases hh q hq with hq | ⟨e1, e2, e3⟩
    · obtain ⟨g1, g2⟩ := h.hist q hq
      refine ⟨by omega, ?_⟩
      rw [getD_cons g1, show i + 1 - q.i = (i - q.i) + 1 by omega, noneMem_succ]
      rcases g2 with g2 | ⟨g2, g3⟩
      · exact .inl g2
      · refine .inr ⟨g2, fun e => g3 ?_⟩
        cases hk : Nat.ble 3 k with
        | true => rw [hk] at e; cases e
        | false => rw [hk] at e; exact e
    · rw [e1, hz]
      exact ⟨by omega, e3.elim (fun e => .inr ⟨e, fun _ => e2⟩) .inl⟩
  · rcases hw q hq with hq | ⟨e1, e2, e3⟩
    · obtain ⟨g1, g2, g3⟩ := h.watch q hq
      refine ⟨by omega, ?_⟩
      rw [getD_cons g1, show i + 1 - q.i = (i - q.i) + 1 by omega, noneAct_succ]
      refine ⟨g2, fun e => g3 ?_⟩
      cases hk : Nat.beq k 3 with
      | true => rw [hk] at e; cases e
      | false => rw [hk] at e; exact e
    · rw [e1, hz]
      exact ⟨by omega, e3, fun _ => e2⟩

/-- One more, that works on memory. -/
theorem DI.acts {ks : List Nat} {i ver ver' : Nat} {hist : List Hist} {watch : List Watch} (h : DI ks i ver hist watch) {hist' : List Hist} {watch' : List Watch}
    (hh : ∀ q, q ∈ hist' → q ∈ hist ∨ q.i = i) (hw : ∀ q, q ∈ watch' → ∃ p, p ∈ watch ∧ q.i = p.i) : DI (3 :: ks) (i + 1) ver' hist' watch' := by
  have hz : (3 :: ks).getD (i + 1 - 1 - i) 0 = 3 := by rw [show i + 1 - 1 - i = 0 by omega]; rfl
  refine ⟨by simp [h.len], fun q hq => ?_, fun q hq => ?_⟩
  · rcases hh q hq with hq | e1
    · obtain ⟨g1, g2⟩ := h.hist q hq
      refine ⟨by omega, ?_⟩
      rw [getD_cons g1, show i + 1 - q.i = (i - q.i) + 1 by omega, noneMem_succ]
      rcases g2 with g2 | ⟨g2, g3⟩
      · exact .inl g2
      · exact .inr ⟨g2, fun e => by cases e⟩
    · rw [e1, hz]
      exact ⟨by omega, .inl (Nat.le_refl _)⟩
  · obtain ⟨p, hp, e⟩ := hw q hq
    obtain ⟨g1, g2, g3⟩ := h.watch p hp
    rw [e]
    refine ⟨by omega, ?_⟩
    rw [getD_cons g1, show i + 1 - p.i = (i - p.i) + 1 by omega, noneAct_succ]
    exact ⟨g2, fun e => by cases e⟩
/-- One more, that makes memory. -/
theorem DI.makes {ks : List Nat} {i ver ver' : Nat} {hist : List Hist} {watch : List Watch} (h : DI ks i ver hist watch) {hist' : List Hist} {watch' : List Watch}
    (hh : ∀ q, q ∈ hist' → q ∈ hist ∨ q.i = i) (hw : ∀ q, q ∈ watch' → ∃ p, p ∈ watch ∧ q.i = p.i ∧ (p.ver = ver → q.ver = ver')) : DI (4 :: ks) (i + 1) ver' hist' watch' := by
  have hz : (4 :: ks).getD (i + 1 - 1 - i) 0 = 4 := by rw [show i + 1 - 1 - i = 0 by omega]; rfl
  refine ⟨by simp [h.len], fun q hq => ?_, fun q hq => ?_⟩
  · rcases hh q hq with hq | e1
    · obtain ⟨g1, g2⟩ := h.hist q hq
      refine ⟨by omega, ?_⟩
      rw [getD_cons g1, show i + 1 - q.i = (i - q.i) + 1 by omega, noneMem_succ]
      rcases g2 with g2 | ⟨g2, g3⟩
      · exact .inl g2
      · exact .inr ⟨g2, fun e => by cases e⟩
    · rw [e1, hz]
      exact ⟨by omega, .inl (by omega)⟩
  · obtain ⟨p, hp, e, e2⟩ := hw q hq
    obtain ⟨g1, g2, g3⟩ := h.watch p hp
    rw [e]
    refine ⟨by omega, ?_⟩
    rw [getD_cons g1, show i + 1 - p.i = (i - p.i) + 1 by omega, noneAct_succ]
    exact ⟨g2, fun e3 => e2 (g3 e3)⟩

theorem easyOne_at {m k i : Nat} {ks : List Nat} (h : easyOne m k i ks = true) {j : Nat} (hj : j < i) : bit m j = true ∨
    (bsel (Nat.beq k 1) (bsel (Nat.beq (ks.getD (i - 1 - j) 0) 2) (noneMem ks (i - j)) (bsel (Nat.ble 3 (ks.getD (i - 1 - j) 0)) false true))
      (bsel (Nat.beq k 2) (bsel (Nat.beq (ks.getD (i - 1 - j) 0) 1) (noneAct ks (i - j)) true)
        (bsel (Nat.beq k 3) (bsel (Nat.beq (ks.getD (i - 1 - j) 0) 1) false true)
          (bsel (Nat.beq k 4) (bsel (Nat.beq (ks.getD (i - 1 - j) 0) 1) (noneAct ks (i - j)) true) true)))) = true := by
  unfold easyOne at h
  have := List.all_eq_true.1 h j (by simpa using hj)
  rw [nthN_lt] at this
  exact or_of_bsel this

theorem bsel_or {b c : Bool} (h : b = true ∨ c = true) : bsel b true c = true := by cases b <;> simp_all [bsel]
end
end Go.Proofs.YtolgomkmilbkgaaGreat.Ev

set_option autoImplicit false
set_option linter.unusedVariables false
set_option linter.unusedSimpArgs false
namespace Go.Proofs.YtolgomkmilbkgaaGreat.Ev
open Go
section
variable {P : Program} {O : Orc} {isP : FuncId → Bool}

theorem drawOps_cons (rec : Rec) (ops : Array Oper) (o : Oper) (rest : List Oper) (m : Nat) (cl : List Nat) (i : Nat) (a : Ac) (st : St) (ver : Nat) (hist : List Hist) (watch : List Watch) :
    drawOps P rec ops (o :: rest) (m :: cl) i a st ver hist watch =
    bsel (wantedA ops o a)
      (Re.rec .no (fun v st' => Ra.rec .no (fun a' _ =>
        match cls o.op with
        | .pure => drawOps P rec ops rest cl (i + 1) a' st ver hist watch
        | .reads => bsel (opsBelow o.op a st) (bsel (hist.all fun q => bsel (bit m q.i) true (bsel (Nat.beq q.ver ver) true (readsV P o.op a v q.st))) (drawOps P rec ops rest cl (i + 1) a' st ver hist ({ op := o.op, i, a, v, ver } :: watch)) .no) .no
        | _ => bsel (calm rec (stpOf P o.op) a st)
            (bsel (opsBelow o.op a st) (bsel (watch.all fun q => bsel (bit m q.i) true (Nat.beq q.ver ver)) (drawOps P rec ops rest cl (i + 1) a' st ver ({ i, ver, st } :: hist) watch) .no) .no)
            (bsel (opsBelow o.op a st) (bsel (nextLe st st') (bsel (watch.all fun q => bsel (bit m q.i) true (bsel (freshB o.op q.ver ver) true (readsV P q.op q.a q.v st')))
              (drawOps P rec ops rest cl (i + 1) a' st' (ver + 1) ({ i, ver, st } :: hist) (watch.map fun q => bsel (freshB o.op q.ver ver) (setVer q (ver + 1)) (bsel (bit m q.i) q (setVer q (ver + 1))))) .no) .no) .no))
        (a.put o.dst v st)) (stepS P rec (stpOf P o.op) a st))
      (Ra.rec .no (fun a' _ => drawOps P rec ops rest cl (i + 1) a' st ver hist watch) (a.put o.dst junk st)) := by
  rw [drawOps]; rfl

theorem beq_true {a : Nat} : Nat.beq a a = true := beq_iff.2 rfl

theorem drawP_ok {ops : Array Oper} {Q : Ac → St → Prop} : ∀ {l : List Oper} {cl : List Nat} {i : Nat} {ks : List Nat} {a : Ac} {st : St}, easyL P isP l cl i ks = true → drawP P O isP ops Q l a st →
    ∃ K a' st', Q a' st' ∧ ∀ K', K ≤ K' → ∀ ver hist watch, DI ks i ver hist watch → drawOps P (evCode P O K') ops l cl i a st ver hist watch = .ok a' st'
  | [], cl, i, ks, a, st, _, h => ⟨0, a, st, h, fun _ _ _ _ _ _ => by cases cl <;> rfl⟩
  | o :: l, [], i, ks, a, st, he, _ => by cases he
  | o :: l, m :: cl, i, ks, a, st, he, h => by
    obtain ⟨he1, he2⟩ := bsel_ne (α := Bool) he (by simp)
    cases hv : movOf o with
    | some x =>
      have h : osel (movOf o) _ (fun x => putP a o.dst (evalA a x) fun a' => drawP P O isP ops Q l a' st) := h
      rw [hv] at h
      obtain ⟨a1, g1, g2⟩ := putP_ok (h : putP a o.dst (evalA a x) fun a' => drawP P O isP ops Q l a' st)
      obtain ⟨e1, e2, e3⟩ := val_ok (P := P) (ops := ops) hv a
      obtain ⟨K2, a2, st2, h4, h5⟩ := drawP_ok he2 g2
      refine ⟨K2, a2, st2, h4, fun K' hK ver hist watch hI => ?_⟩
      rw [drawOps_cons]
      have hI' : DI (kindOf P isP o :: ks) (i + 1) ver hist watch := by
        have hk : kindOf P isP o = 0 := by unfold kindOf; rw [e2]
        rw [hk]; exact hI.calm 0 (fun q hq => .inl hq) (fun q hq => .inl hq)
      rw [e1, bsel_true, e3]
      simp only [g1, e2]
      exact h5 K' (by omega) ver hist watch hI'
    | none =>
    have h : osel (movOf o) _ (fun x => putP a o.dst (evalA a x) fun a' => drawP P O isP ops Q l a' st) := h
    rw [hv] at h
    have h : clsK (cls o.op)
      (opP P O isP (wantedA ops o a) (stpOf P o.op) a st fun v st' => putP a o.dst v fun a' => drawP P O isP ops Q l a' st')
      (opP P O isP (wantedA ops o a) (stpOf P o.op) a st fun v st' => andP (orN (wantedA ops o a) (opsBelow o.op a st)) (putP a o.dst v fun a' => drawP P O isP ops Q l a' st'))
      (bsel (isKnown isP (stpOf P o.op))
        (opP P O isP (wantedA ops o a) (stpOf P o.op) a st fun v st' => andP (orN (wantedA ops o a) (opsBelow o.op a st)) (putP a o.dst v fun a' => drawP P O isP ops Q l a' st'))
        (opP P O isP (wantedA ops o a) (stpOf P o.op) a st fun v st' => andP (orN (wantedA ops o a) (bsel (opsBelow o.op a st) (nextLe st st') false)) (putP a o.dst v fun a' => drawP P O isP ops Q l a' st'))) := h
    have hkind : kindOf P isP o = Cls.rec 0 1 4 (bsel (isKnown isP (stpOf P o.op)) 2 3) (cls o.op) := rfl
    -- what works on memory, or is a known call
    have mem : ∀ (hc : cls o.op = .acts), ∀ (chk : St → Bool), (∀ st', chk st' = bsel (isKnown isP (stpOf P o.op)) (opsBelow o.op a st) (bsel (opsBelow o.op a st) (nextLe st st') false)) →
        (opP P O isP (wantedA ops o a) (stpOf P o.op) a st fun v st' => andP (orN (wantedA ops o a) (chk st')) (putP a o.dst v fun a' => drawP P O isP ops Q l a' st')) →
        ∃ K a' st', Q a' st' ∧ ∀ K', K ≤ K' → ∀ ver hist watch, DI ks i ver hist watch → drawOps P (evCode P O K') ops (o :: l) (m :: cl) i a st ver hist watch = .ok a' st' := by
      intro hc chk hchk h
      have hk : kindOf P isP o = bsel (isKnown isP (stpOf P o.op)) 2 3 := by rw [hkind, hc]
      obtain ⟨K1, v, st1, ⟨h1, h2⟩, hoff, hon, hkn⟩ := opP_ok h
      obtain ⟨a1, hput, h3⟩ := putP_ok h2
      obtain ⟨K2, a2, st2, h4, h5⟩ := drawP_ok he2 h3
      refine ⟨max K1 K2, a2, st2, h4, fun K' hK ver hist watch hI => ?_⟩
      rw [drawOps_cons]
      cases hw : wantedA ops o a with
      | false =>
        obtain ⟨rfl, rfl⟩ := hoff hw
        rw [bsel_false, hput]
        refine h5 K' (by omega) ver hist watch ?_
        rw [hk]
        cases isKnown isP (stpOf P o.op) with
        | true => exact hI.calm 2 (fun q hq => .inl hq) (fun q hq => .inl hq)
        | false => exact hI.acts (fun q hq => .inl hq) (fun q hq => ⟨q, hq, rfl⟩)
      | true =>
        rw [bsel_true, hon hw K' (by omega)]
        rw [hw, hchk] at h1
        have h1 : bsel (isKnown isP (stpOf P o.op)) (opsBelow o.op a st) (bsel (opsBelow o.op a st) (nextLe st st1) false) = true := h1
        have hob : opsBelow o.op a st = true := by
          cases hkk : isKnown isP (stpOf P o.op) with
          | true => rw [hkk] at h1; exact h1
          | false => rw [hkk] at h1; have h1' : bsel (opsBelow o.op a st) (nextLe st st1) false = true := h1; exact (bsel_ne (α := Bool) h1' (by simp)).1
        simp only [hput]
        have go : (bsel (calm (evCode P O K') (stpOf P o.op) a st)
            (bsel (opsBelow o.op a st) (bsel (watch.all fun q => bsel (bit m q.i) true (Nat.beq q.ver ver)) (drawOps P (evCode P O K') ops l cl (i + 1) a1 st ver ({ i, ver, st } :: hist) watch) .no) .no)
            (bsel (opsBelow o.op a st) (bsel (nextLe st st1) (bsel (watch.all fun q => bsel (bit m q.i) true (bsel (freshB o.op q.ver ver) true (readsV P q.op q.a q.v st1)))
              (drawOps P (evCode P O K') ops l cl (i + 1) a1 st1 (ver + 1) ({ i, ver, st } :: hist) (watch.map fun q => bsel (freshB o.op q.ver ver) (setVer q (ver + 1)) (bsel (bit m q.i) q (setVer q (ver + 1))))) .no) .no) .no)) = Ra.ok a2 st2 := by
          cases hkk : isKnown isP (stpOf P o.op) with
          | true =>
            rw [hkk] at hk
            obtain ⟨rfl, hcalm⟩ := hkn hkk
            rw [hcalm hw K' (by omega), bsel_true, hob, bsel_true]
            have hall : (watch.all fun q => bsel (bit m q.i) true (Nat.beq q.ver ver)) = true := by
              rw [List.all_eq_true]
              intro q hq
              obtain ⟨g1, g2, g3⟩ := hI.watch q hq
              refine bsel_or ((easyOne_at he1 g1).imp id fun e => ?_)
              rw [hk, g2] at e
              exact beq_iff.2 (g3 e)
            rw [hall, bsel_true]
            refine h5 K' (by omega) ver _ _ ?_
            rw [hk]
            exact hI.calm 2 (fun q hq => (List.mem_cons.1 hq).elim (fun e => .inr (by rw [e]; exact ⟨rfl, rfl, .inl rfl⟩)) .inl) (fun q hq => .inl hq)
          | false =>
            rw [hkk] at hk
            rw [hkk] at h1
            have h1' : bsel (opsBelow o.op a st) (nextLe st st1) false = true := h1
            obtain ⟨_, hnl⟩ := bsel_ne (α := Bool) h1' (by simp)
            have hbit : ∀ q, q ∈ watch → bit m q.i = true := fun q hq => by
              obtain ⟨g1, g2, g3⟩ := hI.watch q hq
              rcases easyOne_at he1 g1 with e | e
              · exact e
              · rw [hk, g2] at e; cases e
            cases hcalm : calm (evCode P O K') (stpOf P o.op) a st with
            | true =>
              have := calm_st hcalm (hon hw K' (by omega))
              subst this
              have hall : (watch.all fun q => bsel (bit m q.i) true (Nat.beq q.ver ver)) = true := by
                rw [List.all_eq_true]; intro q hq; exact bsel_or (.inl (hbit q hq))
              rw [bsel_true, hob, bsel_true, hall, bsel_true]
              refine h5 K' (by omega) ver _ _ ?_
              rw [hk]
              exact hI.acts (fun q hq => (List.mem_cons.1 hq).elim (fun e => .inr (by rw [e])) .inl) (fun q hq => ⟨q, hq, rfl⟩)
            | false =>
              have hall : (watch.all fun q => bsel (bit m q.i) true (bsel (freshB o.op q.ver ver) true (readsV P q.op q.a q.v st1))) = true := by
                rw [List.all_eq_true]; intro q hq; exact bsel_or (.inl (hbit q hq))
              rw [bsel_false, hob, bsel_true, hnl, bsel_true, hall, bsel_true]
              refine h5 K' (by omega) (ver + 1) _ _ ?_
              rw [hk]
              refine hI.acts (fun q hq => (List.mem_cons.1 hq).elim (fun e => .inr (by rw [e])) .inl) (fun q hq => ?_)
              obtain ⟨p, hp, rfl⟩ := List.mem_map.1 hq
              refine ⟨p, hp, ?_⟩
              cases freshB o.op p.ver ver <;> cases bit m p.i <;> rfl
        rw [hc]; exact go
    cases hc : cls o.op with
    | pure =>
      rw [hc] at h hkind
      obtain ⟨K1, v, st1, h2, hoff, hon, _⟩ := opP_ok (h : opP P O isP (wantedA ops o a) (stpOf P o.op) a st fun v st' => putP a o.dst v fun a' => drawP P O isP ops Q l a' st')
      obtain ⟨a1, hput, h3⟩ := putP_ok h2
      obtain ⟨K2, a2, st2, h4, h5⟩ := drawP_ok he2 h3
      refine ⟨max K1 K2, a2, st2, h4, fun K' hK ver hist watch hI => ?_⟩
      rw [drawOps_cons]
      have hI' : DI (kindOf P isP o :: ks) (i + 1) ver hist watch := by rw [hkind]; exact hI.calm 0 (fun q hq => .inl hq) (fun q hq => .inl hq)
      cases hw : wantedA ops o a with
      | false =>
        obtain ⟨rfl, rfl⟩ := hoff hw
        rw [bsel_false, hput]
        exact h5 K' (by omega) ver hist watch hI'
      | true =>
        have hs := hon hw K' (by omega)
        obtain ⟨rfl, _⟩ := pure_any hc hs
        rw [bsel_true, hs]
        simp only [hput, hc]
        exact h5 K' (by omega) ver hist watch hI'
    | reads =>
      rw [hc] at h hkind
      obtain ⟨K1, v, st1, ⟨hob, h2⟩, hoff, hon, _⟩ := opP_ok (h : opP P O isP (wantedA ops o a) (stpOf P o.op) a st fun v st' => andP (orN (wantedA ops o a) (opsBelow o.op a st)) (putP a o.dst v fun a' => drawP P O isP ops Q l a' st'))
      obtain ⟨a1, hput, h3⟩ := putP_ok h2
      obtain ⟨K2, a2, st2, h4, h5⟩ := drawP_ok he2 h3
      refine ⟨max K1 K2, a2, st2, h4, fun K' hK ver hist watch hI => ?_⟩
      rw [drawOps_cons]
      cases hw : wantedA ops o a with
      | false =>
        obtain ⟨rfl, rfl⟩ := hoff hw
        rw [bsel_false, hput]
        exact h5 K' (by omega) ver hist watch (by rw [hkind]; exact hI.calm 1 (fun q hq => .inl hq) (fun q hq => .inl hq))
      | true =>
        have hs := hon hw K' (by omega)
        have := reads_any hc hs
        subst this
        rw [hw] at hob
        have hob : opsBelow o.op a st1 = true := hob
        have hall : (hist.all fun q => bsel (bit m q.i) true (bsel (Nat.beq q.ver ver) true (readsV P o.op a v q.st))) = true := by
          rw [List.all_eq_true]
          intro q hq
          obtain ⟨g1, g2⟩ := hI.hist q hq
          refine bsel_or ((easyOne_at he1 g1).imp id fun e => ?_)
          rw [hkind] at e
          rcases g2 with g2 | ⟨g2, g3⟩
          · have e2 : Nat.beq (ks.getD (i - 1 - q.i) 0) 2 = false := by
              cases hb : Nat.beq (ks.getD (i - 1 - q.i) 0) 2 with
              | false => rfl
              | true => have := beq_iff.1 hb; omega
            have e : bsel (Nat.beq (ks.getD (i - 1 - q.i) 0) 2) (noneMem ks (i - q.i)) (bsel (Nat.ble 3 (ks.getD (i - 1 - q.i) 0)) false true) = true := e
            rw [e2, ble_iff.2 g2] at e; cases e
          · rw [g2] at e
            exact bsel_or (.inl (beq_iff.2 (g3 e)))
        rw [bsel_true, hs]
        simp only [hput, hc]
        rw [hob, bsel_true, hall, bsel_true]
        refine h5 K' (by omega) ver _ _ ?_
        rw [hkind]
        exact hI.calm 1 (fun q hq => .inl hq) (fun q hq => (List.mem_cons.1 hq).elim (fun e => .inr (by rw [e]; exact ⟨rfl, rfl, rfl⟩)) .inl)
    | makes =>
      obtain ⟨hik, hcalm0⟩ : isKnown isP (stpOf P o.op) = false ∧ ∀ rec a st, calm rec (stpOf P o.op) a st = false := by
        cases ho : o.op with
        | call c =>
          rw [ho] at hc
          obtain ⟨callee, args, ats⟩ := c
          cases callee with
          | value f => cases hc
          | builtin b => exact ⟨rfl, fun _ _ _ => rfl⟩
          | invoke r k => exact ⟨rfl, fun _ _ _ => rfl⟩
        | _ => exact ⟨rfl, fun _ _ _ => rfl⟩
      rw [hc] at h
      have h : bsel (isKnown isP (stpOf P o.op)) _ (opP P O isP (wantedA ops o a) (stpOf P o.op) a st fun v st' => andP (orN (wantedA ops o a) (bsel (opsBelow o.op a st) (nextLe st st') false)) (putP a o.dst v fun a' => drawP P O isP ops Q l a' st')) := h
      rw [hik, bsel_false] at h
      have hk : kindOf P isP o = 4 := by rw [hkind, hc]
      obtain ⟨K1, v, st1, ⟨h1, h2⟩, hoff, hon, hkn⟩ := opP_ok h
      obtain ⟨a1, hput, h3⟩ := putP_ok h2
      obtain ⟨K2, a2, st2, h4, h5⟩ := drawP_ok he2 h3
      refine ⟨max K1 K2, a2, st2, h4, fun K' hK ver hist watch hI => ?_⟩
      rw [drawOps_cons]
      cases hw : wantedA ops o a with
      | false =>
        obtain ⟨rfl, rfl⟩ := hoff hw
        rw [bsel_false, hput]
        refine h5 K' (by omega) ver hist watch ?_
        rw [hk]
        exact hI.makes (fun q hq => .inl hq) (fun q hq => ⟨q, hq, rfl, id⟩)
      | true =>
        rw [bsel_true, hon hw K' (by omega)]
        rw [hw] at h1
        have h1 : bsel (opsBelow o.op a st) (nextLe st st1) false = true := h1
        obtain ⟨hob, hnl⟩ := bsel_ne (α := Bool) h1 (by simp)
        simp only [hput, hc]
        rw [hcalm0, bsel_false, hob, bsel_true, hnl, bsel_true]
        have hfr : ∀ q, q ∈ watch → bit m q.i = true ∨ freshB o.op q.ver ver = true := fun q hq => by
          obtain ⟨g1, g2, g3⟩ := hI.watch q hq
          rcases easyOne_at he1 g1 with e | e
          · exact .inl e
          · rw [hk, g2] at e
            have e : noneAct ks (i - q.i) = true := e
            refine .inr ?_
            unfold freshB isMk
            rw [hc, g3 e]
            exact beq_iff.2 rfl
        have hall : (watch.all fun q => bsel (bit m q.i) true (bsel (freshB o.op q.ver ver) true (readsV P q.op q.a q.v st1))) = true := by
          rw [List.all_eq_true]
          intro q hq
          rcases hfr q hq with e | e
          · exact bsel_or (.inl e)
          · exact bsel_or (.inr (bsel_or (.inl e)))
        rw [hall, bsel_true]
        refine h5 K' (by omega) (ver + 1) _ _ ?_
        rw [hk]
        refine hI.makes (fun q hq => (List.mem_cons.1 hq).elim (fun e => .inr (by rw [e])) .inl) (fun q hq => ?_)
        obtain ⟨p, hp, rfl⟩ := List.mem_map.1 hq
        refine ⟨p, hp, ?_, fun e => ?_⟩
        · cases freshB o.op p.ver ver <;> cases bit m p.i <;> rfl
        · have : freshB o.op p.ver ver = true := by
            unfold freshB isMk
            rw [hc, e]
            exact beq_iff.2 rfl
          rw [this]; rfl
    | acts =>
      rw [hc] at h
      have h : bsel (isKnown isP (stpOf P o.op)) _ _ := h
      cases hkk : isKnown isP (stpOf P o.op) with
      | true => rw [hkk] at h; exact mem hc (fun _ => opsBelow o.op a st) (fun st' => by rw [hkk]; rfl) h
      | false => rw [hkk] at h; exact mem hc (fun st' => bsel (opsBelow o.op a st) (nextLe st st') false) (fun st' => by rw [hkk]; rfl) h

theorem regP_ok {ops : Array Oper} {draw : Bool} {a : Ac} {st : St} {Q : Ac → St → Prop} (h : regP P O isP ops draw a st Q) : ∃ K a' st', (∀ K', K ≤ K' → evRegion P (evCode P O K') ops draw a st = .ok .normal a' st') ∧ Q a' st' := by
  unfold regP at h
  cases hp : planOf ops draw with
  | no => rw [hp] at h; exact h.elim
  | seq =>
    rw [hp] at h
    obtain ⟨K, a', st', h1, h2⟩ := seqP_ok (h : seqP P O isP ops Q ops.toList a st)
    refine ⟨K, a', st', fun K' hK => ?_, h1⟩
    unfold evRegion
    rw [hp]
    show Ra.rec (motive := fun _ => Rc) .no (fun a st => .ok .normal a st) (seqOps P (evCode P O K') ops ops.toList a st) = _
    rw [h2 K' hK]
  | draw cl =>
    rw [hp] at h
    have h : bsel (easyL P isP ops.toList cl 0 []) (drawP P O isP ops Q ops.toList a st) (∃ K a' st', (∀ K', K ≤ K' → evRegion P (evCode P O K') ops draw a st = .ok .normal a' st') ∧ Q a' st') := h
    cases he : easyL P isP ops.toList cl 0 [] with
    | false => rw [he] at h; exact h
    | true =>
      rw [he] at h
      obtain ⟨K, a', st', h1, h2⟩ := drawP_ok he h
      refine ⟨K, a', st', fun K' hK => ?_, h1⟩
      unfold evRegion
      rw [hp]
      show Ra.rec (motive := fun _ => Rc) .no (fun a st => .ok .normal a st) (drawOps P (evCode P O K') ops ops.toList cl 0 a st 0 [] []) = _
      rw [h2 K' hK 0 [] [] ⟨rfl, fun q hq => by simp at hq, fun q hq => by simp at hq⟩]

theorem RunsC.mono {c : Code} {ro : Option Nat} {a : Ac} {st : St} {Q Q' : Xit → Ac → St → Prop} (h : RunsC P O c ro a st Q) (hq : ∀ x a st, Q x a st → Q' x a st) : RunsC P O c ro a st Q' := by
  obtain ⟨K, x, a', st', h1, h2⟩ := h
  exact ⟨K, x, a', st', h1, hq _ _ _ h2⟩

/-- A step more of depth. -/
theorem RunsC.of {c : Code} {ro : Option Nat} {a : Ac} {st : St} {Q : Xit → Ac → St → Prop} {K : Nat} {x : Xit} {a' : Ac} {st' : St} (h : ∀ K', K ≤ K' → evOne P (evCode P O K') c ro a st = .ok x a' st') (hq : Q x a' st') : RunsC P O c ro a st Q :=
  ⟨K + 1, x, a', st', fun K' hK => by
    obtain ⟨j, rfl⟩ : ∃ j, K' = j + 1 := ⟨K' - 1, by omega⟩
    exact h j (by omega), hq⟩

theorem RunsC.seq {c d : Code} {ro : Option Nat} {a : Ac} {st : St} {Q : Xit → Ac → St → Prop} (h : RunsC P O c ro a st fun xt a st => Xit.rec (RunsC P O d ro a st Q) (fun id => Q (.exit id) a st) (fun l => Q (.goto l) a st) (Q .ret a st) xt) : RunsC P O (.seq c d) ro a st Q := by
  obtain ⟨K1, x, a1, st1, h1, h2⟩ := h
  cases x with
  | normal =>
    obtain ⟨K2, x2, a2, st2, h3, h4⟩ := h2
    refine .of (K := max K1 K2) (fun K' hK => ?_) h4
    show thenN (evCode P O K' c ro a st) (fun a st => evCode P O K' d ro a st) = _
    rw [h1 K' (by omega)]
    exact h3 K' (by omega)
  | exit id => exact .of (K := K1) (fun K' hK => by show thenN (evCode P O K' c ro a st) _ = _; rw [h1 K' hK]; rfl) h2
  | goto l => exact .of (K := K1) (fun K' hK => by show thenN (evCode P O K' c ro a st) _ = _; rw [h1 K' hK]; rfl) h2
  | ret => exact .of (K := K1) (fun K' hK => by show thenN (evCode P O K' c ro a st) _ = _; rw [h1 K' hK]; rfl) h2

theorem wp_ok {ro : Option Nat} : ∀ {c : Code} {a : Ac} {st : St} {Q : Xit → Ac → St → Prop}, wp P O isP ro c a st Q → RunsC P O c ro a st Q := by
  intro c
  induction c with
  | skip => intro a st Q h; exact .of (K := 0) (fun _ _ => rfl) h
  | label l => intro a st Q h; exact .of (K := 0) (fun _ _ => rfl) h
  | exit l => intro a st Q h; exact .of (K := 0) (fun _ _ => rfl) h
  | goto l => intro a st Q h; exact .of (K := 0) (fun _ _ => rfl) h
  | ret => intro a st Q h; exact .of (K := 0) (fun _ _ => rfl) h
  | refuse l => intro a st Q h; exact h.elim
  | loop x _ => intro a st Q h; exact h
  | rangeFunc f ps as bo _ _ => intro a st Q h; exact h
  | region id ops draw =>
    intro a st Q h
    obtain ⟨K, a', st', h1, h2⟩ := regP_ok (h : regP P O isP ops draw a st fun a st => Q .normal a st)
    exact .of (K := K) (fun K' hK => h1 K' hK) h2
  | seq x y ihx ihy =>
    intro a st Q h
    refine RunsC.seq ((ihx h).mono fun xt a st h => ?_)
    cases xt with
    | normal => exact ihy h
    | exit id => exact h
    | goto l => exact h
    | ret => exact h
  | cond c x y ihx ihy =>
    intro a st Q h
    obtain ⟨hc, h⟩ := bselP (h : bsel (okOpd c) (condP (evalA a c) (wp P O isP ro x a st Q) (wp P O isP ro y a st Q)) False)
    have key : ∀ (b : Bool) d, evalA a c = .bool b → RunsC P O d ro a st Q → (∀ rec : Rec, evCond rec (.bool b) x y ro a st = rec d ro a st) → RunsC P O (.cond c x y) ro a st Q := by
      intro b d hv ⟨K, x2, a2, st2, h1, h2⟩ he
      refine .of (K := K) (fun K' hK => ?_) h2
      show bsel (okOpd c) (evCond (evCode P O K') (evalA a c) x y ro a st) .no = _
      rw [hc, bsel_true, hv, he]
      exact h1 K' hK
    rcases h with ⟨hv, h⟩ | ⟨hv, h⟩
    · exact key true x hv (ihx h) (fun _ => rfl)
    · exact key false y hv (ihy h) (fun _ => rfl)
  | block id x ih =>
    intro a st Q h
    obtain ⟨K, xt, a', st', h1, h2⟩ := ih (h : wp P O isP ro x a st fun xt a st => Xit.rec (Q .normal a st) (fun j => bsel (Nat.beq j id) (Q .normal a st) (Q (.exit j) a st)) (fun l => Q (.goto l) a st) (Q .ret a st) xt)
    cases xt with
    | normal => exact .of (K := K) (fun K' hK => by show inBlock id (evCode P O K' x ro a st) = _; rw [h1 K' hK]; rfl) h2
    | goto l => exact .of (K := K) (fun K' hK => by show inBlock id (evCode P O K' x ro a st) = _; rw [h1 K' hK]; rfl) h2
    | ret => exact .of (K := K) (fun K' hK => by show inBlock id (evCode P O K' x ro a st) = _; rw [h1 K' hK]; rfl) h2
    | exit j =>
      have h2 : bsel (Nat.beq j id) (Q .normal a' st') (Q (.exit j) a' st') := h2
      cases hb : Nat.beq j id with
      | true =>
        rw [hb] at h2
        refine .of (K := K) (x := .normal) (fun K' hK => ?_) h2
        show inBlock id (evCode P O K' x ro a st) = _
        rw [h1 K' hK]
        show bsel (Nat.beq j id) _ _ = _
        rw [hb]; rfl
      | false =>
        rw [hb] at h2
        refine .of (K := K) (x := .exit j) (fun K' hK => ?_) h2
        show inBlock id (evCode P O K' x ro a st) = _
        rw [h1 K' hK]
        show bsel (Nat.beq j id) _ _ = _
        rw [hb]; rfl
  | scope x ih =>
    intro a st Q h
    obtain ⟨K, xt, a', st', h1, h2⟩ := ih (h : wp P O isP ro x a st fun xt a st => Xit.rec (Q .normal a st) (fun j => Q (.exit j) a st) (fun _ => False) (Q .ret a st) xt)
    cases xt with
    | normal => exact .of (K := K) (fun K' hK => by show noGoto (evCode P O K' x ro a st) = _; rw [h1 K' hK]; rfl) h2
    | goto l => exact h2.elim
    | ret => exact .of (K := K) (fun K' hK => by show noGoto (evCode P O K' x ro a st) = _; rw [h1 K' hK]; rfl) h2
    | exit j => exact .of (K := K) (fun K' hK => by show noGoto (evCode P O K' x ro a st) = _; rw [h1 K' hK]; rfl) h2

theorem wpF_ok (hcall : ∀ f args st, O.call f args st = .no) {f : FuncId} {args : List Value} {st : St} {F : Value → St → Prop} (h : wpF P O isP f args st F) : ∃ K v st', (∀ K', K ≤ K' → callB P (evCode P O K') f args st = .ok v st') ∧ F v st' := by
  unfold wpF at h
  cases hfe : feOf P f with
  | no => rw [hfe] at h; exact h.elim
  | mk c n fn =>
    rw [hfe] at h
    obtain ⟨hl, h⟩ := bselP h
    obtain ⟨K, x, a, st1, h1, h2⟩ := wp_ok h
    have key : ∀ v st', endF P fn (.ok x a st1) = .ok v st' → F v st' → ∃ K v st', (∀ K', K ≤ K' → callB P (evCode P O K') f args st = .ok v st') ∧ F v st' := by
      intro v st' he hF
      refine ⟨K + 1, v, st', fun K' hK => ?_, hF⟩
      unfold callB
      rw [hfe]
      obtain ⟨j, rfl⟩ : ∃ j, K' = j + 1 := ⟨K' - 1, by omega⟩
      have e : (evCode P O (j + 1)).call f args st = .no := hcall f args st
      show Re.rec (motive := fun _ => Re) (bsel (Nat.ble (lenL args) n) (endF P fn (evCode P O (j + 1) c none (Ac.ofArgs args n) st)) .no) (fun v st => .ok v st) ((evCode P O (j + 1)).call f args st) = _
      rw [e]
      show bsel (Nat.ble (lenL args) n) (endF P fn (evCode P O (j + 1) c none (Ac.ofArgs args n) st)) .no = _
      rw [hl, bsel_true, h1 (j + 1) (by omega)]
      exact he
    have leave : Rs.rec False (fun st => bindP (resultsA P fn a st) F) (leaveA a.defers st1) → ∃ v st', (Rs.rec (motive := fun _ => Re) .no (fun st => resultsA P fn a st) (leaveA a.defers st1)) = .ok v st' ∧ F v st' := by
      intro h
      cases hl : leaveA a.defers st1 with
      | no => rw [hl] at h; exact h.elim
      | ok st2 =>
        rw [hl] at h
        exact bindP_ok h
    cases x with
    | normal => obtain ⟨v, st', h3, h4⟩ := leave h2; exact key v st' h3 h4
    | ret => obtain ⟨v, st', h3, h4⟩ := leave h2; exact key v st' h3 h4
    | exit id => exact h2.elim
    | goto l => exact h2.elim

/-- A contract, by what must hold ahead. -/
theorem pur_of_runB (hm : P.follows .mixedOrders = true) (hO : OrcOk P O) {K : Nat} {f : FuncId} {args : List Value} {v pv : Value} {st2 : St} {keep : Bool}
    (h : callB P (evCode P O K) f args ⟨heap0, 0⟩ = .ok v st2) (hs : snapV keep st2 snapD v = some pv) : PurOk P f args pv := by
  intro φ w args' hφ ha n ro
  have hcall := callB_ok (code_ok hO (fun rec hrec => reg_ok hm hrec) K) h (Rel.start φ hφ) ha n ro
  exact pur_ends hφ hs hcall
end
end Go.Proofs.YtolgomkmilbkgaaGreat.Ev

set_option autoImplicit false
set_option linter.unusedVariables false
set_option linter.unusedSimpArgs false
namespace Go.Proofs.YtolgomkmilbkgaaGreat.Ev
open Go
noncomputable section

/-! # What the printed texts are written with -/
def gt (t : Regs) (i : Nat) : Value := (regAt i).g t
def fs (t : Regs) (l : List (Nat × Value)) : Regs := List.rec (fun t => t) (fun p _ ih t => ih ((regAt p.1).s p.2 t)) l t

def appendN (ap : Ap) (s x : Value) (st : St) : Re :=
  match s with
  | .slice base len cap =>
    Ap.rec .no
      (fun k => osel (lenA x) .no fun n => osel (listA st k x n) .no fun new => appendK k base len cap (Nat.add len n) new st)
      (fun k z => natK x .no fun n => bsel (Nat.ble n 65536) (appendK k base len cap (Nat.add len n) (repL z n) st) .no) ap
  | _ => .no
def copyN (k : Nat) (d s : Value) (st : St) : Re :=
  match d with
  | .slice base dl _ => osel (lenA s) .no fun sl => osel (listA st k s (minN sl dl)) .no fun xs => copyTo k base (minN sl dl) xs st
  | _ => .no
def assertN (t : TypeId) (z : Option Value) (ok : Bool) (x : Value) : Option Value :=
  match x with
  | .iface u v => bsel (Nat.beq u t) (some (if ok then .tuple #[v, .bool true] else v)) (bsel ok (z.map fun z => .tuple #[z, .bool false]) none)
  | .nilIface => bsel ok (z.map fun z => .tuple #[z, .bool false]) none
  | _ => none
def storeN (ty : Ty) (x v : Value) (st : St) : Re := ptrK x .no fun nm off => storeK ty nm off v st
def boxN (x : Value) (st : St) : Re := osel (cellsO x) .no fun xs => boxK xs st
def newMap (st : St) : Re := allK (.map [] 0) (fun nm => .map (some nm)) st
def cellR (ty : Ty) (x : Value) (st : St) : Option Value := ptrK x none fun b o => Re.rec none (fun v _ => some v) (loadK ty b o st)
def resS : List (Option Value) → Option (List Value)
  | [] => some []
  | x :: xs => osel x none fun v => osel (resS xs) none fun vs => some (v :: vs)
def resE (l : List (Option Value)) (st : St) : Re :=
  match resS l with
  | some [v] => .ok v st
  | some vs => .ok (.tuple ⟨vs⟩) st
  | none => .no
/-- A row of cells, told by runs. -/
def rle (xs : List (Nat × Value)) : List Value := List.rec [] (fun p _ ih => Nat.rec ih (fun _ r => p.2 :: r) p.1) xs
def joinP {α : Type} (f : α → Prop) (k : α) : Prop := f k

/-! What comes behind. -/
abbrev Kt := Xit → Ac → St → Prop
def seqK (P : Program) (O : Orc) (isP : FuncId → Bool) (ro : Option Nat) (c : Code) (Q : Kt) : Kt := fun xt a st => Xit.rec (wp P O isP ro c a st Q) (fun id => Q (.exit id) a st) (fun l => Q (.goto l) a st) (Q .ret a st) xt
def blockK (id : Nat) (Q : Kt) : Kt := fun xt a st => Xit.rec (Q .normal a st) (fun j => bsel (Nat.beq j id) (Q .normal a st) (Q (.exit j) a st)) (fun l => Q (.goto l) a st) (Q .ret a st) xt
def scopeK (Q : Kt) : Kt := fun xt a st => Xit.rec (Q .normal a st) (fun j => Q (.exit j) a st) (fun _ => False) (Q .ret a st) xt
def outK (P : Program) (fn : Func) (F : Value → St → Prop) : Kt := fun x a st => outP P fn x a st F

/-! Parts of a code. -/
def cSkip : Code := .skip
def cA (c : Code) : Code := Code.casesOn c cSkip (fun _ _ _ => cSkip) (fun x _ => x) (fun _ x _ => x) (fun _ x => x) (fun x => x) (fun _ _ x _ => x) (fun _ => cSkip) (fun x => x) (fun _ => cSkip) (fun _ => cSkip) cSkip (fun _ => cSkip)
def cZ (c : Code) : Code := Code.casesOn c cSkip (fun _ _ _ => cSkip) (fun _ y => y) (fun _ _ y => y) (fun _ x => x) (fun x => x) (fun _ _ _ y => y) (fun _ => cSkip) (fun x => x) (fun _ => cSkip) (fun _ => cSkip) cSkip (fun _ => cSkip)
def cOf (P : Program) (f : FuncId) : Code := Fe.rec cSkip (fun c _ _ => c) (feOf P f)
end
end Go.Proofs.YtolgomkmilbkgaaGreat.Ev

set_option autoImplicit false
set_option linter.unusedVariables false
set_option linter.unusedSimpArgs false
namespace Go.Proofs.YtolgomkmilbkgaaGreat.Ev
open Go
noncomputable section

/-! # How the printed texts are worked out -/

abbrev I64 (n : Int) : Value := .int .i64 n

@[simp] theorem bindP_run (v : Value) (st : St) (F : Value → St → Prop) : bindP (.ok v st) F = F v st :=
  propext ⟨fun h => (by obtain ⟨v', st', h1, h2⟩ := h; cases h1; exact h2), fun h => .mk v st rfl h⟩
@[simp] theorem bindP_no (F : Value → St → Prop) : bindP .no F = False := propext ⟨fun h => (by obtain ⟨v', st', h1, h2⟩ := h; cases h1), fun h => (by cases h)⟩
@[simp] theorem bindO_some (v : Value) (F : Value → Prop) : bindO (some v) F = F v := propext ⟨fun h => (by obtain ⟨v', h1, h2⟩ := h; cases h1; exact h2), fun h => .mk v rfl h⟩
@[simp] theorem bindO_none (F : Value → Prop) : bindO none F = False := propext ⟨fun h => (by obtain ⟨v', h1, h2⟩ := h; cases h1), fun h => (by cases h)⟩
@[congr] theorem bindP_congr {r r' : Re} {F : Value → St → Prop} (h : r = r') : bindP r F = bindP r' F := by rw [h]
@[congr] theorem bindO_congr {r r' : Option Value} {F : Value → Prop} (h : r = r') : bindO r F = bindO r' F := by rw [h]
@[congr] theorem condP_congr {v v' : Value} {A B : Prop} (h : v = v') : condP v A B = condP v' A B := by rw [h]
@[congr] theorem andP_congr {c c' : Bool} {A : Prop} (h : c = c') : andP c A = andP c' A := by rw [h]
@[simp] theorem andP_true (A : Prop) : andP true A = A := by simp [andP]
@[simp] theorem andP_false (A : Prop) : andP false A = False := by simp [andP]
@[simp] theorem condP_true (A B : Prop) : condP (.bool true) A B = A := propext ⟨fun h => (by cases h with | tt h1 h2 => exact h2 | ff h1 h2 => cases h1), fun h => .tt rfl h⟩
@[simp] theorem condP_false (A B : Prop) : condP (.bool false) A B = B := propext ⟨fun h => (by cases h with | tt h1 h2 => cases h1 | ff h1 h2 => exact h2), fun h => .ff rfl h⟩
theorem condP_bool (b : Bool) (A B : Prop) : condP (.bool b) A B ↔ (b = true → A) ∧ (b = false → B) := by cases b <;> simp
@[simp] theorem guarded_true (r : Re) (st : St) : guarded true r st = r := rfl
@[simp] theorem guarded_false (r : Re) (st : St) : guarded false r st = .ok junk st := rfl
@[simp] theorem guardO_true (r : Option Value) : guardO true r = r := rfl
@[simp] theorem guardO_false (r : Option Value) : guardO false r = some junk := rfl
@[simp] theorem callG_true (P : Program) (O : Orc) (fv : Value) (args : List Value) (st : St) (F : Value → St → Prop) : callG true P O fv args st F = CallP P O fv args st F := rfl
@[simp] theorem callG_false (P : Program) (O : Orc) (fv : Value) (args : List Value) (st : St) (F : Value → St → Prop) : callG false P O fv args st F = F junk st := rfl
@[simp] theorem orN_true (c : Bool) : orN true c = c := rfl
@[simp] theorem orN_false (c : Bool) : orN false c = true := rfl
@[simp] theorem reO_some (v : Value) (st : St) : reO (some v) st = .ok v st := rfl
@[simp] theorem reO_none (st : St) : reO none st = .no := rfl
@[simp] theorem isBool_tt (b : Bool) : isBool (.bool b) true = b := by cases b <;> rfl
@[simp] theorem isBool_ff (b : Bool) : isBool (.bool b) false = !b := by cases b <;> rfl
@[simp] theorem pickK_true (x y : Value) (st : St) : pickK (.bool true) x y st = .ok x st := rfl
@[simp] theorem pickK_false (x y : Value) (st : St) : pickK (.bool false) x y st = .ok y st := rfl

/-! ## States -/
def S0 : St := ⟨heap0, 0⟩
def St.push (st : St) (o : AObj) : St := ⟨putAt st.next st.heap o, st.next + 1⟩
theorem S0_eq : (⟨heap0, 0⟩ : St) = S0 := rfl
@[simp] theorem S0_next : S0.next = 0 := rfl
@[simp] theorem push_next (st : St) (o : AObj) : (st.push o).next = st.next + 1 := rfl
@[simp] theorem set_next (st : St) (nm : Nat) (o : AObj) : (st.setObj nm o).next = st.next := setObj_next nm o
theorem push_obj (st : St) (o : AObj) (nm : Nat) : (st.push o).obj nm = if nm = st.next then o else st.obj nm := by
  unfold St.push; rw [St.obj_mk, objAt_put, St.obj_eq]
theorem set_obj (st : St) (k : Nat) (o : AObj) (nm : Nat) : (st.setObj k o).obj nm = if nm = k then o else st.obj nm := by
  rw [St.setObj_eq, St.obj_mk, objAt_put, St.obj_eq]
theorem S0_obj (nm : Nat) : S0.obj nm = .dead := objAt_zero nm
theorem allK_eq (o : AObj) (f : Nat → Value) (st : St) : allK o f st = .ok (f st.next) (st.push o) := by
  obtain ⟨h, n⟩ := st
  show Re.ok (f n) (pushAt n h o) = _
  rw [pushAt_eq]; rfl
theorem boxK_eq (xs : List Value) (st : St) : boxK xs st = .ok (ptr st.next 0) (st.push (rowOf xs 0 true)) := allK_eq _ _ _
@[simp] theorem boxN_agg (xs : List Value) (st : St) : boxN (.agg ⟨xs⟩) st = .ok (ptr st.next 0) (st.push (rowOf xs 0 true)) := boxK_eq xs st
@[simp] theorem boxN_int (k : IntKind) (n : Int) (st : St) : boxN (.int k n) st = .ok (ptr st.next 0) (st.push (rowOf [.int k n] 0 true)) := boxK_eq _ st
@[simp] theorem boxN_bool (b : Bool) (st : St) : boxN (.bool b) st = .ok (ptr st.next 0) (st.push (rowOf [.bool b] 0 true)) := boxK_eq _ st
@[simp] theorem boxN_string (b : ByteArray) (st : St) : boxN (.string b) st = .ok (ptr st.next 0) (st.push (rowOf [.string b] 0 true)) := boxK_eq _ st
@[simp] theorem boxN_slice (a : Option Addr) (n c : Nat) (st : St) : boxN (.slice a n c) st = .ok (ptr st.next 0) (st.push (rowOf [.slice a n c] 0 true)) := boxK_eq _ st
@[simp] theorem boxN_fsl (n : Nat) (cs : List Value) (st : St) : boxN (fsl n cs) st = .ok (ptr st.next 0) (st.push (rowOf [fsl n cs] 0 true)) := boxK_eq _ st
@[simp] theorem boxN_fpt (n : Nat) (cs : List Value) (st : St) : boxN (fpt n cs) st = .ok (ptr st.next 0) (st.push (rowOf [fpt n cs] 0 true)) := boxK_eq _ st
@[simp] theorem boxN_ptr (n o : Nat) (st : St) : boxN (ptr n o) st = .ok (ptr st.next 0) (st.push (rowOf [ptr n o] 0 true)) := boxK_eq _ st
@[simp] theorem boxN_func (f : FuncId) (as bs : Array Value) (st : St) : boxN (.func (.func f) as bs) st = .ok (ptr st.next 0) (st.push (rowOf [.func (.func f) as bs] 0 true)) := boxK_eq _ st

/-! ## Loads -/
def ldO (ty : Ty) (off : Nat) (o : AObj) (st : St) : Re :=
  cellsK o .no fun d n _ _ tr =>
    Ty.rec .no (fun k => bsel (Nat.ble (Nat.add off k) n) (.ok (.agg ⟨Bt.sub tr (half d) off (Nat.add off k) []⟩) st) .no)
      (bsel (Nat.ble (Nat.succ off) n) (.ok (Bt.get (pathM d off) tr) st) .no) ty
@[simp] theorem loadA_ptr (ty : Ty) (nm off : Nat) (st : St) : loadA ty (ptr nm off) st = ldO ty off (st.obj nm) st := rfl
@[simp] theorem loadA_fpt (ty : Ty) (o : Nat) (cs : List Value) (st : St) : loadA ty (fpt o cs) st = reO (partK ty cs o) st := rfl
theorem rowOf_eq (xs : List Value) (es : Nat) (ex : Bool) : rowOf xs es ex = .cells (dep xs.length) xs.length es ex (Bt.ofL (dep xs.length) xs) := by unfold rowOf; rw [lenL_eq]
@[simp] theorem ldO_one (off : Nat) (xs : List Value) (es : Nat) (ex : Bool) (st : St) : ldO .one off (rowOf xs es ex) st = reO xs[off]? st := by
  rw [rowOf_eq]
  show bsel (Nat.ble (Nat.succ off) xs.length) (Re.ok (Bt.get (pathM (dep xs.length) off) (Bt.ofL (dep xs.length) xs)) st) Re.no = _
  by_cases h : off < xs.length
  · rw [ble_iff.2 (show Nat.succ off ≤ xs.length from h), bsel_true]
    have h2 : off < 2 ^ dep xs.length := Nat.lt_of_lt_of_le h (dep_le _)
    have e := Bt.get_eq (Bt.ofL_perf (dep xs.length) xs).1 h2
    rw [(Bt.ofL_perf (dep xs.length) xs).2 off h h2, List.getElem?_eq_getElem h] at e
    rw [List.getElem?_eq_getElem h]
    simp only [Option.some.injEq] at e
    rw [e]; rfl
  · have hb : Nat.ble (Nat.succ off) xs.length = false := by
      cases hb : Nat.ble (Nat.succ off) xs.length
      · rfl
      · exact absurd (ble_iff.1 hb) h
    rw [hb, List.getElem?_eq_none (by omega)]; rfl
@[simp] theorem ldO_agg (k off : Nat) (xs : List Value) (es : Nat) (ex : Bool) (st : St) : ldO (.agg k) off (rowOf xs es ex) st = if off + k ≤ xs.length then .ok (.agg ⟨(xs.drop off).take k⟩) st else .no := by
  rw [rowOf_eq]
  show bsel (Nat.ble (off + k) xs.length) (Re.ok (.agg ⟨Bt.sub (Bt.ofL (dep xs.length) xs) (half (dep xs.length)) off (off + k) []⟩) st) Re.no = _
  rw [bsel_eq]
  by_cases h : off + k ≤ xs.length
  · rw [if_pos (ble_iff.2 h), if_pos h, Bt.sub_eq (Bt.ofL_perf _ _).1, List.append_nil]
    have e1 : off + k - off = k := by omega
    rw [e1]
    have e2 : ((Bt.ofL (dep xs.length) xs).leaves.drop off).take k = (xs.drop off).take k := by
      apply List.ext_getElem?
      intro i
      rw [List.getElem?_take, List.getElem?_take]
      split
      · rw [List.getElem?_drop, List.getElem?_drop]
        exact (Bt.ofL_perf _ xs).2 (off + i) (by omega) (Nat.lt_of_lt_of_le (by omega) (dep_le _))
      · rfl
    rw [e2]
  · rw [if_neg (fun e => h (ble_iff.1 e)), if_neg h]
@[simp] theorem partK_one (cs : List Value) (o : Nat) : partK .one cs o = cs[o]? := nthL_eq o cs
@[simp] theorem partK_agg (k : Nat) (cs : List Value) (o : Nat) : partK (.agg k) cs o = if o + k ≤ cs.length then some (.agg ⟨(cs.drop o).take k⟩) else none := by
  show bsel (Nat.ble (o + k) (lenL cs)) (some (Value.agg ⟨takeL k (dropL o cs)⟩)) none = _
  rw [bsel_eq, lenL_eq, takeL_eq, dropL_eq]
  by_cases h : o + k ≤ cs.length
  · rw [if_pos (ble_iff.2 h), if_pos h]
  · rw [if_neg (fun e => h (ble_iff.1 e)), if_neg h]

/-! ## Addresses, lengths -/
@[simp] theorem movP_ptr (nm off d : Nat) : movP (ptr nm off) d = some (ptr nm (off + d)) := rfl
@[simp] theorem movP_fpt (o d : Nat) (cs : List Value) : movP (fpt o cs) d = some (fpt (o + d) cs) := rfl
@[simp] theorem idxK_sl (k : Nat) (x : Value) (kk : IntKind) (i : Nat) : idxK (.sl k) x (.int kk (i : Int)) = idxS x i k := rfl
@[simp] theorem idxK_arr (n k : Nat) (x : Value) (kk : IntKind) (i : Nat) : idxK (.arr n k) x (.int kk (i : Int)) = if i < n then movP x (i * k) else none := by
  show bsel (Nat.ble (Nat.succ i) n) (movP x (i * k)) none = _
  rw [bsel_eq]
  by_cases h : i < n
  · rw [if_pos (ble_iff.2 (show Nat.succ i ≤ n from h)), if_pos h]
  · rw [if_neg (fun e => h (ble_iff.1 e)), if_neg h]
@[simp] theorem idxS_fsl (n i k : Nat) (cs : List Value) : idxS (fsl n cs) i k = if i < n then some (fpt (i * k) cs) else none := by
  show bsel (Nat.ble (Nat.succ i) n) (some (fpt (i * k) cs)) none = _
  rw [bsel_eq]
  by_cases h : i < n
  · rw [if_pos (ble_iff.2 (show Nat.succ i ≤ n from h)), if_pos h]
  · rw [if_neg (fun e => h (ble_iff.1 e)), if_neg h]
@[simp] theorem idxS_row (nm off n c i k : Nat) : idxS (.slice (some ⟨nm, off, none⟩) n c) i k = if i < n then some (ptr nm (off + i * k)) else none := by
  show bsel (Nat.ble (Nat.succ i) n) (some (ptr nm (off + i * k))) none = _
  rw [bsel_eq]
  by_cases h : i < n
  · rw [if_pos (ble_iff.2 (show Nat.succ i ≤ n from h)), if_pos h]
  · rw [if_neg (fun e => h (ble_iff.1 e)), if_neg h]
@[simp] theorem lenK_fsl (n : Nat) (cs : List Value) (st : St) : lenK .sl (fsl n cs) st = some (I64 n) := rfl
@[simp] theorem lenK_row (a : Option Addr) (n c : Nat) (st : St) : lenK .sl (.slice a n c) st = some (I64 n) := rfl
@[simp] theorem lenK_str (s : ByteArray) (st : St) : lenK .str (.string s) st = some (I64 s.size) := rfl
@[simp] theorem extractK_tuple (vs : List Value) (i : Nat) (st : St) : extractK (.tuple ⟨vs⟩) i st = reO vs[i]? st := by
  show reO (nthL i vs) st = _
  rw [nthL_eq]

/-! ## Numbers -/
theorem binI (op : BinOp) (e : Ek) (k : IntKind) (a b : Int) : binK op e (.int k a) (.int k b) = intOp op k a b := by
  show bsel (bsel (kEq k k) true (isShift op)) (intOp op k a b) none = _
  rw [kEq_iff.2 rfl]; rfl
@[simp] theorem bin_add (e : Ek) (k : IntKind) (a b : Int) : binK .add e (.int k a) (.int k b) = some (.int k (k.wrap (a + b))) := by
  rw [binI]; show some (Value.int k (wrapF k (addI a b))) = _; rw [wrapF_eq, addI_eq]
@[simp] theorem bin_sub (e : Ek) (k : IntKind) (a b : Int) : binK .sub e (.int k a) (.int k b) = some (.int k (k.wrap (a - b))) := by
  rw [binI]; show some (Value.int k (wrapF k (subI a b))) = _; rw [wrapF_eq, subI_eq]
@[simp] theorem bin_mul (e : Ek) (k : IntKind) (a b : Int) : binK .mul e (.int k a) (.int k b) = some (.int k (k.wrap (a * b))) := by rw [binI]; rfl
@[simp] theorem bin_eql (e : Ek) (k : IntKind) (a b : Int) : binK .eql e (.int k a) (.int k b) = some (.bool (decide (a = b))) := by
  rw [binI]; show some (Value.bool (iEq a b)) = _; rw [iEq_eq]; rfl
@[simp] theorem bin_neq (e : Ek) (k : IntKind) (a b : Int) : binK .neq e (.int k a) (.int k b) = some (.bool (!decide (a = b))) := by
  rw [binI]; show some (Value.bool (bsel (iEq a b) false true)) = _; rw [iEq_eq]
  have : (a == b) = decide (a = b) := rfl
  rw [this]; cases decide (a = b) <;> rfl
@[simp] theorem bin_lss (e : Ek) (k : IntKind) (a b : Int) : binK .lss e (.int k a) (.int k b) = some (.bool (decide (a < b))) := by
  rw [binI]; show some (Value.bool (ltI a b)) = _; rw [ltI_eq]
@[simp] theorem bin_leq (e : Ek) (k : IntKind) (a b : Int) : binK .leq e (.int k a) (.int k b) = some (.bool (decide (a ≤ b))) := by
  rw [binI]; show some (Value.bool (leI a b)) = _; rw [leI_eq]
@[simp] theorem bin_gtr (e : Ek) (k : IntKind) (a b : Int) : binK .gtr e (.int k a) (.int k b) = some (.bool (decide (b < a))) := by
  rw [binI]; show some (Value.bool (ltI b a)) = _; rw [ltI_eq]
@[simp] theorem bin_geq (e : Ek) (k : IntKind) (a b : Int) : binK .geq e (.int k a) (.int k b) = some (.bool (decide (b ≤ a))) := by
  rw [binI]; show some (Value.bool (leI b a)) = _; rw [leI_eq]
@[simp] theorem un_not (b : Bool) : unA .not (.bool b) = some (.bool (!b)) := by cases b <;> rfl
@[simp] theorem un_neg (k : IntKind) (n : Int) : unA .neg (.int k n) = some (.int k (k.wrap (0 - n))) := rfl
@[simp] theorem bin_eqb (a b : Bool) : binK .eql .bool (.bool a) (.bool b) = some (.bool (a == b)) := rfl
@[simp] theorem bin_neb (a b : Bool) : binK .neq .bool (.bool a) (.bool b) = some (.bool (!(a == b))) := rfl
theorem wrap64 {x : Int} (h : -9223372036854775808 ≤ x ∧ x ≤ 9223372036854775807) : IntKind.i64.wrap x = x := by
  simp [IntKind.wrap, IntKind.bits, IntKind.signed]; omega
end
end Go.Proofs.YtolgomkmilbkgaaGreat.Ev

set_option autoImplicit false
set_option linter.unusedVariables false
set_option linter.unusedSimpArgs false
namespace Go.Proofs.YtolgomkmilbkgaaGreat.Ev
open Go
noncomputable section

/-! ## Cases -/
theorem bindP_cases (b : Bool) (r : Re) (st : St) (F : Value → St → Prop) : bindP (guarded b r st) F = ((b = true → bindP r F) ∧ (b = false → F junk st)) := by
  cases b <;> simp
theorem bindO_cases (b : Bool) (r : Option Value) (F : Value → Prop) : bindO (guardO b r) F = ((b = true → bindO r F) ∧ (b = false → F junk)) := by
  cases b <;> simp
theorem condP_cases (b : Bool) (A B : Prop) : condP (.bool b) A B = ((b = true → A) ∧ (b = false → B)) := by
  cases b <;> simp
theorem pickK_cases (b : Bool) (x y : Value) (st : St) (F : Value → St → Prop) : bindP (pickK (.bool b) x y st) F = ((b = true → F x st) ∧ (b = false → F y st)) := by
  cases b <;> simp [bindP, pickK]
theorem bindP_ite {c : Prop} [Decidable c] (a b : Re) (F : Value → St → Prop) : bindP (if c then a else b) F = ((c → bindP a F) ∧ (¬ c → bindP b F)) := by
  by_cases h : c <;> simp [h]
theorem reO_ite {c : Prop} [Decidable c] (a b : Option Value) (st : St) : reO (if c then a else b) st = if c then reO a st else reO b st := by
  split <;> rfl

/-! ## Values without names -/
/-- Told without names it is the same. -/
structure Pv (d : Nat) (v : Value) : Prop where
  pure : ∀ e, d ≤ e → pureV e v = true
  snap : ∀ keep st e, d ≤ e → snapV keep st e v = some v
  below : ∀ N e, d ≤ e → belowV e N v = true

theorem Pv.mono {d d' : Nat} {v : Value} (h : Pv d v) (hd : d ≤ d') : Pv d' v := ⟨fun e he => h.pure e (by omega), fun k st e he => h.snap k st e (by omega), fun N e he => h.below N e (by omega)⟩
theorem flat_pure {v : Value} (h : flat v = true) : ∀ e, pureV e v = true
  | 0 => h
  | e + 1 => by
    unfold pureV
    cases v <;> first | rfl | (simp only [] at h ⊢; exact h) | (cases h)
theorem flat_below {v : Value} (h : flat v = true) (N : Nat) : ∀ e, belowV e N v = true
  | 0 => by simpa [belowV] using h
  | e + 1 => by
    unfold belowV
    cases v with
    | pointer a => cases a with | none => rfl | some a => cases h
    | slice a n c => cases a with
      | none => cases n with
        | zero => cases c with | zero => rfl | succ c => cases h
        | succ n => cases h
      | some a => cases h
    | map a => cases a with | none => rfl | some a => cases h
    | _ => first | rfl | cases h
theorem Pv.int (k : IntKind) (n : Int) : Pv 0 (.int k n) := ⟨fun e _ => flat_pure rfl e, fun k st e _ => by cases e <;> rfl, fun N e _ => flat_below rfl N e⟩
theorem Pv.bool (b : Bool) : Pv 0 (.bool b) := ⟨fun e _ => flat_pure rfl e, fun k st e _ => by cases e <;> rfl, fun N e _ => flat_below rfl N e⟩
theorem Pv.string (s : ByteArray) : Pv 0 (.string s) := ⟨fun e _ => flat_pure rfl e, fun k st e _ => by cases e <;> rfl, fun N e _ => flat_below rfl N e⟩
theorem mapO_same {f : Value → Option Value} : ∀ {xs : List Value}, (∀ x, x ∈ xs → f x = some x) → mapO f xs = some xs
  | [], _ => rfl
  | x :: xs, h => by
    show (osel (f x) none fun y => osel (mapO f xs) none fun ys => some (y :: ys)) = _
    rw [h x (by simp), osel_some, mapO_same (fun y hy => h y (by simp [hy])), osel_some]
theorem Pv.fsl {d n : Nat} {cs : List Value} (h : ∀ u, u ∈ cs → Pv d u) : Pv (d + 1) (fsl n cs) := by
  refine ⟨fun e he => ?_, fun keep st e he => ?_, fun N e he => ?_⟩ <;> obtain ⟨e, rfl⟩ : ∃ j, e = j + 1 := ⟨e - 1, by omega⟩
  · exact List.all_eq_true.2 fun u hu => (h u hu).pure e (by omega)
  · show (osel (mapO (snapV keep st e) cs) none fun as' => some (Value.func (.via n #[] 0 false) ⟨as'⟩ #[])) = _
    rw [mapO_same (fun u hu => (h u hu).snap keep st e (by omega))]; rfl
  · exact List.all_eq_true.2 fun u hu => (h u hu).below N e (by omega)
theorem Pv.fpt {d n : Nat} {cs : List Value} (h : ∀ u, u ∈ cs → Pv d u) : Pv (d + 1) (fpt n cs) := by
  refine ⟨fun e he => ?_, fun keep st e he => ?_, fun N e he => ?_⟩ <;> obtain ⟨e, rfl⟩ : ∃ j, e = j + 1 := ⟨e - 1, by omega⟩
  · exact List.all_eq_true.2 fun u hu => (h u hu).pure e (by omega)
  · show (osel (mapO (snapV keep st e) cs) none fun as' => some (Value.func (.via n #[] 0 true) ⟨as'⟩ #[])) = _
    rw [mapO_same (fun u hu => (h u hu).snap keep st e (by omega))]; rfl
  · exact List.all_eq_true.2 fun u hu => (h u hu).below N e (by omega)
theorem Pv.agg {d : Nat} {cs : List Value} (h : ∀ u, u ∈ cs → Pv d u) : Pv (d + 1) (.agg ⟨cs⟩) := by
  refine ⟨fun e he => ?_, fun keep st e he => ?_, fun N e he => ?_⟩ <;> obtain ⟨e, rfl⟩ : ∃ j, e = j + 1 := ⟨e - 1, by omega⟩
  · exact List.all_eq_true.2 fun u hu => (h u hu).pure e (by omega)
  · show (osel (mapO (snapV keep st e) cs) none fun as' => some (Value.agg ⟨as'⟩)) = _
    rw [mapO_same (fun u hu => (h u hu).snap keep st e (by omega))]; rfl
  · exact List.all_eq_true.2 fun u hu => (h u hu).below N e (by omega)
theorem Pv.tuple {d : Nat} {cs : List Value} (h : ∀ u, u ∈ cs → Pv d u) : Pv (d + 1) (.tuple ⟨cs⟩) := by
  refine ⟨fun e he => ?_, fun keep st e he => ?_, fun N e he => ?_⟩ <;> obtain ⟨e, rfl⟩ : ∃ j, e = j + 1 := ⟨e - 1, by omega⟩
  · exact List.all_eq_true.2 fun u hu => (h u hu).pure e (by omega)
  · show (osel (mapO (snapV keep st e) cs) none fun as' => some (Value.tuple ⟨as'⟩)) = _
    rw [mapO_same (fun u hu => (h u hu).snap keep st e (by omega))]; rfl
  · exact List.all_eq_true.2 fun u hu => (h u hu).below N e (by omega)
theorem Pv.iface {d : Nat} {t : TypeId} {u : Value} (h : Pv d u) : Pv (d + 1) (.iface t u) := by
  refine ⟨fun e he => ?_, fun keep st e he => ?_, fun N e he => ?_⟩ <;> obtain ⟨e, rfl⟩ : ∃ j, e = j + 1 := ⟨e - 1, by omega⟩
  · exact h.pure e (by omega)
  · show (osel (snapV keep st e u) none fun u' => some (Value.iface t u')) = _
    rw [h.snap keep st e (by omega)]; rfl
  · exact h.below N e (by omega)

@[simp] theorem snap_bool (k : Bool) (st : St) (b : Bool) : snapV k st snapD (.bool b) = some (.bool b) := rfl
@[simp] theorem snap_int (k : Bool) (st : St) (kk : IntKind) (n : Int) : snapV k st snapD (.int kk n) = some (.int kk n) := rfl
@[simp] theorem snap_string (k : Bool) (st : St) (s : ByteArray) : snapV k st snapD (.string s) = some (.string s) := rfl
theorem snap_pv {v : Value} (h : Pv 8 v) (k : Bool) (st : St) : snapV k st snapD v = some v := h.snap k st 8 (Nat.le_refl _)

/-! ## Known calls -/
/-- A contract: what a function yields, by its arguments told without names. -/
structure Con (P : Program) where
  f : FuncId
  keep : Bool
  R : List Value → Value → Prop
  one : ∀ args v v', R args v → R args v' → v = v'
  ok : ∀ args v, R args v → PurOk P f args v

/-- What is yielded, if anything is told. -/
def Con.g {P : Program} (c : Con P) (args : List Value) : Option Value := @dite _ (∃ v, c.R args v) (Classical.propDecidable _) (fun h => some h.choose) (fun _ => none)
theorem Con.g_ok {P : Program} {c : Con P} {args : List Value} {v : Value} (h : c.g args = some v) : c.R args v := by
  unfold Con.g at h
  split at h
  · rename_i hex
    cases h
    exact hex.choose_spec
  · cases h
theorem Con.g_eq {P : Program} {c : Con P} {args : List Value} {v : Value} (h : c.R args v) : c.g args = some v := by
  unfold Con.g
  have hex : ∃ v, c.R args v := ⟨v, h⟩
  rw [dif_pos hex]
  exact congrArg some (c.one args _ _ hex.choose_spec h)

/-- The oracle of some contracts. -/
def orcL {P : Program} (cs : List (Con P)) : Orc where
  call := fun _ _ _ => .no
  pur := fun f => (cs.find? fun c => c.f == f).map fun c => ⟨c.keep, c.g⟩

theorem orcL_ok {P : Program} (cs : List (Con P)) : OrcOk P (orcL cs) := by
  refine .noneCall (fun _ _ _ => rfl) fun f p h args v hg => ?_
  have h : ((cs.find? fun c => c.f == f).map fun c => (⟨c.keep, c.g⟩ : Pf)) = some p := h
  cases hc : cs.find? (fun c => c.f == f) with
  | none => rw [hc] at h; cases h
  | some c =>
    rw [hc] at h
    cases h
    have hf : c.f = f := by have := List.find?_some hc; simpa using this
    rw [← hf]
    exact c.ok args _ (Con.g_ok hg)

/-- A known call. -/
theorem pcall_orc {P : Program} {cs : List (Con P)} {f : FuncId} {c : Con P} (hc : cs.find? (fun c => c.f == f) = some c) {args xs : List Value} {v : Value} {st : St} (hs : mapO (snapV c.keep st snapD) args = some xs) (hR : c.R xs v)
    (hp : args.all (pureV snapD) = true ∨ flat2 v = true) : pcall (orcL cs) f args st = some v := by
  unfold pcall
  have e : (orcL cs).pur f = some ⟨c.keep, c.g⟩ := by
    show (cs.find? fun c => c.f == f).map _ = _
    rw [hc]; rfl
  rw [e, osel_some]
  unfold purS
  simp only [hs, osel_some, Con.g_eq hR]
  have e3 : bsel (args.all (pureV snapD)) true (flat2 v) = true := by
    rcases hp with hp | hp
    · rw [hp]; rfl
    · rw [hp]; cases args.all (pureV snapD) <;> rfl
  rw [e3, bsel_true]

/-- A known call with values without names. -/
theorem pcall_pure {P : Program} {cs : List (Con P)} {f : FuncId} {c : Con P} (hc : cs.find? (fun c => c.f == f) = some c) {args : List Value} {v : Value} {st : St} (hR : c.R args v) (hp : ∀ u, u ∈ args → Pv 8 u) : pcall (orcL cs) f args st = some v :=
  pcall_orc hc (mapO_same fun u hu => (hp u hu).snap _ _ _ (Nat.le_refl _)) hR (.inl (List.all_eq_true.2 fun u hu => (hp u hu).pure _ (Nat.le_refl _)))

/-- A contract, by what must hold ahead. -/
theorem pur_wp {P : Program} (hm : P.follows .mixedOrders = true) {cs : List (Con P)} {isP : FuncId → Bool} {f : FuncId} {args : List Value} {pv : Value} {keep : Bool}
    (h : wpF P (orcL cs) isP f args S0 fun v st => snapV keep st snapD v = some pv) : PurOk P f args pv := by
  obtain ⟨K, v, st', h1, h2⟩ := wpF_ok (fun _ _ _ => rfl) h
  exact pur_of_runB hm (orcL_ok cs) (h1 K (Nat.le_refl _)) h2

/-- A contract by a family of arguments. -/
def mkCon {P : Program} {α : Type} (f : FuncId) (keep : Bool) (enc : α → List Value) (pre : α → Prop) (val : α → Value) (inj : ∀ x y, enc x = enc y → x = y) (ok : ∀ x, pre x → PurOk P f (enc x) (val x)) : Con P where
  f := f
  keep := keep
  R := fun args v => ∃ x, pre x ∧ args = enc x ∧ v = val x
  one := fun args v v' ⟨x, _, h1, h2⟩ ⟨y, _, h3, h4⟩ => by
    have := inj x y (h1.symm.trans h3)
    subst this
    rw [h2, h4]
  ok := fun args v ⟨x, hx, h1, h2⟩ => by rw [h1, h2]; exact ok x hx

theorem pcall_mk {P : Program} {cs : List (Con P)} {α : Type} {f : FuncId} {keep : Bool} {enc : α → List Value} {pre : α → Prop} {val : α → Value} {inj : ∀ x y, enc x = enc y → x = y} {ok : ∀ x, pre x → PurOk P f (enc x) (val x)}
    (hc : cs.find? (fun c => c.f == f) = some (mkCon f keep enc pre val inj ok)) (x : α) (hx : pre x) (hp : ∀ u, u ∈ enc x → Pv 8 u) (st : St) : pcall (orcL cs) f (enc x) st = some (val x) :=
  pcall_pure hc ⟨x, hx, rfl, rfl⟩ hp

theorem fsl_inj {n m : Nat} {cs ds : List Value} (h : fsl n cs = fsl m ds) : n = m ∧ cs = ds := by
  unfold fsl at h
  simp at h
  exact h

/-! ## Loops -/
theorem loop_rule {P : Program} {O : Orc} {isP : FuncId → Bool} {ro : Option Nat} {b : Code} {Q : Kt} (I : Nat → Ac → St → Prop)
    (h : ∀ m a st, I m a st → wp P O isP ro b a st fun xt a' st' => Xit.rec (∃ m', m' < m ∧ I m' a' st') (fun id => Q (.exit id) a' st') (fun l => Q (.goto l) a' st') (Q .ret a' st') xt) :
    ∀ m a st, I m a st → RunsC P O (.loop b) ro a st Q := by
  intro m
  induction m using Nat.strongRecOn with
  | _ m ih =>
    intro a st hI
    obtain ⟨K, x, a1, st1, h1, h2⟩ := wp_ok (h m a st hI)
    have fin : x ≠ .normal → Q x a1 st1 → RunsC P O (.loop b) ro a st Q := fun hx hQ => .of (K := K) (fun K' hK => by
      show thenN (evCode P O K' b ro a st) (fun a st => evCode P O K' (.loop b) ro a st) = _
      rw [h1 K' hK]
      cases x <;> first | exact absurd rfl hx | rfl) hQ
    cases x with
    | normal =>
      obtain ⟨m', hm, hI'⟩ := h2
      obtain ⟨K2, x2, a2, st2, h3, h4⟩ := ih m' hm a1 st1 hI'
      refine .of (K := max K K2) (fun K' hK => ?_) h4
      show thenN (evCode P O K' b ro a st) (fun a st => evCode P O K' (.loop b) ro a st) = _
      rw [h1 K' (by omega)]
      exact h3 K' (by omega)
    | exit id => exact fin (by simp) h2
    | goto l => exact fin (by simp) h2
    | ret => exact fin (by simp) h2

/-! ## What comes behind -/
@[simp] theorem blockK_normal (id : Nat) (Q : Kt) (a : Ac) (st : St) : blockK id Q .normal a st = Q .normal a st := rfl
@[simp] theorem blockK_ret (id : Nat) (Q : Kt) (a : Ac) (st : St) : blockK id Q .ret a st = Q .ret a st := rfl
@[simp] theorem blockK_exit (id j : Nat) (Q : Kt) (a : Ac) (st : St) : blockK id Q (.exit j) a st = if j = id then Q .normal a st else Q (.exit j) a st := by
  show bsel (Nat.beq j id) (Q .normal a st) (Q (.exit j) a st) = _
  rw [bsel_eq]
  by_cases h : j = id
  · rw [if_pos (beq_iff.2 h), if_pos h]
  · rw [if_neg (fun e => h (beq_iff.1 e)), if_neg h]
@[simp] theorem seqK_normal (P : Program) (O : Orc) (isP : FuncId → Bool) (ro : Option Nat) (c : Code) (Q : Kt) (a : Ac) (st : St) : seqK P O isP ro c Q .normal a st = wp P O isP ro c a st Q := rfl
@[simp] theorem seqK_ret (P : Program) (O : Orc) (isP : FuncId → Bool) (ro : Option Nat) (c : Code) (Q : Kt) (a : Ac) (st : St) : seqK P O isP ro c Q .ret a st = Q .ret a st := rfl
@[simp] theorem seqK_exit (P : Program) (O : Orc) (isP : FuncId → Bool) (ro : Option Nat) (c : Code) (Q : Kt) (a : Ac) (st : St) (id : Nat) : seqK P O isP ro c Q (.exit id) a st = Q (.exit id) a st := rfl
@[simp] theorem scopeK_normal (Q : Kt) (a : Ac) (st : St) : scopeK Q .normal a st = Q .normal a st := rfl
@[simp] theorem scopeK_ret (Q : Kt) (a : Ac) (st : St) : scopeK Q .ret a st = Q .ret a st := rfl

/-! ## Frames -/
@[simp] theorem setArgs_nil (i : Nat) (t : Regs) : setArgs [] i t = t := rfl
@[simp] theorem setArgs_cons (v : Value) (l : List Value) (i : Nat) (t : Regs) : setArgs (v :: l) i t = setArgs l (i + 1) ((regAt i).s v t) := rfl

@[simp] theorem gt_same {t : Regs} {d : Nat} {v : Value} (h : d < 512) : gt ((regAt d).s v t) d = v := regAt_same h v t
@[simp] theorem gt_other {t : Regs} {d i : Nat} {v : Value} (hi : i < 512) (hd : d < 512) (h : i ≠ d) : gt ((regAt d).s v t) i = gt t i := regAt_other hi hd h v t
@[simp] theorem fs_nil (t : Regs) : fs t [] = t := rfl
@[simp] theorem fs_cons (t : Regs) (d : Nat) (v : Value) (l : List (Nat × Value)) : fs t ((d, v) :: l) = fs ((regAt d).s v t) l := rfl
theorem gt_fs {t : Regs} {i : Nat} (hi : i < 512) : ∀ {l : List (Nat × Value)} {t : Regs}, (∀ p, p ∈ l → p.1 < 512) → gt (fs t l) i = ((l.reverse.find? fun p => p.1 == i).map (·.2)).getD (gt t i) := by
  intro l
  induction l with
  | nil => intro t _; rfl
  | cons p l ih =>
    intro t h
    obtain ⟨d, v⟩ := p
    rw [fs_cons, ih (fun q hq => h q (by simp [hq])), List.reverse_cons, List.find?_append]
    cases hf : l.reverse.find? (fun p => p.1 == i) with
    | some q => rfl
    | none =>
      simp only [Option.map_none, Option.getD_none, Option.none_or]
      by_cases e : d = i
      · subst e
        rw [gt_same hi]; simp
      · rw [gt_other hi (h (d, v) (by simp)) (fun e2 => e e2.symm)]
        simp [e]
end
end Go.Proofs.YtolgomkmilbkgaaGreat.Ev

set_option autoImplicit false
set_option linter.unusedVariables false
set_option linter.unusedSimpArgs false
namespace Go.Proofs.YtolgomkmilbkgaaGreat.Ev
open Go
noncomputable section
/-! ## Closed calls, worked out by the kernel -/
def vEqL (f : Value → Value → Bool) : List Value → List Value → Bool :=
  fun as => List.rec (fun bs => List.rec true (fun _ _ _ => false) bs) (fun a _ ih bs => List.rec false (fun b bs' _ => bsel (f a b) (ih bs') false) bs) as
def vEq1 (f : Value → Value → Bool) (a b : Value) : Bool :=
  match a, b with
  | .agg as, .agg bs => vEqL f as.toList bs.toList
  | .tuple as, .tuple bs => vEqL f as.toList bs.toList
  | .iface t v, .iface u w => bsel (Nat.beq t u) (f v w) false
  | .func g as bs, .func h cs ds => bsel (decide (g = h)) (bsel (vEqL f as.toList cs.toList) (vEqL f bs.toList ds.toList) false) false
  | a, b => same1 a b
def vEq (d : Nat) : Value → Value → Bool := Nat.rec same1 (fun _ ih => vEq1 ih) d
theorem vEqL_eq {f : Value → Value → Bool} (hf : ∀ a b, f a b = true → a = b) : ∀ {as bs : List Value}, vEqL f as bs = true → as = bs
  | [], [], _ => rfl
  | [], _ :: _, h => by cases h
  | _ :: _, [], h => by cases h
  | a :: as, b :: bs, h => by
    have h : bsel (f a b) (vEqL f as bs) false = true := h
    obtain ⟨h1, h2⟩ := bsel_ne h (by simp)
    rw [hf a b h1, vEqL_eq hf h2]
theorem vEq1_eq {f : Value → Value → Bool} (hf : ∀ a b, f a b = true → a = b) {a b : Value} (h : vEq1 f a b = true) : a = b := by
  unfold vEq1 at h
  split at h
  · exact congrArg _ (Array.ext' (vEqL_eq hf h))
  · exact congrArg _ (Array.ext' (vEqL_eq hf h))
  · obtain ⟨h1, h2⟩ := bsel_ne h (by simp)
    rw [beq_iff.1 h1, hf _ _ h2]
  · obtain ⟨h1, h⟩ := bsel_ne h (by simp)
    obtain ⟨h2, h3⟩ := bsel_ne h (by simp)
    rw [of_decide_eq_true h1, Array.ext' (vEqL_eq hf h2), Array.ext' (vEqL_eq hf h3)]
  · exact same1_eq h
theorem vEq_eq : ∀ (d : Nat) {a b : Value}, vEq d a b = true → a = b
  | 0, _, _, h => same1_eq h
  | d + 1, _, _, h => vEq1_eq (fun _ _ h => vEq_eq d h) h

structure K1 where
  f : FuncId
  args : List Value
  v : Value
def findK (f : FuncId) (xs : List Value) (ks : List K1) : Option Value :=
  List.rec none (fun k _ ih => bsel (Nat.beq k.f f) (bsel (vEqL (vEq 6) k.args xs) (some k.v) ih) ih) ks
def hasK (f : FuncId) (ks : List K1) : Bool := List.rec false (fun k _ ih => bsel (Nat.beq k.f f) true ih) ks
def orcK (ks : List K1) : Orc := ⟨fun _ _ _ => .no, fun f => bsel (hasK f ks) (some ⟨false, fun xs => findK f xs ks⟩) none⟩
theorem findK_ok {f : FuncId} {xs : List Value} {v : Value} : ∀ {ks : List K1}, findK f xs ks = some v → ∃ k, k ∈ ks ∧ k.f = f ∧ k.args = xs ∧ k.v = v
  | [], h => by cases h
  | k :: ks, h => by
    have h : bsel (Nat.beq k.f f) (bsel (vEqL (vEq 6) k.args xs) (some k.v) (findK f xs ks)) (findK f xs ks) = some v := h
    have rest : findK f xs ks = some v → ∃ k', k' ∈ k :: ks ∧ k'.f = f ∧ k'.args = xs ∧ k'.v = v := fun h => by
      obtain ⟨k', h1, h2⟩ := findK_ok h
      exact ⟨k', by simp [h1], h2⟩
    cases hf : Nat.beq k.f f with
    | false => rw [hf] at h; exact rest h
    | true =>
      rw [hf, bsel_true] at h
      cases he : vEqL (vEq 6) k.args xs with
      | false => rw [he] at h; exact rest h
      | true =>
        rw [he] at h
        cases h
        exact ⟨k, by simp, beq_iff.1 hf, vEqL_eq (fun _ _ h => vEq_eq 6 h) he, rfl⟩
theorem orcK_ok {P : Program} {ks : List K1} (h : ∀ k, k ∈ ks → PurOk P k.f k.args k.v) : OrcOk P (orcK ks) := by
  refine .noneCall (fun _ _ _ => rfl) fun f p hp args v hg => ?_
  have hp : bsel (hasK f ks) (some (⟨false, fun xs => findK f xs ks⟩ : Pf)) none = some p := hp
  obtain ⟨_, hp⟩ := bsel_ne hp (by simp)
  cases hp
  obtain ⟨k, h1, rfl, rfl, rfl⟩ := findK_ok hg
  exact h k h1

def endsIn (r : Re) (pv : Value) : Bool := Re.rec false (fun v st => osel (snapV false st snapD v) false fun u => vEq 6 u pv) r
/-- A closed call. -/
theorem pur_eval {P : Program} (hm : P.follows .mixedOrders = true) {ks : List K1} (hks : ∀ k, k ∈ ks → PurOk P k.f k.args k.v) (K : Nat) {f : FuncId} {args : List Value} {pv : Value}
    (h : endsIn (callB P (evCode P (orcK ks) K) f args ⟨heap0, 0⟩) pv = true) : PurOk P f args pv := by
  cases hr : callB P (evCode P (orcK ks) K) f args ⟨heap0, 0⟩ with
  | no => rw [hr] at h; cases h
  | ok v st =>
    rw [hr] at h
    have h : osel (snapV false st snapD v) false (fun u => vEq 6 u pv) = true := h
    obtain ⟨u, hu, h⟩ := osel_ne h (by simp)
    have := vEq_eq 6 h
    subst this
    exact pur_of_runB hm (orcK_ok hks) hr hu

/-! ## A law -/
theorem pur_calls {P : Program} {f : FuncId} {args : List Value} {b : Bool} (h : PurOk P f args (.bool b)) {w : World} {args' : List Value} (ha : VRL (.pur (fzAll w)) args args') :
    Calls P f ⟨args'⟩ w fun e w' => e = .returned (.bool b) ∧ RowKit.Below w.heap.size w w' := by
  have := callsIn_wide.1 (h (fzAll w) w args' (fzAll_ok w) ha 0 none)
  refine Calls.mono this fun e w' ⟨φ', v', h1, h2, h3, h4, h5, h6, h7, h8, h9, h10⟩ => ?_
  have := bool_inv h2
  subst this
  exact ⟨h1, h9, h8, h10, h6, h7⟩

/-- Cells that are read, as a slice told by what it holds. -/
theorem vr_slice {W : World} {ad : Addr} {cap n : Nat} {cs ys : List Value} (hn : 0 < n) (hcap : n ≤ cap) (hne : 0 < ys.length) (hcell : ∀ k u, ys[k]? = some u → W.cell? (ad.add k) = some u)
    (h1 : ∀ u, u ∈ cs → u.oneCell' = true) (hv : VRL (.pur (fzAll W)) cs ys) : VR (.pur (fzAll W)) (fsl n cs) (.slice (some ad) n cap) := by
  obtain ⟨b, o, sp⟩ := ad
  have h0 := hcell 0 ys[0] (by simp [hne])
  have hsp : sp = none := by
    cases sp with
    | none => rfl
    | some s =>
      simp only [Addr.add, World.cell?] at h0
      split at h0 <;> simp at h0
  subst hsp
  have hb : ∃ C e fr, W.heap[b]? = some (.cells ⟨C⟩ e fr) := by
    simp only [Addr.add, World.cell?] at h0
    cases hw : W.heap[b]? with
    | none => simp [hw] at h0
    | some ob =>
      cases ob with
      | cells c e fr => exact ⟨c.toList, e, fr, rfl⟩
      | _ => simp [hw] at h0
  obtain ⟨C, e, fr, hC⟩ := hb
  have key : ∀ k u, ys[k]? = some u → C[o + k]? = some u := fun k u hk => by
    have := hcell k u hk
    rw [add_place, cell_row hC] at this
    exact this
  have hlen : o + ys.length ≤ C.length := by
    have := key (ys.length - 1) ys[ys.length - 1] (by simp [hne])
    have := (List.getElem?_eq_some_iff.1 this).1
    omega
  have hcl := hv.1
  refine .fsl n cap b o cs ys C hn hcap (fzAll_eq hC) (by omega) h1 hcl hv.2 ?_
  apply List.ext_getElem?
  intro i
  rw [List.getElem?_take, hcl]
  split
  · rename_i hi
    rw [List.getElem?_drop, key i ys[i] (by simp [hi])]
    simp [hi]
  · rw [List.getElem?_eq_none (by omega)]
end
end Go.Proofs.YtolgomkmilbkgaaGreat.Ev

set_option autoImplicit false
set_option linter.unusedVariables false
set_option linter.unusedSimpArgs false
namespace Go.Proofs.YtolgomkmilbkgaaGreat.Ev
open Go
noncomputable section

/-! # Stores, rows that grow -/
theorem bt_ext : ∀ {d : Nat} {t u : Bt}, t.perf d → u.perf d → t.leaves = u.leaves → t = u
  | 0, .leaf a, .leaf b, _, _, h => by simp [Bt.leaves] at h; rw [h]
  | 0, .node _ _, _, h, _, _ => h.elim
  | 0, .leaf _, .node _ _, _, h, _ => h.elim
  | d + 1, .leaf _, _, h, _, _ => h.elim
  | d + 1, .node _ _, .leaf _, _, h, _ => h.elim
  | d + 1, .node l r, .node l' r', h, h', e => by
    obtain ⟨e1, e2⟩ := List.append_inj (show l.leaves ++ r.leaves = l'.leaves ++ r'.leaves from e) (by rw [Bt.perf_len h.1, Bt.perf_len h'.1])
    rw [bt_ext h.1 h'.1 e1, bt_ext h.2 h'.2 e2]
theorem ofL_leaves : ∀ (d : Nat) (xs : List Value), (Bt.ofL d xs).leaves = xs.take (2 ^ d) ++ List.replicate (2 ^ d - xs.length) junk
  | 0, xs => by
    rw [ofL_zero]
    cases xs with
    | nil => rfl
    | cons a xs => simp [Bt.leaves]
  | d + 1, xs => by
    rw [ofL_succ, dropL_eq]
    show (Bt.ofL d xs).leaves ++ (Bt.ofL d (xs.drop (2 ^ d))).leaves = _
    rw [ofL_leaves d xs, ofL_leaves d (xs.drop (2 ^ d)), List.length_drop]
    have hp : 2 ^ (d + 1) = 2 ^ d + 2 ^ d := by rw [Nat.pow_succ]; omega
    by_cases h : xs.length ≤ 2 ^ d
    · rw [List.take_of_length_le (l := xs) (i := 2 ^ (d + 1)) (by omega), List.take_of_length_le h, List.drop_eq_nil_of_le h, List.take_nil, List.nil_append, List.append_assoc, List.replicate_append_replicate]
      congr 2
      omega
    · have e0 : 2 ^ d - xs.length = 0 := by omega
      rw [e0, List.replicate_zero, List.append_nil, ← List.append_assoc, hp, List.take_add]
      congr 2
      omega
theorem put_ofL {d off : Nat} {xs ys : List Value} (h : off + ys.length ≤ xs.length) (hd : xs.length ≤ 2 ^ d) : Bt.put (Bt.ofL d xs) (half d) off ys = Bt.ofL d (xs.take off ++ ys ++ xs.drop (off + ys.length)) := by
  have hp := Bt.put_perf (d := d) (lo := off) (xs := ys) (Bt.ofL_perf d xs).1
  refine bt_ext hp.1 (Bt.ofL_perf d _).1 ?_
  rw [hp.2, ofL_leaves, ofL_leaves, List.take_of_length_le hd]
  have hl : (xs.take off ++ ys ++ xs.drop (off + ys.length)).length = xs.length := by simp; omega
  rw [hl, List.take_of_length_le (l := xs.take off ++ ys ++ xs.drop (off + ys.length)) (by omega), List.take_of_length_le (l := ys) (by omega), List.take_append_of_le_length (by omega), List.drop_append_of_le_length (by omega)]
  simp
theorem set_ofL {d off : Nat} {xs : List Value} {v : Value} (h : off < xs.length) (hd : xs.length ≤ 2 ^ d) : Bt.set v (pathM d off) (Bt.ofL d xs) = Bt.ofL d (xs.set off v) := by
  have hp := Bt.set_perf (d := d) (i := off) (v := v) (Bt.ofL_perf d xs).1
  refine bt_ext hp.1 (Bt.ofL_perf d _).1 ?_
  rw [hp.2 (by omega), ofL_leaves, ofL_leaves, List.take_of_length_le hd, List.length_set, List.take_of_length_le (by simpa using hd), List.set_append_left _ _ h]

/-- Values of one cell. -/
def oneV (v : Value) : Bool := match v with | .agg _ => false | .tuple _ => false | _ => true
theorem storeN_one {nm off : Nat} {v : Value} {st : St} {xs : List Value} {es : Nat} {ex : Bool} (ho : st.obj nm = rowOf xs es ex) (h : off < xs.length) (hv : oneV v = true) : storeN .one (ptr nm off) v st = .ok junk (st.setObj nm (rowOf (xs.set off v) es ex)) := by
  show storeK .one nm off v st = _
  unfold storeK
  rw [ho, rowOf_eq, rowOf_eq, List.length_set]
  have hb : Nat.ble (Nat.succ off) xs.length = true := ble_iff.2 h
  have key : bsel (Nat.ble (Nat.succ off) xs.length) (Re.ok junk (st.setObj nm (.cells (dep xs.length) xs.length es ex (Bt.set v (pathM (dep xs.length) off) (Bt.ofL (dep xs.length) xs))))) .no =
      .ok junk (st.setObj nm (.cells (dep xs.length) xs.length es ex (Bt.ofL (dep xs.length) (xs.set off v)))) := by rw [hb, set_ofL h (dep_le _)]; rfl
  cases v <;> first | exact key | cases hv
theorem storeN_agg {nm off k : Nat} {cs : List Value} {st : St} {xs : List Value} {es : Nat} {ex : Bool} (ho : st.obj nm = rowOf xs es ex) (hk : cs.length = k) (h : off + k ≤ xs.length) :
    storeN (.agg k) (ptr nm off) (.agg ⟨cs⟩) st = .ok junk (st.setObj nm (rowOf (xs.take off ++ cs ++ xs.drop (off + k)) es ex)) := by
  subst hk
  show storeK (.agg cs.length) nm off (.agg ⟨cs⟩) st = _
  unfold storeK
  rw [ho, rowOf_eq, rowOf_eq]
  have hl : (xs.take off ++ cs ++ xs.drop (off + cs.length)).length = xs.length := by simp; omega
  rw [hl, ← put_ofL h (dep_le _)]
  show bsel (Nat.beq (lenL cs) cs.length) (bsel (Nat.ble (off + cs.length) xs.length) _ _) _ = _
  rw [lenL_eq, beq_iff.2 rfl, ble_iff.2 h]; rfl
theorem sub_all {xs : List Value} {off n : Nat} (h : off + n ≤ xs.length) : Bt.sub (Bt.ofL (dep xs.length) xs) (half (dep xs.length)) off (off + n) [] = (xs.drop off).take n := by
  rw [Bt.sub_eq (Bt.ofL_perf _ _).1, List.append_nil, ofL_leaves, List.take_of_length_le (dep_le _), show off + n - off = n by omega]
  rw [List.drop_append_of_le_length (by omega), List.take_append_of_le_length (by simp; omega)]
/-- What a list is, where it lies in a row. -/
theorem listA_row {nm off n c k : Nat} {st : St} {xs : List Value} {es : Nat} {ex : Bool} (ho : st.obj nm = rowOf xs es ex) (hn : 0 < n) (h : off + n * k ≤ xs.length) : listA st k (.slice (some ⟨nm, off, none⟩) n c) n = some ((xs.drop off).take (n * k)) := by
  show bsel (Nat.beq n 0) (some []) (cellsK (st.obj nm) none fun d m _ _ tr => bsel (Nat.ble (Nat.add off (Nat.mul n k)) m) (some (Bt.sub tr (half d) off (Nat.add off (Nat.mul n k)) [])) none) = _
  rw [ho, rowOf_eq]
  have hb : Nat.beq n 0 = false := by cases n with | zero => omega | succ n => rfl
  rw [hb]
  show bsel (Nat.ble (off + n * k) xs.length) (some (Bt.sub (Bt.ofL (dep xs.length) xs) (half (dep xs.length)) off (off + n * k) [])) none = _
  rw [ble_iff.2 h, sub_all h]; rfl
theorem listA_fsl {k n m : Nat} {st : St} {cs : List Value} (h : n * k ≤ cs.length) : listA st k (fsl m cs) n = some (cs.take (n * k)) := by
  show bsel (Nat.ble (n * k) (lenL cs)) (some (takeL (n * k) cs)) none = _
  rw [lenL_eq, ble_iff.2 h, takeL_eq]; rfl
/-- A row that is full grows. -/
theorem append_grow {nm n m k : Nat} {st : St} {xs new : List Value} {x : Value} {ex : Bool} (ho : st.obj nm = rowOf xs k ex) (hn : 0 < n) (hx : xs.length = n * k) (hl : lenA x = some m) (hm : 0 < m) (hb : n + m ≤ 1048576) (hL : listA st k x m = some new) :
    appendN (.list k) (.slice (some ⟨nm, 0, none⟩) n n) x st = .ok (.slice (some ⟨st.next, 0, none⟩) (n + m) (n + m)) ((st.setObj nm .dead).push (rowOf (xs ++ new) k false)) := by
  show osel (lenA x) Re.no (fun m => osel (listA st k x m) Re.no fun new => appendK k (some ⟨nm, 0, none⟩) n n (Nat.add n m) new st) = _
  rw [hl, osel_some, hL, osel_some]
  show bsel (Nat.ble (n + m) 1048576) (bsel (Nat.ble (n + m) n) _ (growK k (some ⟨nm, 0, none⟩) n (n + m) new st)) Re.no = _
  have h2 : Nat.ble (n + m) n = false := by
    cases hb : Nat.ble (n + m) n
    · rfl
    · have := ble_iff.1 hb; omega
  rw [ble_iff.2 hb, h2, bsel_true]
  show growK k (some ⟨nm, 0, none⟩) n (n + m) new st = _
  have hz : Nat.beq n 0 = false := by cases n with | zero => omega | succ n => rfl
  have ho1 : oldL st k (some ⟨nm, 0, none⟩) n = some xs := by
    show bsel (Nat.beq n 0) (some []) (cellsK (st.obj nm) none fun d m _ _ tr => bsel (Nat.ble (Nat.add 0 (Nat.mul n k)) m) (some (Bt.sub tr (half d) 0 (Nat.add 0 (Nat.mul n k)) [])) none) = _
    rw [hz, ho, rowOf_eq]
    show bsel (Nat.ble (0 + n * k) xs.length) (some (Bt.sub (Bt.ofL (dep xs.length) xs) (half (dep xs.length)) 0 (0 + n * k) [])) none = _
    rw [ble_iff.2 (by omega), sub_all (by omega), bsel_true, List.drop_zero, ← hx, List.take_length]
  unfold growK
  rw [ho1, osel_some, osel_some]
  show cellsK (st.obj nm) Re.no (fun d _ es ex tr => bsel (Nat.beq es k) (allK (rowOf (xs ++ new) k false) (fun nm => .slice (some ⟨nm, 0, none⟩) (n + m) (n + m)) (st.setObj nm .dead)) .no) = _
  rw [ho, rowOf_eq]
  show bsel (Nat.beq k k) (allK (rowOf (xs ++ new) k false) (fun nm => .slice (some ⟨nm, 0, none⟩) (n + m) (n + m)) (st.setObj nm .dead)) .no = _
  rw [beq_iff.2 rfl, bsel_true, allK_eq, set_next]
/-- The first that is appended to none. -/
theorem append_nil {m k : Nat} {st : St} {new : List Value} {x : Value} (hl : lenA x = some m) (hm : 0 < m) (hb : m ≤ 1048576) (hL : listA st k x m = some new) :
    appendN (.list k) (.slice none 0 0) x st = .ok (.slice (some ⟨st.next, 0, none⟩) m m) (st.push (rowOf new k false)) := by
  show osel (lenA x) Re.no (fun m => osel (listA st k x m) Re.no fun new => appendK k none 0 0 (Nat.add 0 m) new st) = _
  rw [hl, osel_some, hL, osel_some]
  show bsel (Nat.ble (0 + m) 1048576) (bsel (Nat.ble (0 + m) 0) _ (growK k none 0 (0 + m) new st)) Re.no = _
  have h2 : Nat.ble (0 + m) 0 = false := by
    cases hb : Nat.ble (0 + m) 0
    · rfl
    · have := ble_iff.1 hb; omega
  rw [ble_iff.2 (by omega), h2, bsel_true, Nat.zero_add]
  show growK k none 0 m new st = _
  show allK (rowOf ([] ++ new) k false) (fun nm => .slice (some ⟨nm, 0, none⟩) m m) st = _
  rw [allK_eq, List.nil_append]
end
end Go.Proofs.YtolgomkmilbkgaaGreat.Ev

