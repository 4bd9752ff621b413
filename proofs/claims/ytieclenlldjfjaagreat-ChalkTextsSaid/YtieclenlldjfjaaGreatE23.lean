import Derived.Test.YtieclenlldjfjaaGreatE22
set_option autoImplicit false
set_option linter.unusedVariables false
set_option linter.unusedSimpArgs false
namespace Go.Proofs.YtieclenlldjfjaaGreat.Ev
open Go
section
variable {P : Program} {rec : Rec} {σ τ : Nm} {st st' : St} {w : World}

theorem same1_eq {u v : Value} (h : same1 u v = true) : u = v := by
  unfold same1 at h
  split at h
  · simp at h; rw [h]
  · rename_i j a k b
    rw [bsel_eq] at h
    split at h
    · rename_i hk
      rw [kEq_iff.1 hk]
      rw [iEq_eq] at h
      rw [beq_iff_eq.1 h]
    · cases h
  · rename_i a b
    have h : a.data.toList = b.data.toList := by simpa using h
    congr 1
    obtain ⟨⟨a⟩⟩ := a
    obtain ⟨⟨b⟩⟩ := b
    simp only at h
    rw [h]
  · rfl
  · rename_i a b
    obtain ⟨a1, a2, a3⟩ := a
    obtain ⟨b1, b2, b3⟩ := b
    simp only [Bool.and_eq_true, Nat.beq_eq, Option.isNone_iff_eq_none] at h
    obtain ⟨⟨⟨rfl, rfl⟩, rfl⟩, rfl⟩ := h
    rfl
  · rfl
  · rename_i a n m b n' m'
    obtain ⟨a1, a2, a3⟩ := a
    obtain ⟨b1, b2, b3⟩ := b
    simp only [Bool.and_eq_true, Nat.beq_eq, Option.isNone_iff_eq_none] at h
    obtain ⟨⟨⟨⟨⟨rfl, rfl⟩, rfl⟩, rfl⟩, rfl⟩, rfl⟩ := h
    rfl
  · rfl
  · rw [beq_iff.1 h]
  · rfl
  · rfl
  · cases h

theorem sameL_eq : ∀ {as bs : List Value}, sameL as bs = true → as = bs
  | [], [], _ => rfl
  | [], _ :: _, h => by cases h
  | _ :: _, [], h => by cases h
  | a :: as, b :: bs, h => by
    have h : bsel (same1 a b) (sameL as bs) false = true := h
    obtain ⟨h1, h2⟩ := bsel_ne h (by simp)
    rw [same1_eq h1, sameL_eq h2]

theorem sameV_eq {u v : Value} (h : sameV u v = true) : u = v := by
  unfold sameV at h
  split at h
  · rename_i as bs; exact congrArg _ (Array.ext' (sameL_eq h))
  · rename_i as bs; exact congrArg _ (Array.ext' (sameL_eq h))
  · rename_i t v u w
    rw [Bool.and_eq_true] at h
    rw [beq_iff.1 h.1, same1_eq h.2]
  · rename_i f as bs g cs ds
    simp only [Bool.and_eq_true, decide_eq_true_eq] at h
    obtain ⟨⟨rfl, h2⟩, h3⟩ := h
    rw [Array.ext' (sameL_eq h2), Array.ext' (sameL_eq h3)]
  · exact same1_eq h

/-! ## Names below -/
def cut (N : Nat) (τ : Nm) : Nm := fun nm => if nm < N then τ nm else none

theorem cut_some {N nm : Nat} {k : Blk} (h : τ nm = some k) (hn : nm < N) : cut N τ nm = some k := by unfold cut; rw [if_pos hn]; exact h
theorem cut_sub (N : Nat) (τ : Nm) : Sub (cut N τ) τ := fun nm k h => by
  unfold cut at h
  split at h
  · exact h
  · cases h

theorem all_mem {f : Value → Bool} {as : List Value} (h : as.all f = true) {i : Nat} {u : Value} (hu : as[i]? = some u) : f u = true := List.all_eq_true.1 h u (List.mem_of_getElem? hu)

theorem below_vr (hτ : ∀ nm, 65536 ≤ nm → τ nm = none) {N : Nat} : ∀ (d : Nat) {v v' : Value}, belowV d N v = true → VR τ v v' → VR (cut N τ) v v' := by
  intro d
  induction d with
  | zero =>
    intro v v' h hv
    have h : flat v = true := by simpa [belowV] using h
    cases hv with
    | bool b => exact .bool b
    | int k n => exact .int k n
    | string s => exact .string s
    | nilptr => exact .nilptr
    | nilslice => exact .nilslice
    | nilmap => exact .nilmap
    | nilFunc => exact .nilFunc
    | nilIface => exact .nilIface
    | void a c' => exact .void a c'
    | _ => cases h
  | succ d ih =>
    intro v v' h hv
    cases hv with
    | bool b => exact .bool b
    | int k n => exact .int k n
    | string s => exact .string s
    | nilptr => exact .nilptr
    | nilslice => exact .nilslice
    | nilmap => exact .nilmap
    | nilFunc => exact .nilFunc
    | nilIface => exact .nilIface
    | void a c' => exact .void a c'
    | ptr nm off k hk => exact .ptr nm off k (cut_some hk (ble_iff.1 h))
    | slice nm off n c c' k hk h1 h2 h3 =>
      have h : bsel (Nat.beq nm voidNm) true (Nat.ble (Nat.succ nm) N) = true := h
      rw [bsel_eq] at h
      split at h
      · rename_i hb
        have := beq_iff.1 hb
        subst this
        rw [hτ voidNm (by simp [voidNm])] at hk
        cases hk
      · exact .slice nm off n c c' k (cut_some hk (ble_iff.1 h)) h1 h2 h3
    | map nm k hk => exact .map nm k (cut_some hk (ble_iff.1 h))
    | func f as as' bs bs' h1 h2 h3 h4 =>
      have h : bsel (as.all (belowV d N)) (bs.all (belowV d N)) false = true := h
      obtain ⟨g1, g2⟩ := bsel_ne h (by simp)
      exact .func f as as' bs bs' h1 (fun i u v hu hv => ih (all_mem g1 hu) (h2 i u v hu hv)) h3 (fun i u v hu hv => ih (all_mem g2 hu) (h4 i u v hu hv))
    | yield l k hk => exact .yield l k (cut_some hk (ble_iff.1 h))
    | iface t u v hu =>
      have h : belowV d N u = true := h
      exact .iface t u v (ih h hu)
    | agg as as' h0 h1 h2 =>
      have h : as.all (belowV d N) = true := h
      exact .agg as as' h0 h1 (fun i u v hu hv => ih (all_mem h hu) (h2 i u v hu hv))
    | tuple as as' h1 h2 =>
      have h : as.all (belowV d N) = true := h
      exact .tuple as as' h1 (fun i u v hu hv => ih (all_mem h hu) (h2 i u v hu hv))

theorem opsBelow_ok {op : Op} {a : Ac} (h : opsBelow op a st = true) {x : Operand} (hx : x ∈ op.operands.toList) : belowV 6 st.next (evalA a x) = true := by
  obtain ⟨hp, n⟩ := st
  have h : (op.operands.toList.all fun x => belowV 6 n (evalA a x)) = true := h
  exact List.all_eq_true.1 h x hx

theorem nextLe_ok (h : nextLe st st' = true) : st.next ≤ st'.next := by
  obtain ⟨hp, n⟩ := st
  obtain ⟨hp', n'⟩ := st'
  exact ble_iff.1 h

/-- Nothing is alive: what is then related. -/
theorem Rel.nothing {τ : Nm} {w : World} (hτ : ∀ nm, 65536 ≤ nm → τ nm = none) (hb : ∀ nm k, τ nm = some k → k.b < w.heap.size) : Rel τ ⟨heap0, 65536⟩ w := by
  have hd : ∀ nm, ¬ Alive ⟨heap0, 65536⟩ nm := by
    intro nm h
    apply h
    rw [St.obj_mk]
    by_cases hn : nm < 65536
    · unfold objAt
      rw [bsel_eq, if_neg (by rw [ble_iff]; omega)]
      exact heap0_get hn
    · exact objAt_big (by omega)
  exact ⟨fun nm h => absurd h (hd nm), fun nm nm' k k' h => absurd h (hd nm), fun nm h => ⟨hτ nm h, hd nm⟩, hb, Nat.le_refl _⟩

/-! ## The check of a drawn region -/
theorem bit_test (m i : Nat) : bit m i = m.testBit i := by
  have e : bit m i = Nat.beq (Nat.land (Nat.shiftRight m i) 1) 1 := rfl
  rw [e, Nat.testBit]
  have h1 : Nat.land (Nat.shiftRight m i) 1 = 1 &&& (m >>> i) := by rw [Nat.and_comm]; rfl
  rw [h1]
  have h2 : 1 &&& (m >>> i) = (m >>> i) % 2 := by rw [Nat.and_comm]; exact Nat.and_one_is_mod _
  rw [h2]
  rcases Nat.mod_two_eq_zero_or_one (m >>> i) with h | h <;> rw [h] <;> rfl

theorem or_test (a b i : Nat) : (Nat.lor a b).testBit i = (a.testBit i || b.testBit i) := Nat.testBit_or a b i
theorem and_test (a b i : Nat) : (Nat.land a b).testBit i = (a.testBit i && b.testBit i) := Nat.testBit_and a b i
theorem one_test (n i : Nat) : (Nat.shiftLeft 1 n).testBit i = decide (n = i) := by
  show (1 <<< n).testBit i = _
  rw [Nat.one_shiftLeft, Nat.testBit_two_pow]

theorem dstBit_test (d : Option Tmp) (t : Nat) : (dstBit d).testBit t = true ↔ d = some t := by
  cases d with
  | none => simp [dstBit, osel]
  | some u =>
    show (Nat.shiftLeft 1 u).testBit t = true ↔ _
    rw [one_test]; simp

theorem tmpBits_test : ∀ (xs : List Operand) (t : Nat), .tmp t ∈ xs → (tmpBits xs).testBit t = true
  | [], t, h => by simp at h
  | x :: xs, t, h => by
    have e : tmpBits (x :: xs) = Operand.casesOn x (fun t => Nat.lor (tmpBits xs) (Nat.shiftLeft 1 t)) (fun _ => tmpBits xs) (fun _ => tmpBits xs) (fun _ => tmpBits xs) := rfl
    rw [e]
    rcases List.mem_cons.1 h with h1 | h1
    · subst h1
      show (Nat.lor (tmpBits xs) (Nat.shiftLeft 1 t)).testBit t = true
      rw [or_test, one_test]; simp
    · have := tmpBits_test xs t h1
      cases x with
      | tmp u =>
        show (Nat.lor (tmpBits xs) (Nat.shiftLeft 1 u)).testBit t = true
        rw [or_test, this]; rfl
      | _ => exact this

/-- The edges of an operation. -/
theorem nthI_eq : ∀ (xs : List Inf) (i : Nat), nthI xs i = xs[i]?
  | [], i => rfl
  | x :: xs, 0 => rfl
  | x :: xs, i + 1 => nthI_eq xs i

theorem edges_ok : ∀ {es : List Edge} {acc : List Inf} {c m : Nat}, edges acc es = some (c, m) →
    (∀ i, c.testBit i = true ↔ ∃ e, e ∈ es ∧ Region.binds .any e = true ∧ (e.on = i ∨ ∃ x, acc[e.on]? = some x ∧ x.cl.testBit i = true)) ∧
    (∀ t, m.testBit t = true → ∃ e, e ∈ es ∧ Region.binds .any e = true ∧ ∃ x, acc[e.on]? = some x ∧ (x.dst.testBit t = true ∨ x.dm.testBit t = true))
  | [], acc, c, m, h => by
    cases h
    exact ⟨fun i => by simp, fun t ht => by simp at ht⟩
  | e :: es, acc, c, m, h => by
    have h : bsel (Region.binds .any e) (osel (edges acc es) none fun p => osel (nthI acc e.on) none fun x =>
      some (Nat.lor p.1 (Nat.lor (Nat.shiftLeft 1 e.on) x.cl), Nat.lor p.2 (Nat.lor x.dst x.dm))) (edges acc es) = some (c, m) := h
    rw [bsel_eq] at h
    split at h
    · rename_i hb
      obtain ⟨p, hp, h⟩ := osel_ne h (by simp)
      obtain ⟨x, hx, h⟩ := osel_ne h (by simp)
      rw [nthI_eq] at hx
      obtain ⟨c0, m0⟩ := p
      obtain ⟨i1, i2⟩ := edges_ok hp
      cases h
      refine ⟨fun i => ?_, fun t ht => ?_⟩
      · rw [or_test, or_test, one_test, Bool.or_eq_true, Bool.or_eq_true, i1 i]
        constructor
        · rintro (⟨e', h1, h2⟩ | h1 | h1)
          · exact ⟨e', by simp [h1], h2⟩
          · exact ⟨e, by simp, hb, .inl (by simpa using h1)⟩
          · exact ⟨e, by simp, hb, .inr ⟨x, hx, h1⟩⟩
        · rintro ⟨e', h1, h2, h3⟩
          rcases List.mem_cons.1 h1 with rfl | h1
          · rcases h3 with h3 | ⟨y, hy, h3⟩
            · exact .inr (.inl (by simpa using h3))
            · rw [hx] at hy; cases hy; exact .inr (.inr h3)
          · exact .inl ⟨e', h1, h2, h3⟩
      · rw [or_test, or_test, Bool.or_eq_true, Bool.or_eq_true] at ht
        rcases ht with h1 | h1
        · obtain ⟨e', q1, q2⟩ := i2 t h1
          exact ⟨e', by simp [q1], q2⟩
        · exact ⟨e, by simp, hb, x, hx, h1⟩
    · rename_i hb
      obtain ⟨i1, i2⟩ := edges_ok h
      refine ⟨fun i => ?_, fun t ht => ?_⟩
      · rw [i1 i]
        constructor
        · rintro ⟨e', h1, h2⟩; exact ⟨e', by simp [h1], h2⟩
        · rintro ⟨e', h1, h2, h3⟩
          rcases List.mem_cons.1 h1 with rfl | h1
          · exact absurd h2 hb
          · exact ⟨e', h1, h2, h3⟩
      · obtain ⟨e', q1, q2⟩ := i2 t ht
        exact ⟨e', by simp [q1], q2⟩
end
end Go.Proofs.YtieclenlldjfjaaGreat.Ev
