import Derived.Test.YtieclenlldjfjaaGreatE8
set_option autoImplicit false
set_option linter.unusedVariables false
set_option linter.unusedSimpArgs false
namespace Go.Proofs.YtieclenlldjfjaaGreat.Ev
open Go
section
variable {P : Program} {σ : Nm} {st st' : St} {w : World}

/-! ## Keys of maps -/
theorem ba_beq (a c : ByteArray) : (a == c) = decide (a.data.toList = c.data.toList) := by
  have e1 : (a == c) = (a.data == c.data) := rfl
  rw [e1]
  obtain ⟨⟨a⟩⟩ := a
  obtain ⟨⟨c⟩⟩ := c
  rw [Bool.eq_iff_iff]
  simp

def isLit : Value → Bool
  | .bool _ | .int _ _ | .string _ => true
  | _ => false

theorem eq1_true {k : Nat} {x y : Value} (h : eq1 k x y = some true) : x = y ∧ isLit x = true := by
  cases k with
  | zero =>
    obtain ⟨a, b, rfl, rfl, h2⟩ := eq1_bool h
    have : a = b := by simpa using h2.symm
    subst this; exact ⟨rfl, rfl⟩
  | succ k =>
    cases k with
    | zero =>
      obtain ⟨k, a, b, rfl, rfl, h2⟩ := eq1_int h
      have : a = b := by simpa using h2.symm
      subst this; exact ⟨rfl, rfl⟩
    | succ k =>
      obtain ⟨a, b, rfl, rfl, h2⟩ := eq1_string h
      have h3 : a.data.toList = b.data.toList := of_decide_eq_true h2.symm
      have e : a = b := by
        cases a; cases b
        congr 1
        exact Array.ext' h3
      subst e; exact ⟨rfl, rfl⟩

theorem eqCells_true : ∀ {ks : List Nat} {xs ys : List Value}, eqCells ks xs ys = some true → xs = ys ∧ xs.all isLit = true
  | [], [], [], _ => ⟨rfl, rfl⟩
  | [], _ :: _, _, h => by cases h
  | [], [], _ :: _, h => by cases h
  | k :: ks, [], _, h => by cases h
  | k :: ks, _ :: _, [], h => by cases h
  | k :: ks, x :: xs, y :: ys, h => by
    rw [eqCells_cons] at h
    obtain ⟨r, hr, h⟩ := osel_ne h (by simp)
    cases r with
    | false => cases h
    | true =>
      obtain ⟨e1, f1⟩ := eq1_true hr
      obtain ⟨e2, f2⟩ := eqCells_true (h : eqCells ks xs ys = some true)
      exact ⟨by rw [e1, e2], by rw [List.all_cons, f1, f2]; rfl⟩

theorem sameBits_lit {v : Value} (h : isLit v = true) (n : Nat) : Instr.sameBits n v v = true := by
  cases v with
  | bool b => cases n <;> simp [Instr.sameBits]
  | int k m => cases n <;> simp [Instr.sameBits]
  | string s => cases n <;> simp [Instr.sameBits, ba_beq]
  | _ => cases h

theorem sameBits_agg {xs : List Value} (h : xs.all isLit = true) (n : Nat) : Instr.sameBits (n + 1) (.agg ⟨xs⟩) (.agg ⟨xs⟩) = true := by
  simp only [Instr.sameBits, beq_self_eq_true, Bool.true_and, List.all_eq_true]
  intro p hp
  have := List.of_mem_zip hp
  obtain ⟨a, b⟩ := p
  have e : a = b := by
    obtain ⟨i, hi⟩ := List.getElem?_of_mem hp
    rw [List.getElem?_zip_eq_some] at hi
    have := hi.1.symm.trans hi.2
    simpa using this
  subst e
  exact sameBits_lit (List.all_eq_true.1 h a this.1) n

/-- A key of a kind, as its cells. -/
def KeyAs (agg : Bool) (ks : List Nat) (k : Value) (xs : List Value) : Prop := xs.length = ks.length ∧ if agg then k = .agg ⟨xs⟩ else xs = [k]

theorem keyCells_ok {agg : Bool} {ks : List Nat} {k k' : Value} {xs : List Value} (h : keyCells agg ks k = some xs) (hk : VR σ k k') : ∃ xs', VRL σ xs xs' ∧ KeyAs agg ks k' xs' := by
  unfold keyCells at h
  cases agg with
  | true =>
    rw [bsel_true] at h
    split at h
    · rename_i as
      obtain ⟨hb, h⟩ := bsel_ne h (by simp)
      cases h
      cases hk with
      | agg as as' g0 g1 g2 =>
        have hb := beq_iff.1 hb
        rw [lenL_eq, lenL_eq] at hb
        exact ⟨as', ⟨g1, g2⟩, by rw [← g1]; exact hb, rfl⟩
    · cases h
  | false =>
    rw [bsel_false] at h
    split at h
    · cases h
    · cases h
    · obtain ⟨hb, h⟩ := bsel_ne h (by simp)
      cases h
      have hb := beq_iff.1 hb
      rw [lenL_eq] at hb
      exact ⟨[k'], .one hk, by simp [hb], rfl⟩

/-- The kinds of a key type. -/
structure KeyTy (P : Program) (t : TypeId) (ks : List Nat) : Prop where
  flat : flatKs P 20 t = some ks

theorem isAggT_ok {t : TypeId} {ks : List Nat} (h : flatKs P 20 t = some ks) {k : Value} {xs : List Value} (hk : KeyAs (isAggT P t) ks k xs) : k = valOf P t xs := by
  obtain ⟨_, _, h1⟩ := flatKs_ty h
  obtain ⟨_, h2⟩ := hk
  unfold isAggT at h2
  unfold valOf
  rcases h1 with h1 | ⟨h1, _⟩
  · rw [h1] at h2 ⊢
    exact h2
  · rw [h1] at h2 ⊢
    have h2 : xs = [k] := h2
    rw [h2]; rfl

theorem run_checkKey_flat (em : Bool) : ∀ (d : Nat) (t : TypeId) (ks : List Nat), flatKs P d t = some ks → ∀ D, d ≤ D → ∀ (xs : List Value) (w : World), xs.length = ks.length →
    (Instr.checkKey em D t (valOf P t xs)).run P w = .ok () w
  | 0, _, _, h, _, _, _, _, _ => by cases h
  | d + 1, t, ks, h, 0, hD, _, _, _ => by omega
  | d + 1, t, ks, h, D + 1, hD, xs, w, hx => by
    rw [flatKs_succ] at h
    split at h
    · rename_i n hu hn
      rw [Instr.checkKey, Sem.run_bind, run_underlying hu, Result.andThen_ok]
      cases valOf P t xs <;> rfl
    · rename_i k n hu hn
      rw [Instr.checkKey, Sem.run_bind, run_underlying hu, Result.andThen_ok]
      cases valOf P t xs <;> rfl
    · rename_i n hu hn
      rw [Instr.checkKey, Sem.run_bind, run_underlying hu, Result.andThen_ok]
      cases valOf P t xs <;> rfl
    · rename_i fs n hu hn
      cases hst : P.stoodInHeld t with
      | true => rw [hst] at h; cases h
      | false =>
        rw [hst, bsel_false] at h
        obtain ⟨ks', hk, h⟩ := osel_ne h (by simp)
        obtain ⟨hb, h⟩ := bsel_ne h (by simp); cases h
        have h1 : tyOf P t = .agg n := by rw [tyOf_of hu hn]; rfl
        have v1 : valOf P t xs = .agg ⟨xs⟩ := by unfold valOf; rw [h1]
        rw [v1, Instr.checkKey, Sem.run_bind, run_underlying hu, Result.andThen_ok]
        simp only
        rw [← Array.forIn_toList]
        have key : ∀ (L : List Field) (off : Nat) (ks : List Nat), fieldsKs (flatKs P d) L off = some ks → off + ks.length ≤ xs.length →
            (forIn L PUnit.unit fun f (r : PUnit) => (if f.name ≠ "_" then (do Instr.checkKey em D f.type (← part f.type ⟨xs⟩ f.offset); pure (ForInStep.yield PUnit.unit)) else pure (ForInStep.yield PUnit.unit) : Sem (ForInStep PUnit))).run P w = .ok PUnit.unit w := by
          intro L
          induction L with
          | nil => intro off ks _ _; rfl
          | cons f L ih =>
            intro off ks h hl
            rw [fieldsKs_cons] at h
            obtain ⟨hb, h⟩ := bsel_ne h (by simp)
            obtain ⟨k1, hk1, h⟩ := osel_ne h (by simp)
            obtain ⟨k2, hk2, h⟩ := osel_ne h (by simp)
            cases h
            rw [Bool.and_eq_true] at hb
            have hoff := beq_iff.1 hb.2
            have hname : f.name ≠ "_" := by simpa using hb.1
            obtain ⟨t1, t2, t3⟩ := flatKs_ty hk1
            rw [List.length_append] at hl
            have p1 := run_part_val t1 t2 t3 (off := off) (cs := xs) (by omega) w
            have p2 := run_checkKey_flat em d f.type k1 hk1 D (by omega) ((xs.drop off).take k1.length) w (by simp; omega)
            rw [lenL_eq] at hk2
            rw [List.forIn_cons, Sem.run_bind, if_pos hname]
            simp only [Sem.run_bind, hoff, p1, p2, Result.andThen_ok, Sem.run_pure]
            exact ih (off + k1.length) k2 hk2 (by omega)
        have := key fs.toList 0 _ hk (by omega)
        rw [Sem.run_bind, this]
        rfl
    · rename_i m e n hu hn
      obtain ⟨ks', hk, h⟩ := osel_ne h (by simp)
      obtain ⟨hb, h⟩ := bsel_ne h (by simp); cases h
      have h1 : tyOf P t = .agg n := by rw [tyOf_of hu hn]; rfl
      have v1 : valOf P t xs = .agg ⟨xs⟩ := by unfold valOf; rw [h1]
      obtain ⟨t1, t2, t3⟩ := flatKs_ty hk
      rw [timesL_len] at hx
      rw [v1, Instr.checkKey, Sem.run_bind, run_underlying hu, Result.andThen_ok]
      simp only [Std.Legacy.Range.forIn_eq_forIn_range', Std.Legacy.Range.size, Nat.sub_zero, Nat.add_one_sub_one, Nat.div_one]
      have key : ∀ (is : List Nat), (∀ i, i ∈ is → i < m) →
          (forIn is PUnit.unit fun i (r : PUnit) => (do Instr.checkKey em D e (← part e ⟨xs⟩ (i * (← sizeOf e))); pure (ForInStep.yield PUnit.unit) : Sem (ForInStep PUnit))).run P w = .ok PUnit.unit w := by
        intro is
        induction is with
        | nil => intro _; rfl
        | cons j is ih =>
          intro hj
          have hjm : j < m := hj j (by simp)
          have hl : j * ks'.length + ks'.length ≤ xs.length := by
            rw [hx]
            have : (j + 1) * ks'.length ≤ m * ks'.length := Nat.mul_le_mul_right _ hjm
            rw [Nat.add_mul] at this
            omega
          have p1 := run_part_val t1 t2 t3 (off := j * ks'.length) (cs := xs) hl w
          have p2 := run_checkKey_flat em d e ks' hk D (by omega) ((xs.drop (j * ks'.length)).take ks'.length) w (by simp; omega)
          rw [List.forIn_cons, Sem.run_bind]
          simp only [Sem.run_bind, run_sizeOf' t1, p1, p2, Result.andThen_ok, Sem.run_pure]
          exact ih (fun i hi => hj i (by simp [hi]))
      have := key (List.range' 0 m) (fun i hi => by simpa using hi)
      rw [Sem.run_bind, this]
      rfl
    · cases h

theorem run_findNow_nil (kd : TypeDesc) (k : Value) (i : Nat) : Instr.findNow kd k [] i = some none := rfl

/-- Finding a key: abstractly and in the model. -/
theorem findA_ok {kt : TypeId} {ks : List Nat} (hks : flatKs P 20 kt = some ks) {k k' : Value} (hk : VR σ k k') :
    ∀ {es es' : List MapEntry} {i : Nat} {r : Option (Nat × MapEntry)}, findA (isAggT P kt) ks k es i = some r → ERL σ es es' → (∃ xs, keyCells (isAggT P kt) ks k = some xs) →
    (match r with
      | none => (Instr.findAsking kt k' es' i).run P w = .ok none w ∧ (∀ d, P.underlying kt = some d → isAggT P kt = false → Instr.findNow d k' es' i = some none)
      | some (j, en) => ∃ m en', j = i + m ∧ es[m]? = some en ∧ es'[m]? = some en' ∧ en'.key = k' ∧ (Instr.findAsking kt k' es' i).run P w = .ok (some (j, en'.val)) w ∧
          (∀ d, P.underlying kt = some d → isAggT P kt = false → Instr.findNow d k' es' i = some (some (j, en'.val))) ∧ Instr.sameBits 10000 en'.key k' = true)
  | [], es', i, r, h, hes, _ => by
    have : es' = [] := List.eq_nil_of_length_eq_zero (by rw [← hes.1]; rfl)
    subst this
    cases h
    exact ⟨rfl, fun d _ _ => rfl⟩
  | e :: es, es', i, r, h, hes, hkc => by
    cases es' with
    | nil => exact absurd hes.1 (by simp)
    | cons e' es' =>
      have he : ER σ e e' := hes.2 0 e e' rfl rfl
      have hes' : ERL σ es es' := ⟨by have := hes.1; simpa using this, fun i a b ha hb => hes.2 (i + 1) a b (by simpa using ha) (by simpa using hb)⟩
      unfold findA at h
      cases hq : keyEq (isAggT P kt) ks k e.key with
      | none => rw [hq] at h; cases h
      | some b =>
        rw [hq] at h
        unfold keyEq at hq
        obtain ⟨xs, hxs, hq⟩ := osel_ne hq (by simp)
        obtain ⟨ys, hys, hq⟩ := osel_ne hq (by simp)
        obtain ⟨xs', x1, x2⟩ := keyCells_ok hxs hk
        obtain ⟨ys', y1, y2⟩ := keyCells_ok hys he.1
        have hq' := eqCells_rel hq x1 y1
        have e1 := isAggT_ok hks x2
        have e2 := isAggT_ok hks y2
        have heq : (Op.equal kt k' e'.key).run P w = .ok b w := by
          rw [e1, e2]
          exact flat_eq 20 kt ks hks 10000 (by omega) xs' ys' b w x2.1 y2.1 hq'
        have hnow : ∀ d, P.underlying kt = some d → isAggT P kt = false → Instr.sameNow d k' e'.key = some b := by
          intro d hd hag
          rw [hag] at x2 y2
          have a1 : xs' = [k'] := x2.2
          have a2 : ys' = [e'.key] := y2.2
          have l1 : ks.length = 1 := by rw [← x2.1, a1]; rfl
          obtain ⟨kk, hkk⟩ := List.length_eq_one_iff.1 l1
          rw [a1, a2, hkk, eqCells_cons] at hq'
          obtain ⟨rr, hrr, hq'⟩ := osel_ne hq' (by simp)
          have hb : rr = b := by
            cases rr with
            | true => exact Option.some.inj (hq' : some true = some b)
            | false => exact Option.some.inj (hq' : some false = some b)
          subst hb
          have hty := hks
          rw [flatKs_succ, hd] at hty
          split at hty
          · rename_i hdd _
            cases hdd
            obtain ⟨_, hty⟩ := bsel_ne hty (by simp)
            rw [hkk] at hty; cases hty
            obtain ⟨a, c, h1, h2, h3⟩ := eq1_bool hrr
            rw [h1, h2, h3]; rfl
          · rename_i q n hdd _
            cases hdd
            obtain ⟨_, hty⟩ := bsel_ne hty (by simp)
            rw [hkk] at hty; cases hty
            obtain ⟨q', a, c, h1, h2, h3⟩ := eq1_int hrr
            rw [h1, h2, h3]; simp [Instr.sameNow]
          · rename_i n hdd _
            cases hdd
            obtain ⟨_, hty⟩ := bsel_ne hty (by simp)
            rw [hkk] at hty; cases hty
            obtain ⟨a, c, h1, h2, h3⟩ := eq1_string hrr
            rw [h1, h2, h3, ← ba_beq]; rfl
          · rename_i fs n hdd hn
            cases hdd
            have : tyOf P kt = .agg n := by rw [tyOf_of hd hn]; rfl
            unfold isAggT at hag
            rw [this] at hag
            cases hag
          · rename_i m el n hdd hn
            cases hdd
            have : tyOf P kt = .agg n := by rw [tyOf_of hd hn]; rfl
            unfold isAggT at hag
            rw [this] at hag
            cases hag
          · cases hty
        cases b with
        | true =>
          cases h
          obtain ⟨f1, f2⟩ := eqCells_true hq'
          have hkey : e'.key = k' := by rw [e1, e2, f1]
          have hbits : Instr.sameBits 10000 k' k' = true := by
            obtain ⟨l1, l2⟩ := x2
            cases hag : isAggT P kt with
            | true =>
              rw [hag] at l2
              have l2 : k' = .agg ⟨xs'⟩ := l2
              rw [l2]
              exact sameBits_agg f2 9999
            | false =>
              rw [hag] at l2
              have l2 : xs' = [k'] := l2
              rw [l2] at f2
              exact sameBits_lit (by simpa using f2) 10000
          refine ⟨0, e', rfl, rfl, rfl, hkey, ?_, fun d hd hag => ?_, by rw [hkey]; exact hbits⟩
          · rw [Instr.findAsking, Sem.run_bind, heq]
            rfl
          · rw [Instr.findNow, hnow d hd hag]
        | false =>
          have ih := findA_ok hks hk (es := es) (es' := es') (i := i + 1) (r := r) h hes' hkc
          cases r with
          | none =>
            obtain ⟨i1, i2⟩ := ih
            refine ⟨?_, fun d hd hag => ?_⟩
            · rw [Instr.findAsking, Sem.run_bind, heq]
              exact i1
            · rw [Instr.findNow, hnow d hd hag]
              exact i2 d hd hag
          | some p =>
            obtain ⟨j, en⟩ := p
            obtain ⟨m, en', j1, j2, j3, j4, j5, j6, j7⟩ := ih
            refine ⟨m + 1, en', by omega, by simpa using j2, by simpa using j3, j4, ?_, fun d hd hag => ?_, j7⟩
            · rw [Instr.findAsking, Sem.run_bind, heq]
              exact j5
            · rw [Instr.findNow, hnow d hd hag]
              exact j6 d hd hag

theorem run_findKey {kt : TypeId} {ks : List Nat} (hks : flatKs P 20 kt = some ks) {k k' : Value} (hk : VR σ k k') {es es' : List MapEntry} {r : Option (Nat × MapEntry)}
    (h : findA (isAggT P kt) ks k es 0 = some r) (hes : ERL σ es es') (hkc : ∃ xs, keyCells (isAggT P kt) ks k = some xs) :
    (match r with
      | none => (Instr.findKey kt k' es').run P w = .ok none w
      | some (j, en) => ∃ en', es[j]? = some en ∧ es'[j]? = some en' ∧ en'.key = k' ∧ (Instr.findKey kt k' es').run P w = .ok (some (j, en'.val)) w ∧ Instr.sameBits 10000 en'.key k' = true) := by
  have hf := findA_ok (w := w) hks hk h hes hkc
  obtain ⟨_, ⟨d, hu⟩, hty⟩ := flatKs_ty hks
  have hag : isAggT P kt = true → ∀ e es'', es' = e :: es'' → Instr.findNow d k' es' 0 = none := by
    intro hag e es'' he
    have hd : (∃ fs, d = .struct fs) ∨ ∃ m el, d = .array m el := by
      unfold isAggT at hag
      rcases hty with h1 | ⟨h1, _⟩
      · obtain ⟨t1, _⟩ := flatKs_ty hks
        rw [tyOf_of hu t1] at h1
        unfold tyBy at h1
        split at h1
        · exact .inl ⟨_, rfl⟩
        · exact .inr ⟨_, _, rfl⟩
        · cases hb : Nat.beq ks.length 1 <;> rw [hb] at h1 <;> cases h1
      · rw [h1] at hag; cases hag
    rw [he]
    rcases hd with ⟨fs, rfl⟩ | ⟨m, el, rfl⟩
    · unfold Instr.findNow Instr.sameNow; rfl
    · unfold Instr.findNow Instr.sameNow; rfl
  have hrun : ∀ q, ((Instr.findAsking kt k' es' 0).run P w = .ok q w) → (isAggT P kt = false → Instr.findNow d k' es' 0 = some q) → (es' = [] → q = none) → (Instr.findKey kt k' es').run P w = .ok q w := by
    intro q h1 h2 h3
    unfold Instr.findKey
    rw [Sem.run_bind, run_underlying hu, Result.andThen_ok]
    cases hb : isAggT P kt with
    | false => rw [h2 hb]; rfl
    | true =>
      cases he : es' with
      | nil => rw [h3 he]; rfl
      | cons e es'' =>
        have := hag hb e es'' he
        rw [he] at this
        rw [this]
        rw [he] at h1
        exact h1
  cases r with
  | none =>
    obtain ⟨i1, i2⟩ := hf
    exact hrun none i1 (fun hb => i2 d hu hb) (fun _ => rfl)
  | some p =>
    obtain ⟨j, en⟩ := p
    obtain ⟨m, en', j1, j2, j3, j4, j5, j6, j7⟩ := hf
    have : j = m := by omega
    subst this
    refine ⟨en', j2, j3, j4, hrun _ j5 (fun hb => j6 d hu hb) (fun he => ?_), j7⟩
    rw [he] at j3
    simp at j3

theorem findA_cells {agg : Bool} {ks : List Nat} {k : Value} {es : List MapEntry} {i : Nat} {r : Option (Nat × MapEntry)} (h : findA agg ks k es i = some r) (hne : es ≠ []) : ∃ xs, keyCells agg ks k = some xs := by
  cases es with
  | nil => exact absurd rfl hne
  | cons e es =>
    unfold findA at h
    cases hq : keyEq agg ks k e.key with
    | none => rw [hq] at h; cases h
    | some b =>
      unfold keyEq at hq
      obtain ⟨xs, hxs, _⟩ := osel_ne hq (by simp)
      exact ⟨xs, hxs⟩
end
end Go.Proofs.YtieclenlldjfjaaGreat.Ev
