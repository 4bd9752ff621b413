import Derived.Test.YtieclenlldjfjaaGreatE6
import Derived.Laws.StructEq
import Derived.ChangeKeysEq
set_option autoImplicit false
set_option linter.unusedVariables false
set_option linter.unusedSimpArgs false
namespace Go.Proofs.YtieclenlldjfjaaGreat.Ev
open Go

/-! ## Cells, compared -/
theorem eqCells_nil : eqCells [] [] [] = some true := rfl
theorem eqCells_cons (k : Nat) (ks : List Nat) (x y : Value) (xs ys : List Value) : eqCells (k :: ks) (x :: xs) (y :: ys) = osel (eq1 k x y) none fun r => bsel r (eqCells ks xs ys) (some false) := rfl

theorem eqCells_append : ∀ (ks ks' : List Nat) (xs ys xs' ys' : List Value), xs.length = ks.length → ys.length = ks.length →
    eqCells (ks ++ ks') (xs ++ xs') (ys ++ ys') = osel (eqCells ks xs ys) none fun r => bsel r (eqCells ks' xs' ys') (some false)
  | [], ks', xs, ys, xs', ys', hx, hy => by
    have h1 : xs = [] := List.eq_nil_of_length_eq_zero hx
    have h2 : ys = [] := List.eq_nil_of_length_eq_zero hy
    subst h1; subst h2
    rfl
  | k :: ks, ks', [], ys, xs', ys', hx, hy => by simp at hx
  | k :: ks, ks', x :: xs, [], xs', ys', hx, hy => by simp at hy
  | k :: ks, ks', x :: xs, y :: ys, xs', ys', hx, hy => by
    simp only [List.cons_append, eqCells_cons]
    rw [eqCells_append ks ks' xs ys xs' ys' (by simpa using hx) (by simpa using hy)]
    cases eq1 k x y with
    | none => rfl
    | some r => cases r <;> rfl

theorem eq1_bool {x y : Value} {r : Bool} (h : eq1 0 x y = some r) : ∃ a b, x = .bool a ∧ y = .bool b ∧ r = (a == b) := by
  have h : eqB x y = some r := h
  unfold eqB at h
  split at h
  · cases h; exact ⟨_, _, rfl, rfl, rfl⟩
  · cases h
theorem eq1_int {x y : Value} {r : Bool} (h : eq1 1 x y = some r) : ∃ k a b, x = .int k a ∧ y = .int k b ∧ r = (a == b) := by
  have h : eqI x y = some r := h
  unfold eqI at h
  split at h
  · obtain ⟨hb, h2⟩ := bsel_ne h (by simp)
    have h3 := Option.some.inj h2
    have := kEq_iff.1 hb
    subst this
    exact ⟨_, _, _, rfl, rfl, by rw [← h3, iEq_eq]⟩
  · cases h
theorem eq1_string {k : Nat} {x y : Value} {r : Bool} (h : eq1 (k + 2) x y = some r) : ∃ a b, x = .string a ∧ y = .string b ∧ r = decide (a.data.toList = b.data.toList) := by
  have h : eqS x y = some r := h
  unfold eqS at h
  split at h
  · cases h; exact ⟨_, _, rfl, rfl, rfl⟩
  · cases h

theorem eq1_same {σ : Nm} {k : Nat} {x y x' y' : Value} {r : Bool} (h : eq1 k x y = some r) (hx : VR σ x x') (hy : VR σ y y') : x' = x ∧ y' = y := by
  cases k with
  | zero => obtain ⟨a, b, rfl, rfl, _⟩ := eq1_bool h; exact ⟨bool_inv hx, bool_inv hy⟩
  | succ k =>
    cases k with
    | zero => obtain ⟨k, a, b, rfl, rfl, _⟩ := eq1_int h; exact ⟨int_inv hx, int_inv hy⟩
    | succ k => obtain ⟨a, b, rfl, rfl, _⟩ := eq1_string h; exact ⟨string_inv hx, string_inv hy⟩

theorem eqCells_rel {σ : Nm} : ∀ {ks : List Nat} {xs ys xs' ys' : List Value} {b : Bool}, eqCells ks xs ys = some b → VRL σ xs xs' → VRL σ ys ys' → eqCells ks xs' ys' = some b
  | [], [], [], xs', ys', b, h, hx, hy => by rw [hx.nil_inv, hy.nil_inv]; exact h
  | [], _ :: _, _, _, _, _, h, _, _ => by cases h
  | [], [], _ :: _, _, _, _, h, _, _ => by cases h
  | k :: ks, [], _, _, _, _, h, _, _ => by cases h
  | k :: ks, _ :: _, [], _, _, _, h, _, _ => by cases h
  | k :: ks, x :: xs, y :: ys, xs', ys', b, h, hx, hy => by
    obtain ⟨x', xs'', rfl, h1, h2⟩ := hx.cons_inv
    obtain ⟨y', ys'', rfl, h3, h4⟩ := hy.cons_inv
    rw [eqCells_cons] at h ⊢
    obtain ⟨r, hr, h⟩ := osel_ne h (by simp)
    obtain ⟨e1, e2⟩ := eq1_same hr h1 h3
    rw [e1, e2, hr, osel_some]
    cases r with
    | true => exact eqCells_rel h h2 h4
    | false => exact h

/-! ## Types whose values are compared so -/
section
variable {P : Program}

/-- The value of so many cells at a type. -/
noncomputable def valOf (P : Program) (t : TypeId) (xs : List Value) : Value := Ty.rec (xs.headD junk) (fun _ => .agg ⟨xs⟩) (xs.headD junk) (tyOf P t)

theorem run_part_val {t : TypeId} {k off : Nat} {cs : List Value} (hk : tySize P t = some k) (hu : ∃ d, P.underlying t = some d) (h1 : tyOf P t = .agg k ∨ (tyOf P t = .one ∧ k = 1)) (hl : off + k ≤ cs.length) (w : World) :
    (part t ⟨cs⟩ off).run P w = .ok (valOf P t ((cs.drop off).take k)) w := by
  unfold part valOf
  rcases h1 with h1 | ⟨h1, rfl⟩
  · obtain ⟨ha, hs⟩ := tyOf_agg h1
    simp only [Sem.run_bind, ha, hs, Result.andThen_ok, if_true, h1]
    have : (⟨cs⟩ : Array Value).extract off (off + k) = ⟨(cs.drop off).take k⟩ := by
      apply Array.ext'
      simp [Array.toList_extract]
    simp [this]
  · obtain ⟨ha, hs⟩ := tyOf_one h1
    simp only [Sem.run_bind, ha, Result.andThen_ok, h1]
    have hlt : off < cs.length := by omega
    have e : (cs.drop off).take 1 = [cs[off]] := by
      rw [List.drop_eq_getElem_cons hlt]; rfl
    rw [e]
    simp [hlt]

/-- What flatKs says of a type. -/
theorem flatKs_succ (d : Nat) (t : TypeId) : flatKs P (d + 1) t = (
    match P.underlying t, tySize P t with
    | some .bool, some n => bsel (Nat.beq n 1) (some [0]) none
    | some (.int _), some n => bsel (Nat.beq n 1) (some [1]) none
    | some .string, some n => bsel (Nat.beq n 1) (some [2]) none
    | some (.struct fs), some n => bsel (P.stoodInHeld t) none (osel (fieldsKs (flatKs P d) fs.toList 0) none fun ks => bsel (Nat.beq (lenL ks) n) (some ks) none)
    | some (.array m e), some n => osel (flatKs P d e) none fun ks => bsel (Nat.beq (m * lenL ks) n) (some (timesL ks m)) none
    | _, _ => none) := rfl

theorem timesL_len (ks : List Nat) : ∀ m, (timesL ks m).length = m * ks.length
  | 0 => by simp; rfl
  | m + 1 => by
    show (ks ++ timesL ks m).length = _
    rw [List.length_append, timesL_len ks m, Nat.succ_mul]; omega

noncomputable def tyBy (d : TypeDesc) (n : Nat) : Ty := match d with | .struct _ | .array _ _ => .agg n | _ => bsel (Nat.beq n 1) .one .no

theorem tyOf_of {t : TypeId} {d : TypeDesc} {n : Nat} (hu : P.underlying t = some d) (hn : tySize P t = some n) : tyOf P t = tyBy d n := by
  obtain ⟨i, hi, hs⟩ := tySize_some hn
  unfold tyOf
  rw [hu, hi, ← hs]
  cases d <;> rfl

theorem flatKs_ty : ∀ {d : Nat} {t : TypeId} {ks : List Nat}, flatKs P d t = some ks → tySize P t = some ks.length ∧ (∃ d, P.underlying t = some d) ∧ (tyOf P t = .agg ks.length ∨ (tyOf P t = .one ∧ ks.length = 1)) := by
  intro d t ks h
  cases d with
  | zero => cases h
  | succ d =>
    rw [flatKs_succ] at h
    split at h
    · rename_i n hu hn
      obtain ⟨hb, h⟩ := bsel_ne h (by simp); cases h
      have : n = 1 := beq_iff.1 hb
      subst this
      exact ⟨hn, ⟨_, hu⟩, .inr ⟨by rw [tyOf_of hu hn]; rfl, rfl⟩⟩
    · rename_i k n hu hn
      obtain ⟨hb, h⟩ := bsel_ne h (by simp); cases h
      have : n = 1 := beq_iff.1 hb
      subst this
      exact ⟨hn, ⟨_, hu⟩, .inr ⟨by rw [tyOf_of hu hn]; rfl, rfl⟩⟩
    · rename_i n hu hn
      obtain ⟨hb, h⟩ := bsel_ne h (by simp); cases h
      have : n = 1 := beq_iff.1 hb
      subst this
      exact ⟨hn, ⟨_, hu⟩, .inr ⟨by rw [tyOf_of hu hn]; rfl, rfl⟩⟩
    · rename_i fs n hu hn
      cases hst : P.stoodInHeld t with
      | true => rw [hst] at h; cases h
      | false =>
        rw [hst, bsel_false] at h
        obtain ⟨ks', hk, h⟩ := osel_ne h (by simp)
        obtain ⟨hb, h⟩ := bsel_ne h (by simp); cases h
        have hb := beq_iff.1 hb
        rw [lenL_eq] at hb
        subst hb
        exact ⟨hn, ⟨_, hu⟩, .inl (by rw [tyOf_of hu hn]; rfl)⟩
    · rename_i m e n hu hn
      obtain ⟨ks', hk, h⟩ := osel_ne h (by simp)
      obtain ⟨hb, h⟩ := bsel_ne h (by simp); cases h
      have hb := beq_iff.1 hb
      rw [lenL_eq] at hb
      rw [timesL_len, hb]
      exact ⟨hn, ⟨_, hu⟩, .inl (by rw [tyOf_of hu hn]; rfl)⟩
    · cases h

def EqOk (P : Program) (D : Nat) (t : TypeId) (ks : List Nat) : Prop :=
  ∀ (xs ys : List Value) (b : Bool) (w : World), xs.length = ks.length → ys.length = ks.length → eqCells ks xs ys = some b → (Op.equalIn D t (valOf P t xs) (valOf P t ys)).run P w = .ok b w

theorem fieldsKs_cons (g : TypeId → Option (List Nat)) (f : Field) (fs : List Field) (off : Nat) :
    fieldsKs g (f :: fs) off = bsel (f.name != "_" && Nat.beq f.offset off) (osel (g f.type) none fun ks => osel (fieldsKs g fs (off + lenL ks)) none fun rest => some (ks ++ rest)) none := rfl

theorem eqFields_ok {d D : Nat} (IH : ∀ t ks, flatKs P d t = some ks → EqOk P D t ks) : ∀ (fs : List Field) (off : Nat) (ks : List Nat), fieldsKs (flatKs P d) fs off = some ks →
    ∀ (xs ys : List Value) (b : Bool) (w : World), xs.length = off + ks.length → ys.length = off + ks.length → eqCells ks (xs.drop off) (ys.drop off) = some b → (Op.eqFields D ⟨xs⟩ ⟨ys⟩ fs).run P w = .ok b w
  | [], off, ks, h, xs, ys, b, w, hx, hy, he => by
    cases h
    have h1 : xs.drop off = [] := List.drop_eq_nil_of_le (by simp at hx; omega)
    have h2 : ys.drop off = [] := List.drop_eq_nil_of_le (by simp at hy; omega)
    rw [h1, h2] at he
    cases he
    rfl
  | f :: fs, off, ks, h, xs, ys, b, w, hx, hy, he => by
    rw [fieldsKs_cons] at h
    obtain ⟨hb, h⟩ := bsel_ne h (by simp)
    obtain ⟨k1, hk1, h⟩ := osel_ne h (by simp)
    obtain ⟨k2, hk2, h⟩ := osel_ne h (by simp)
    cases h
    rw [Bool.and_eq_true] at hb
    have hoff := beq_iff.1 hb.2
    have hname : f.name ≠ "_" := by simpa using hb.1
    obtain ⟨t1, t2, t3⟩ := flatKs_ty hk1
    rw [List.length_append] at hx hy
    have e1 : xs.drop off = (xs.drop off).take k1.length ++ xs.drop (off + k1.length) := by
      rw [← List.drop_drop, List.take_append_drop]
    have e2 : ys.drop off = (ys.drop off).take k1.length ++ ys.drop (off + k1.length) := by
      rw [← List.drop_drop, List.take_append_drop]
    rw [e1, e2, eqCells_append _ _ _ _ _ _ (by simp; omega) (by simp; omega)] at he
    obtain ⟨r, hr, he⟩ := osel_ne he (by simp)
    have p1 := run_part_val t1 t2 t3 (off := off) (cs := xs) (by omega) w
    have p2 := run_part_val t1 t2 t3 (off := off) (cs := ys) (by omega) w
    have p3 := IH f.type k1 hk1 _ _ r w (by simp; omega) (by simp; omega) hr
    rw [lenL_eq] at hk2
    simp only [Op.eqFields, hname, ne_eq, not_false_eq_true, if_true, Sem.run_bind, hoff, p1, p2, p3, Result.andThen_ok]
    cases r with
    | false => cases he; rfl
    | true =>
      simp only [Bool.not_true, Bool.false_eq_true, if_false]
      exact eqFields_ok IH fs (off + k1.length) k2 hk2 xs ys b w (by omega) (by omega) he

theorem eqItems_ok {D : Nat} {e : TypeId} {ks : List Nat} (ht : tySize P e = some ks.length ∧ (∃ d, P.underlying e = some d) ∧ (tyOf P e = .agg ks.length ∨ (tyOf P e = .one ∧ ks.length = 1))) (IH : EqOk P D e ks) :
    ∀ (m j : Nat) (xs ys : List Value) (b : Bool) (w : World), xs.length = (j + m) * ks.length → ys.length = (j + m) * ks.length → eqCells (timesL ks m) (xs.drop (j * ks.length)) (ys.drop (j * ks.length)) = some b →
    (Op.eqItems D e ks.length ⟨xs⟩ ⟨ys⟩ (List.range' j m)).run P w = .ok b w
  | 0, j, xs, ys, b, w, hx, hy, he => by
    have h1 : xs.drop (j * ks.length) = [] := List.drop_eq_nil_of_le (by rw [hx]; simp)
    have h2 : ys.drop (j * ks.length) = [] := List.drop_eq_nil_of_le (by rw [hy]; simp)
    rw [h1, h2] at he
    cases he
    rfl
  | m + 1, j, xs, ys, b, w, hx, hy, he => by
    have hsum : (j + (m + 1)) * ks.length = j * ks.length + (ks.length + m * ks.length) := by
      rw [Nat.add_mul, Nat.add_mul]; omega
    have e0 : (j + 1) * ks.length = j * ks.length + ks.length := by rw [Nat.add_mul]; omega
    have e1 : xs.drop (j * ks.length) = (xs.drop (j * ks.length)).take ks.length ++ xs.drop ((j + 1) * ks.length) := by
      rw [e0, ← List.drop_drop, List.take_append_drop]
    have e2 : ys.drop (j * ks.length) = (ys.drop (j * ks.length)).take ks.length ++ ys.drop ((j + 1) * ks.length) := by
      rw [e0, ← List.drop_drop, List.take_append_drop]
    have e3 : timesL ks (m + 1) = ks ++ timesL ks m := rfl
    rw [e1, e2, e3, eqCells_append _ _ _ _ _ _ (by simp; omega) (by simp; omega)] at he
    obtain ⟨r, hr, he⟩ := osel_ne he (by simp)
    have p1 := run_part_val ht.1 ht.2.1 ht.2.2 (off := j * ks.length) (cs := xs) (by omega) w
    have p2 := run_part_val ht.1 ht.2.1 ht.2.2 (off := j * ks.length) (cs := ys) (by omega) w
    have p3 := IH _ _ r w (by simp; omega) (by simp; omega) hr
    rw [List.range'_succ]
    simp only [Op.eqItems, Sem.run_bind, p1, p2, p3, Result.andThen_ok]
    cases r with
    | false => cases he; rfl
    | true =>
      simp only [Bool.not_true, Bool.false_eq_true, if_false]
      exact eqItems_ok ht IH m (j + 1) xs ys b w (by rw [hx]; congr 1; omega) (by rw [hy]; congr 1; omega) he

theorem flat_eq : ∀ (d : Nat) (t : TypeId) (ks : List Nat), flatKs P d t = some ks → ∀ D, d ≤ D → EqOk P D t ks
  | 0, _, _, h, _, _ => by cases h
  | d + 1, t, ks, h, 0, hD => by omega
  | d + 1, t, ks, h, D + 1, hD => by
    intro xs ys b w hx hy he
    have hty := flatKs_ty h
    rw [flatKs_succ] at h
    have scal : tyOf P t = .one → ∀ x y, xs = [x] → ys = [y] → valOf P t xs = x ∧ valOf P t ys = y := by
      intro h1 x y e1 e2; subst e1; subst e2; unfold valOf; rw [h1]; exact ⟨rfl, rfl⟩
    have one : ks.length = 1 → ∃ x y, xs = [x] ∧ ys = [y] := by
      intro h1
      rw [h1] at hx hy
      obtain ⟨x, rfl⟩ := List.length_eq_one_iff.1 hx
      obtain ⟨y, rfl⟩ := List.length_eq_one_iff.1 hy
      exact ⟨x, y, rfl, rfl⟩
    split at h
    · rename_i n hu hn
      obtain ⟨hb, h⟩ := bsel_ne h (by simp); cases h
      obtain ⟨x, y, rfl, rfl⟩ := one rfl
      have h1 : tyOf P t = .one := by rw [tyOf_of hu hn]; unfold tyBy; rw [hb]; rfl
      obtain ⟨v1, v2⟩ := scal h1 x y rfl rfl
      rw [v1, v2]
      rw [eqCells_cons] at he
      obtain ⟨r, hr, he⟩ := osel_ne he (by simp)
      obtain ⟨a, c, rfl, rfl, rfl⟩ := eq1_bool hr
      rw [run_equalIn_bool w D t a c hu]
      cases hh : (a == c) <;> rw [hh] at he <;> cases he <;> rfl
    · rename_i k n hu hn
      obtain ⟨hb, h⟩ := bsel_ne h (by simp); cases h
      obtain ⟨x, y, rfl, rfl⟩ := one rfl
      have h1 : tyOf P t = .one := by rw [tyOf_of hu hn]; unfold tyBy; rw [hb]; rfl
      obtain ⟨v1, v2⟩ := scal h1 x y rfl rfl
      rw [v1, v2]
      rw [eqCells_cons] at he
      obtain ⟨r, hr, he⟩ := osel_ne he (by simp)
      obtain ⟨kk, a, c, rfl, rfl, rfl⟩ := eq1_int hr
      rw [run_equalIn_int w D t kk k a c hu]
      cases hh : (a == c) <;> rw [hh] at he <;> cases he <;> rfl
    · rename_i n hu hn
      obtain ⟨hb, h⟩ := bsel_ne h (by simp); cases h
      obtain ⟨x, y, rfl, rfl⟩ := one rfl
      have h1 : tyOf P t = .one := by rw [tyOf_of hu hn]; unfold tyBy; rw [hb]; rfl
      obtain ⟨v1, v2⟩ := scal h1 x y rfl rfl
      rw [v1, v2]
      rw [eqCells_cons] at he
      obtain ⟨r, hr, he⟩ := osel_ne he (by simp)
      obtain ⟨a, c, rfl, rfl, rfl⟩ := eq1_string hr
      have hs : (Op.equalIn (D + 1) t (.string a) (.string c)).run P w = .ok (a == c) w := by
        simp [Op.equalIn, run_underlying hu]
      rw [hs]
      have e : (a == c) = decide (a.data.toList = c.data.toList) := by
        have e1 : (a == c) = (a.data == c.data) := rfl
        rw [e1]
        obtain ⟨⟨a⟩⟩ := a
        obtain ⟨⟨c⟩⟩ := c
        rw [Bool.eq_iff_iff]
        simp
      rw [e]
      cases hh : decide (a.data.toList = c.data.toList) <;> rw [hh] at he <;> cases he <;> rfl
    · rename_i fs n hu hn
      cases hst : P.stoodInHeld t with
      | true => rw [hst] at h; cases h
      | false =>
        rw [hst, bsel_false] at h
        obtain ⟨ks', hk, h⟩ := osel_ne h (by simp)
        obtain ⟨hb, h⟩ := bsel_ne h (by simp); cases h
        have h1 : tyOf P t = .agg n := by rw [tyOf_of hu hn]; rfl
        have hf : P.fieldsOf t = fs := by simp [Program.fieldsOf, hu]
        have v1 : valOf P t xs = .agg ⟨xs⟩ := by unfold valOf; rw [h1]
        have v2 : valOf P t ys = .agg ⟨ys⟩ := by unfold valOf; rw [h1]
        rw [v1, v2, run_equalIn_struct w D t ⟨xs⟩ ⟨ys⟩ (by rw [hf]; exact hu) hst, hf]
        exact eqFields_ok (fun t ks h => flat_eq d t ks h D (by omega)) fs.toList 0 ks hk xs ys b w (by simpa using hx) (by simpa using hy) (by simpa using he)
    · rename_i m e n hu hn
      obtain ⟨ks', hk, h⟩ := osel_ne h (by simp)
      obtain ⟨hb, h⟩ := bsel_ne h (by simp); cases h
      have h1 : tyOf P t = .agg n := by rw [tyOf_of hu hn]; rfl
      have v1 : valOf P t xs = .agg ⟨xs⟩ := by unfold valOf; rw [h1]
      have v2 : valOf P t ys = .agg ⟨ys⟩ := by unfold valOf; rw [h1]
      have hte := flatKs_ty hk
      obtain ⟨i, hi, his⟩ := tySize_some hte.1
      have hc : P.cellsOf e = ks'.length := by simp [Program.cellsOf, hi, his]
      rw [v1, v2, run_equalIn_array w D ⟨xs⟩ ⟨ys⟩ hu hi, hc, List.range_eq_range']
      rw [timesL_len] at hx hy
      exact eqItems_ok hte (flat_eq d e ks' hk D (by omega)) m 0 xs ys b w (by simpa using hx) (by simpa using hy) (by simpa using he)
    · cases h
end
end Go.Proofs.YtieclenlldjfjaaGreat.Ev
