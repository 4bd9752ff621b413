import Derived.Test.YtieclenlldjfjaaGreatE7
set_option autoImplicit false
set_option linter.unusedVariables false
set_option linter.unusedSimpArgs false
namespace Go.Proofs.YtieclenlldjfjaaGreat.Ev
open Go
section
variable {P : Program} {σ : Nm} {st st' : St} {w : World}

def EkOk (P : Program) (t : TypeId) : Ek → Prop
  | .no => True
  | .bool => P.underlying t = some .bool
  | .ptr => ∃ e k, P.underlying t = some (.pointer e) ∧ tySize P e = some (k + 1)
  | .slice => ∃ e, P.underlying t = some (.slice e)
  | .map => ∃ k e, P.underlying t = some (.map k e)
  | .func => ∃ a b c, P.underlying t = some (.func a b c)
  | .iface => ∃ m, P.underlying t = some (.interface m)
  | .agg ks => P.eqGuardType P.depth t = false ∧ flatKs P 20 t = some ks ∧ ∃ n, tyOf P t = .agg n

theorem ekOf_ok (P : Program) (t : TypeId) : EkOk P t (ekOf P t) := by
  have agg : ∀ n, tyOf P t = .agg n ∨ tyOf P t = .no → EkOk P t (bsel (P.eqGuardType P.depth t) .no (osel (flatKs P 20 t) .no fun ks => .agg ks)) := by
    intro n hn
    cases hg : P.eqGuardType P.depth t with
    | true => trivial
    | false =>
      rw [bsel_false]
      cases hk : flatKs P 20 t with
      | none => trivial
      | some ks =>
        refine ⟨hg, hk, n, ?_⟩
        rcases hn with h | h
        · exact h
        · obtain ⟨_, _, h1⟩ := flatKs_ty hk
          rcases h1 with h1 | ⟨h1, _⟩ <;> rw [h] at h1 <;> cases h1
  unfold ekOf
  split
  · assumption
  · split
    · exact ⟨_, _, by assumption, by assumption⟩
    · trivial
  · exact ⟨_, by assumption⟩
  · exact ⟨_, _, by assumption⟩
  · exact ⟨_, _, _, by assumption⟩
  · exact ⟨_, by assumption⟩
  · rename_i fs hu
    cases hi : tySize P t with
    | none =>
      refine agg 0 (.inr ?_)
      unfold tySize at hi
      unfold tyOf
      rw [hu]
      cases hh : P.info? t with
      | none => rfl
      | some i => rw [hh] at hi; cases hi
    | some n => exact agg n (.inl (by rw [tyOf_of hu hi]; rfl))
  · rename_i m e hu
    cases hi : tySize P t with
    | none =>
      refine agg 0 (.inr ?_)
      unfold tySize at hi
      unfold tyOf
      rw [hu]
      cases hh : P.info? t with
      | none => rfl
      | some i => rw [hh] at hi; cases hi
    | some n => exact agg n (.inl (by rw [tyOf_of hu hi]; rfl))
  · trivial

section
variable (D : Nat) (w : World)
theorem en_ptr0 {t e : TypeId} (b : Option Addr) (hu : P.underlying t = some (.pointer e)) : (Op.equalIn (D + 1) t (.pointer none) (.pointer b)).run P w = .ok b.isNone w := by simp [Op.equalIn, run_underlying hu]
theorem en_ptr1 {t e : TypeId} (a : Addr) (hu : P.underlying t = some (.pointer e)) : (Op.equalIn (D + 1) t (.pointer (some a)) (.pointer none)).run P w = .ok false w := by simp [Op.equalIn, run_underlying hu]
theorem en_ptr2 {t e : TypeId} {k : Nat} (a : Addr) (hu : P.underlying t = some (.pointer e)) (hs : tySize P e = some (k + 1)) : (Op.equalIn (D + 1) t (.pointer (some a)) (.pointer (some a))).run P w = .ok true w := by
  simp [Op.equalIn, run_underlying hu, run_sizeOf' hs, sameAddr]
theorem en_sl0 {t e : TypeId} (b : Option Addr) (n m n' m' : Nat) (hu : P.underlying t = some (.slice e)) : (Op.equalIn (D + 1) t (.slice none n m) (.slice b n' m')).run P w = .ok b.isNone w := by simp [Op.equalIn, run_underlying hu]
theorem en_sl1 {t e : TypeId} (a : Addr) (n m n' m' : Nat) (hu : P.underlying t = some (.slice e)) : (Op.equalIn (D + 1) t (.slice (some a) n m) (.slice none n' m')).run P w = .ok false w := by simp [Op.equalIn, run_underlying hu]
theorem en_map0 {t k e : TypeId} (b : Option Nat) (hu : P.underlying t = some (.map k e)) : (Op.equalIn (D + 1) t (.map none) (.map b)).run P w = .ok b.isNone w := by simp [Op.equalIn, run_underlying hu]
theorem en_map1 {t k e : TypeId} (a : Nat) (hu : P.underlying t = some (.map k e)) : (Op.equalIn (D + 1) t (.map (some a)) (.map none)).run P w = .ok false w := by simp [Op.equalIn, run_underlying hu]
theorem en_fn0 {t : TypeId} {a b : Array TypeId} {c : Bool} (hu : P.underlying t = some (.func a b c)) : (Op.equalIn (D + 1) t .nilFunc .nilFunc).run P w = .ok true w := by simp [Op.equalIn, run_underlying hu]
theorem en_fn1 {t : TypeId} {a b : Array TypeId} {c : Bool} (f : Fn) (x y : Array Value) (hu : P.underlying t = some (.func a b c)) : (Op.equalIn (D + 1) t .nilFunc (.func f x y)).run P w = .ok false w := by simp [Op.equalIn, run_underlying hu]
theorem en_fn2 {t : TypeId} {a b : Array TypeId} {c : Bool} (f : Fn) (x y : Array Value) (hu : P.underlying t = some (.func a b c)) : (Op.equalIn (D + 1) t (.func f x y) .nilFunc).run P w = .ok false w := by simp [Op.equalIn, run_underlying hu]
theorem en_if0 {t : TypeId} {m : Array (String × TypeId)} (d : TypeId) (v : Value) (hu : P.underlying t = some (.interface m)) : (Op.equalIn (D + 1) t .nilIface (.iface d v)).run P w = .ok false w := by simp [Op.equalIn, run_underlying hu]
theorem en_if1 {t : TypeId} {m : Array (String × TypeId)} (d : TypeId) (v : Value) (hu : P.underlying t = some (.interface m)) : (Op.equalIn (D + 1) t (.iface d v) .nilIface).run P w = .ok false w := by simp [Op.equalIn, run_underlying hu]
end

theorem isNone_rel {b : Option Addr} {v : Value} (h : VR σ (.pointer b) v) : ∃ b', v = .pointer b' ∧ b'.isNone = b.isNone := by
  cases h with
  | nilptr => exact ⟨none, rfl, rfl⟩
  | ptr nm off k hk => exact ⟨_, rfl, rfl⟩

theorem eqA_ok {t : TypeId} {x y x' y' : Value} {b : Bool} (h : eqA (ekOf P t) x y = some b) (hx : VR σ x x') (hy : VR σ y y') :
    (Op.equal t x' y').run P w = .ok b w ∧ (∀ op X Y, (eqGuard op t X Y x' y').run P w = .ok () w) ∧
    binOp .eql t x' y' = (do pure (.bool (← Op.equal t x' y'))) ∧ binOp .neq t x' y' = (do pure (.bool (!(← Op.equal t x' y')))) := by
  have hek := ekOf_ok P t
  have h9 : ∀ a c, Op.equal t a c = Op.equalIn (9999 + 1) t a c := fun _ _ => rfl
  unfold eqA at h
  split at h
  · rename_i a c he
    rw [he] at hek
    have hu : P.underlying t = some .bool := hek
    cases h
    rw [bool_inv hx, bool_inv hy]
    exact ⟨run_equal_bool w t a c hu, fun op X Y => by cases op <;> rfl, rfl, rfl⟩
  · rename_i c he
    rw [he] at hek
    obtain ⟨e, k, hu, hs⟩ := hek
    cases h
    cases hx
    obtain ⟨c', rfl, hc⟩ := isNone_rel hy
    refine ⟨?_, fun op X Y => by cases op <;> rfl, rfl, rfl⟩
    rw [h9, ← hc]
    exact en_ptr0 _ w _ hu
  · rename_i a he
    rw [he] at hek
    obtain ⟨e, k, hu, hs⟩ := hek
    cases h
    obtain ⟨kk, _, rfl⟩ := ptr_inv hx
    cases hy
    refine ⟨?_, fun op X Y => by cases op <;> rfl, rfl, rfl⟩
    rw [h9]
    exact en_ptr1 _ w _ hu
  · rename_i a c he
    rw [he] at hek
    obtain ⟨e, k, hu, hs⟩ := hek
    obtain ⟨hb, h⟩ := bsel_ne h (by simp)
    cases h
    rw [Bool.and_eq_true] at hb
    have h1 := beq_iff.1 hb.1
    have h2 := beq_iff.1 hb.2
    obtain ⟨k1, hk1, rfl⟩ := ptr_inv hx
    obtain ⟨k2, hk2, rfl⟩ := ptr_inv hy
    rw [h1] at hk1
    rw [hk1] at hk2
    cases hk2
    refine ⟨?_, fun op X Y => by cases op <;> rfl, rfl, rfl⟩
    rw [h9, h2]
    exact en_ptr2 _ w _ hu hs
  · rename_i c n m he
    rw [he] at hek
    obtain ⟨e, hu⟩ := hek
    cases h
    cases hx
    refine ⟨?_, fun op X Y => by cases op <;> rfl, rfl, rfl⟩
    rw [h9]
    cases hy
    · exact en_sl0 _ w _ _ _ _ _ hu
    · exact en_sl0 _ w _ _ _ _ _ hu
    · exact en_sl0 _ w _ _ _ _ _ hu
  · rename_i a n m c he
    rw [he] at hek
    obtain ⟨e, hu⟩ := hek
    cases h
    cases hy
    cases hx
    · refine ⟨?_, fun op X Y => by cases op <;> rfl, rfl, rfl⟩
      rw [h9]
      exact en_sl1 _ w _ _ _ _ _ hu
    · refine ⟨?_, fun op X Y => by cases op <;> rfl, rfl, rfl⟩
      rw [h9]
      exact en_sl1 _ w _ _ _ _ _ hu
  · rename_i c he
    rw [he] at hek
    obtain ⟨k, e, hu⟩ := hek
    cases h
    cases hx
    refine ⟨?_, fun op X Y => by cases op <;> rfl, rfl, rfl⟩
    rw [h9]
    cases hy
    · exact en_map0 _ w _ hu
    · exact en_map0 _ w _ hu
  · rename_i a he
    rw [he] at hek
    obtain ⟨k, e, hu⟩ := hek
    cases h
    cases hy
    cases hx
    refine ⟨?_, fun op X Y => by cases op <;> rfl, rfl, rfl⟩
    rw [h9]
    exact en_map1 _ w _ hu
  · rename_i he
    rw [he] at hek
    obtain ⟨a, c, d, hu⟩ := hek
    cases h
    cases hx
    cases hy
    refine ⟨?_, fun op X Y => by cases op <;> rfl, rfl, rfl⟩
    rw [h9]
    exact en_fn0 _ w hu
  · rename_i he
    rw [he] at hek
    obtain ⟨a, c, d, hu⟩ := hek
    cases h
    cases hx
    refine ⟨?_, fun op X Y => by cases hy <;> cases op <;> rfl, by cases hy <;> rfl, by cases hy <;> rfl⟩
    rw [h9]
    cases hy <;> exact en_fn1 _ w _ _ _ hu
  · rename_i he
    rw [he] at hek
    obtain ⟨a, c, d, hu⟩ := hek
    cases h
    cases hy
    refine ⟨?_, fun op X Y => by cases hx <;> cases op <;> rfl, by cases hx <;> rfl, by cases hx <;> rfl⟩
    rw [h9]
    cases hx <;> exact en_fn2 _ w _ _ _ hu
  · rename_i he
    rw [he] at hek
    obtain ⟨m, hu⟩ := hek
    cases h
    cases hx
    cases hy
    refine ⟨?_, fun op X Y => by cases op <;> rfl, rfl, rfl⟩
    rw [h9]
    exact en_if0 _ w _ _ hu
  · rename_i he
    rw [he] at hek
    obtain ⟨m, hu⟩ := hek
    cases h
    cases hx
    cases hy
    refine ⟨?_, fun op X Y => by cases op <;> rfl, rfl, rfl⟩
    rw [h9]
    exact en_if1 _ w _ _ hu
  · rename_i ks as bs he
    rw [he] at hek
    obtain ⟨hg, hk, n, hn⟩ := hek
    obtain ⟨l1, h⟩ := bsel_ne h (by simp)
    obtain ⟨l2, h⟩ := bsel_ne h (by simp)
    have l1 := beq_iff.1 l1
    have l2 := beq_iff.1 l2
    rw [lenL_eq, lenL_eq] at l1 l2
    cases hx with
    | agg as as' _ g1 g2 =>
      cases hy with
      | agg bs bs' _ f1 f2 =>
        have h := eqCells_rel h ⟨g1, g2⟩ ⟨f1, f2⟩
        have hh := flat_eq 20 t ks hk 10000 (by omega) as' bs' b w (by rw [← g1]; exact l1) (by rw [← f1]; exact l2) h
        have v1 : valOf P t as' = .agg ⟨as'⟩ := by unfold valOf; rw [hn]
        have v2 : valOf P t bs' = .agg ⟨bs'⟩ := by unfold valOf; rw [hn]
        rw [v1, v2] at hh
        exact ⟨hh, fun op X Y => run_eqGuard_agg w op t X Y _ _ hg, rfl, rfl⟩
  · cases h

theorem binK_ok {op : BinOp} {t : TypeId} {x y x' y' v : Value} (h : binK op (ekOf P t) x y = some v) (hx : VR σ x x') (hy : VR σ y y') (X Y : Operand) :
    Gives P (do eqGuard op t X Y x' y'; binOp op t x' y') σ w v := by
  unfold binK at h
  split at h
  · rename_i k a k' b
    obtain ⟨hb, h⟩ := bsel_ne h (by simp)
    rw [int_inv hx, int_inv hy]
    refine intOp_ok ?_ h t X Y
    cases hk : kEq k k' with
    | true => exact .inl (kEq_iff.1 hk)
    | false =>
      rw [hk, bsel_false] at hb
      cases op <;> first | exact .inr (.inl rfl) | exact .inr (.inr rfl) | cases hb
  · unfold binOther at h
    split at h
    · rename_i a b
      split at h
      · rename_i v' hv
        cases h
        rw [string_inv hx, string_inv hy]
        exact string_ok hv t X Y
      · cases h
    · cases hq : eqA (ekOf P t) x y with
      | none => rw [hq] at h; cases h
      | some b =>
        rw [hq] at h; cases h
        obtain ⟨h1, h2, h3, h4⟩ := eqA_ok (w := w) hq hx hy
        refine ⟨.bool b, ?_, .bool b⟩
        rw [Sem.run_bind, h2, Result.andThen_ok, h3, Sem.run_bind, h1]
        rfl
    · cases hq : eqA (ekOf P t) x y with
      | none => rw [hq] at h; cases h
      | some b =>
        rw [hq] at h; cases h
        obtain ⟨h1, h2, h3, h4⟩ := eqA_ok (w := w) hq hx hy
        refine ⟨.bool (!b), ?_, .bool _⟩
        rw [Sem.run_bind, h2, Result.andThen_ok, h4, Sem.run_bind, h1]
        rfl
    · cases h
end
end Go.Proofs.YtieclenlldjfjaaGreat.Ev
