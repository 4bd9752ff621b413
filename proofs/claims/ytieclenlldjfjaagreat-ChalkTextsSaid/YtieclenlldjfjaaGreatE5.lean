import Derived.Test.YtieclenlldjfjaaGreatE4
import Derived.Laws.Entries
import Derived.Laws.Small
set_option autoImplicit false
set_option linter.unusedVariables false
set_option linter.unusedSimpArgs false
namespace Go.Proofs.YtieclenlldjfjaaGreat.Ev
open Go

/-! ## Numbers -/
theorem kEq_iff {j k : IntKind} : kEq j k = true ↔ j = k := by
  constructor
  · intro h
    cases j <;> cases k <;> first | rfl | (exact absurd h (by decide))
  · intro h; subst h; cases j <;> rfl

theorem iEq_eq (a b : Int) : iEq a b = (a == b) := by
  cases a with
  | ofNat m => cases b with
    | ofNat n => show Nat.beq m n = _; rw [Bool.eq_iff_iff, beq_iff]; simp; omega
    | negSucc n => show false = _; rw [Bool.eq_iff_iff]; simp
  | negSucc m => cases b with
    | ofNat n => show false = _; rw [Bool.eq_iff_iff]; simp
    | negSucc n => show Nat.beq m n = _; rw [Bool.eq_iff_iff, beq_iff]; simp

theorem ltI_eq (a b : Int) : ltI a b = decide (a < b) := by
  cases a with
  | ofNat m => cases b with
    | ofNat n => show Nat.ble (Nat.succ m) n = _; rw [Bool.eq_iff_iff, ble_iff]; simp; omega
    | negSucc n => show false = _; rw [Bool.eq_iff_iff]; simp; omega
  | negSucc m => cases b with
    | ofNat n => show true = _; rw [Bool.eq_iff_iff]; simp; omega
    | negSucc n => show Nat.ble (Nat.succ n) m = _; rw [Bool.eq_iff_iff, ble_iff]; simp; omega

theorem leI_eq (a b : Int) : leI a b = decide (a ≤ b) := by
  cases a with
  | ofNat m => cases b with
    | ofNat n => show Nat.ble m n = _; rw [Bool.eq_iff_iff, ble_iff]; simp
    | negSucc n => show false = _; rw [Bool.eq_iff_iff]; simp; omega
  | negSucc m => cases b with
    | ofNat n => show true = _; rw [Bool.eq_iff_iff]; simp; omega
    | negSucc n => show Nat.ble n m = _; rw [Bool.eq_iff_iff, ble_iff]; simp; omega

theorem addI_eq (a b : Int) : addI a b = a + b := by
  cases a <;> cases b <;> rfl

theorem subI_eq (a b : Int) : subI a b = a - b := by
  cases a with
  | ofNat m => cases b with
    | ofNat n =>
      show bsel (Nat.ble n m) (Int.ofNat (Nat.sub m n)) (Int.sub (.ofNat m) (.ofNat n)) = _
      cases h : Nat.ble n m with
      | false => rfl
      | true =>
        have := ble_iff.1 h
        show Int.ofNat (m - n) = Int.ofNat m - Int.ofNat n
        simp; omega
    | negSucc n => rfl
  | negSucc m => rfl

theorem wrapF_eq (k : IntKind) (n : Int) : wrapF k n = k.wrap n := by
  cases n with
  | negSucc m => rfl
  | ofNat m =>
    show bsel (Nat.ble m 127) (Int.ofNat m) (k.wrap (Int.ofNat m)) = _
    cases h : Nat.ble m 127 with
    | false => rfl
    | true =>
      have := ble_iff.1 h
      simp only [bsel_true]
      cases k <;> simp [IntKind.wrap, IntKind.bits, IntKind.signed] <;> omega

section
variable {P : Program} {σ : Nm} {st st' : St} {w : World}

theorem int_inv {k : IntKind} {n : Int} {v : Value} (h : VR σ (.int k n) v) : v = .int k n := by cases h; rfl
theorem bool_inv {b : Bool} {v : Value} (h : VR σ (.bool b) v) : v = .bool b := by cases h; rfl
theorem string_inv {s : ByteArray} {v : Value} (h : VR σ (.string s) v) : v = .string s := by cases h; rfl

theorem intOp_ok {op : BinOp} {k k' : IntKind} {a b : Int} {v : Value} (hk : k = k' ∨ op = .shl ∨ op = .shr) (h : intOp op k a b = some v) (t : TypeId) (X Y : Operand) :
    Gives P (do eqGuard op t X Y (.int k a) (.int k' b); binOp op t (.int k a) (.int k' b)) σ w v := by
  have hg : eqGuard op t X Y (.int k a) (.int k' b) = pure () := by cases op <;> rfl
  have hgo : ∀ v', (binOp op t (.int k a) (.int k' b)).run P w = .ok v' w → VR σ v v' → Gives P (do eqGuard op t X Y (.int k a) (.int k' b); binOp op t (.int k a) (.int k' b)) σ w v := by
    intro v' h1 h2
    refine ⟨v', ?_, h2⟩
    rw [hg, Sem.run_bind, Sem.run_pure, Result.andThen_ok, h1]
  cases op with
  | shl =>
    obtain ⟨hb, h⟩ := bsel_ne (α := Option Value) (b := bsel (ltI b 0) false true) (t := some (.int k (k.wrap (a * 2 ^ (min b.toNat k.bits))))) (no := none) (r := some v)
      (by show _ = some v; rw [← h]; show _ = bsel (ltI b 0) none _; cases ltI b 0 <;> rfl) (by simp)
    cases h
    have hb' : ¬ b < 0 := by
      have : ltI b 0 = false := by cases hh : ltI b 0 <;> simp_all
      rw [ltI_eq] at this; simpa using this
    exact hgo _ (by rw [binOp_shl]; simp [Op.shift, hb']) (.int _ _)
  | shr =>
    obtain ⟨hb, h⟩ := bsel_ne (α := Option Value) (b := bsel (ltI b 0) false true) (t := some (.int k (a.fdiv (2 ^ (min b.toNat k.bits))))) (no := none) (r := some v)
      (by show _ = some v; rw [← h]; show _ = bsel (ltI b 0) none _; cases ltI b 0 <;> rfl) (by simp)
    cases h
    have hb' : ¬ b < 0 := by
      have : ltI b 0 = false := by cases hh : ltI b 0 <;> simp_all
      rw [ltI_eq] at this; simpa using this
    exact hgo _ (by rw [binOp_shr]; simp [Op.shift, hb']) (.int _ _)
  | quo =>
    have hk : k = k' := by rcases hk with h | h | h <;> first | exact h | cases h
    subst hk
    obtain ⟨hb, h⟩ := bsel_ne (α := Option Value) (b := bsel (iEq b 0) false true) (t := some (.int k (k.wrap (a.tdiv b)))) (no := none) (r := some v)
      (by show _ = some v; rw [← h]; show _ = bsel (iEq b 0) none _; cases iEq b 0 <;> rfl) (by simp)
    cases h
    have hb' : ¬ b = 0 := by
      have : iEq b 0 = false := by cases hh : iEq b 0 <;> simp_all
      rw [iEq_eq] at this; simpa using this
    exact hgo _ (by rw [binOp_quo]; simp [Op.intDiv, hb']) (.int _ _)
  | rem =>
    have hk : k = k' := by rcases hk with h | h | h <;> first | exact h | cases h
    subst hk
    obtain ⟨hb, h⟩ := bsel_ne (α := Option Value) (b := bsel (iEq b 0) false true) (t := some (.int k (a.tmod b))) (no := none) (r := some v)
      (by show _ = some v; rw [← h]; show _ = bsel (iEq b 0) none _; cases iEq b 0 <;> rfl) (by simp)
    cases h
    have hb' : ¬ b = 0 := by
      have : iEq b 0 = false := by cases hh : iEq b 0 <;> simp_all
      rw [iEq_eq] at this; simpa using this
    exact hgo _ (by rw [binOp_rem]; simp [Op.intDiv, hb']) (.int _ _)
  | add =>
    have hk : k = k' := by rcases hk with h | h | h <;> first | exact h | cases h
    subst hk; cases h
    exact hgo _ (by rw [binOp_add]; simp only [Op.intArith, Sem.run_pure]; rfl) (by rw [wrapF_eq, addI_eq]; exact .int _ _)
  | sub =>
    have hk : k = k' := by rcases hk with h | h | h <;> first | exact h | cases h
    subst hk; cases h
    exact hgo _ (by rw [binOp_sub]; simp only [Op.intArith, Sem.run_pure]; rfl) (by rw [wrapF_eq, subI_eq]; exact .int _ _)
  | mul =>
    have hk : k = k' := by rcases hk with h | h | h <;> first | exact h | cases h
    subst hk; cases h
    exact hgo _ (by rw [binOp_mul]; simp [Op.intArith]) (.int _ _)
  | and =>
    have hk : k = k' := by rcases hk with h | h | h <;> first | exact h | cases h
    subst hk; cases h
    exact hgo _ (by rw [binOp_and]; simp [Op.intBits]) (.int _ _)
  | or =>
    have hk : k = k' := by rcases hk with h | h | h <;> first | exact h | cases h
    subst hk; cases h
    exact hgo _ (by rw [binOp_or]; simp [Op.intBits]) (.int _ _)
  | xor =>
    have hk : k = k' := by rcases hk with h | h | h <;> first | exact h | cases h
    subst hk; cases h
    exact hgo _ (by rw [binOp_xor]; simp [Op.intBits]) (.int _ _)
  | andNot =>
    have hk : k = k' := by rcases hk with h | h | h <;> first | exact h | cases h
    subst hk; cases h
    exact hgo _ (by rw [binOp_andNot]; simp [Op.intBits]) (.int _ _)
  | eql =>
    have hk : k = k' := by rcases hk with h | h | h <;> first | exact h | cases h
    subst hk; cases h
    exact hgo _ (by rw [binOp_eql]; rfl) (by rw [iEq_eq]; exact .bool _)
  | neq =>
    have hk : k = k' := by rcases hk with h | h | h <;> first | exact h | cases h
    subst hk; cases h
    exact hgo _ (by rw [binOp_neq]; rfl) (by rw [iEq_eq]; have : bsel (a == b) false true = (a != b) := by show _ = !(a == b); cases (a == b) <;> rfl
                                             rw [this]; exact .bool _)
  | lss =>
    have hk : k = k' := by rcases hk with h | h | h <;> first | exact h | cases h
    subst hk; cases h
    exact hgo _ (by rw [binOp_lss]; rfl) (by rw [ltI_eq]; exact .bool _)
  | leq =>
    have hk : k = k' := by rcases hk with h | h | h <;> first | exact h | cases h
    subst hk; cases h
    exact hgo _ (by rw [binOp_leq]; rfl) (by rw [leI_eq]; exact .bool _)
  | gtr =>
    have hk : k = k' := by rcases hk with h | h | h <;> first | exact h | cases h
    subst hk; cases h
    exact hgo _ (by rw [binOp_gtr]; rfl) (by rw [ltI_eq]; exact .bool _)
  | geq =>
    have hk : k = k' := by rcases hk with h | h | h <;> first | exact h | cases h
    subst hk; cases h
    exact hgo _ (by rw [binOp_geq]; rfl) (by rw [leI_eq]; exact .bool _)

theorem string_ok {op : BinOp} {a b : ByteArray} {v : Value} (h : Op.stringOp op a b = .pure v) (t : TypeId) (X Y : Operand) :
    Gives P (do eqGuard op t X Y (.string a) (.string b); binOp op t (.string a) (.string b)) σ w v := by
  have hg : eqGuard op t X Y (.string a) (.string b) = pure () := by cases op <;> rfl
  refine ⟨v, ?_, ?_⟩
  · have e : binOp op t (.string a) (.string b) = Op.stringOp op a b := by cases op <;> rfl
    rw [hg, Sem.run_bind, Sem.run_pure, Result.andThen_ok, e, h]
    rfl
  · unfold Op.stringOp at h
    cases op <;> simp only [] at h <;> first
      | (cases h; exact .bool _)
      | (split at h
         · cases h
         · cases h; exact .string _)
      | cases h

theorem unA_ok {op : UnOp} {x x' v : Value} (h : unA op x = some v) (hx : VR σ x x') : Gives P (Op.unary op x') σ w v := by
  unfold unA at h
  split at h
  · rename_i k n
    rw [int_inv hx]; cases h
    exact ⟨_, by simp only [Op.unary, Op.intArith, Sem.run_pure], .int _ _⟩
  · rename_i k n
    rw [int_inv hx]; cases h
    exact ⟨_, by simp only [Op.unary, Op.intBits, Sem.run_pure], .int _ _⟩
  · rename_i b
    rw [bool_inv hx]; cases h
    exact ⟨.bool (!b), by simp [Op.unary], by cases b <;> exact .bool _⟩
  · cases h

theorem mkIface_ok {t : TypeId} {x x' v : Value} (h : mkIfaceA P t x = some v) (hx : VR σ x x') : Gives P (Instr.makeInterface t x') σ w v := by
  unfold mkIfaceA at h
  split at h
  · cases h
  · rename_i d hn hd
    cases h
    refine ⟨.iface t x', ?_, .iface t _ _ hx⟩
    unfold Instr.makeInterface
    rw [Sem.run_bind, run_underlying hd, Result.andThen_ok]
    cases d <;> first | rfl | exact absurd rfl (hn _)
  · cases h

theorem extractK_ok {x x' v : Value} {i : Nat} (h : extractK x i st = .ok v st') (hx : VR σ x x') : st' = st ∧ Gives P (Instr.extract x' i) σ w v := by
  unfold extractK at h
  cases hx with
  | tuple as as' h1 h2 =>
      obtain ⟨hn, rfl⟩ := reO_ok h
      have h : as[i]? = some v := by rw [← hn, nthL_eq]
      obtain ⟨v', hv, hr⟩ := VRL.get ⟨h1, h2⟩ h
      refine ⟨rfl, v', ?_, hr⟩
      simp [Instr.extract, hv]
  | _ => cases h

theorem pickK_ok {c c' x x' y y' v : Value} (h : pickK c x y st = .ok v st') (hc : VR σ c c') (hx : VR σ x x') (hy : VR σ y y') :
    st' = st ∧ Gives P (do pure (if ← asBool c' then x' else y')) σ w v := by
  unfold pickK at h
  split at h
  · rename_i t
    obtain ⟨rfl, rfl⟩ := Re.ok_inj h
    rw [bool_inv hc]
    refine ⟨rfl, if t then x' else y', by simp [asBool], ?_⟩
    cases t
    · exact hy
    · exact hx
  · cases h

theorem ptr_add (b o n : Nat) : (⟨b, o, none⟩ : Addr).add n = ⟨b, o + n, none⟩ := add_place b o n

theorem ixOf_arr {t : TypeId} {m s : Nat} (h : ixOf P t = .arr m s) : ∃ e, P.underlying t = some (.array m e) ∧ tySize P e = some s ∧ elemTy P t = tyOf P e := by
  unfold ixOf at h
  split at h
  · rename_i m' e hu
    split at h
    · rename_i k hk; cases h; exact ⟨e, hu, hk, by simp [elemTy, hu]⟩
    · cases h
  · split at h <;> cases h
  · cases h
  · cases h
theorem ixOf_sl {t : TypeId} {s : Nat} (h : ixOf P t = .sl s) : ∃ e, P.underlying t = some (.slice e) ∧ tySize P e = some s := by
  unfold ixOf at h
  split at h
  · split at h <;> cases h
  · rename_i e hu
    split at h
    · rename_i k hk; cases h; exact ⟨e, hu, hk⟩
    · cases h
  · cases h
  · cases h
theorem ixOf_str {t : TypeId} (h : ixOf P t = .str) : P.underlying t = some .string := by
  unfold ixOf at h
  split at h
  · split at h <;> cases h
  · split at h <;> cases h
  · assumption
  · cases h

theorem idxK_ok {t : TypeId} {x x' i i' v : Value} (h : idxK (ixOf P t) x i = some v) (hx : VR σ x x') (hi : VR σ i i') : Gives P (Instr.indexAt t x' i') σ w v := by
  unfold idxK at h
  obtain ⟨k, n, rfl, h⟩ := natK_ok h (by simp)
  rw [int_inv hi]
  cases hix : ixOf P t with
  | no => rw [hix] at h; cases h
  | str => rw [hix] at h; cases h
  | arr m s =>
    rw [hix] at h
    obtain ⟨e, hu, hs, _⟩ := ixOf_arr hix
    have h : ptrK x none (fun b o => bsel (Nat.ble (n + 1) m) (some (ptr b (o + n * s))) none) = some v := h
    obtain ⟨a, rfl, h⟩ := ptrK_ok h (by simp)
    obtain ⟨hb, h⟩ := bsel_ne h (by simp)
    cases h
    have hb : n + 1 ≤ m := ble_iff.1 hb
    obtain ⟨kk, hk, rfl⟩ := ptr_inv hx
    refine ⟨.pointer (some ⟨kk.b, kk.o + (a.off + n * s), none⟩), ?_, .ptr _ _ kk hk⟩
    unfold Instr.indexAt
    have h0 : (0 : Int) ≤ Int.ofNat n ∧ Int.ofNat n < (m : Int) := ⟨by simp, by simp; omega⟩
    simp only [Sem.run_bind, asIntOf, Sem.run_pure, Result.andThen_ok, run_underlying hu, Instr.sureAddr]
    simp only [h0, and_self, if_true, Sem.run_bind, run_sizeOf' hs, Result.andThen_ok, Sem.run_pure, ptr_add]
    simp [Nat.add_assoc]
  | sl s =>
    rw [hix] at h
    obtain ⟨e, hu, hs⟩ := ixOf_sl hix
    have h : slK x none (fun a m => bsel (Nat.ble (n + 1) m) (some (ptr a.block (a.off + n * s))) none) = some v := h
    cases hx with
      | slice nm off m c c' kk hk h1 h2 h3 =>
        obtain ⟨hb, h⟩ := bsel_ne h (by simp)
        cases h
        have hb : n + 1 ≤ m := ble_iff.1 hb
        refine ⟨.pointer (some ⟨kk.b, kk.o + (off + n * s), none⟩), ?_, .ptr _ _ kk hk⟩
        unfold Instr.indexAt
        have h0 : (0 : Int) ≤ Int.ofNat n ∧ Int.ofNat n < (m : Int) := ⟨by simp, by simp; omega⟩
        simp only [Sem.run_bind, asIntOf, Sem.run_pure, Result.andThen_ok, run_underlying hu]
        simp only [h0, and_self, if_true, Sem.run_bind, run_sizeOf' hs, Result.andThen_ok, Sem.run_pure, ptr_add]
        simp [Nat.add_assoc]
      | void a c' => 
        have h : bsel (Nat.ble (n + 1) 0) (some (ptr voidNm (0 + n * s))) none = some v := h
        obtain ⟨hb, h⟩ := bsel_ne h (by simp)
        have hb : n + 1 ≤ 0 := ble_iff.1 hb
        omega
      | _ => cases h

theorem run_part {t : TypeId} {ty : Ty} (hty : tyOf P t = ty) {as as' : List Value} {off : Nat} {v : Value} (h : partK ty as off = some v) (hx : VRL σ as as') (h1 : ∀ u, u ∈ as → u.oneCell' = true) :
    ∃ v', (part t ⟨as'⟩ off).run P w = .ok v' w ∧ VR σ v v' := by
  unfold partK at h
  cases ty with
  | no => cases h
  | agg k =>
    obtain ⟨hb, h⟩ := bsel_ne h (by simp)
    cases h
    obtain ⟨ha, hs⟩ := tyOf_agg hty
    have hb : off + k ≤ as.length := by have := ble_iff.1 hb; rwa [lenL_eq] at this
    have hh := (hx.drop off).take k
    refine ⟨.agg ⟨(as'.drop off).take k⟩, ?_, ?_⟩
    · unfold part
      simp only [Sem.run_bind, ha, hs, Result.andThen_ok, if_true]
      have : (⟨as'⟩ : Array Value).extract off (off + k) = ⟨(as'.drop off).take k⟩ := by
        apply Array.ext'
        simp [Array.toList_extract]
      simp [this]
    · rw [takeL_eq, dropL_eq]
      exact .agg _ _ (fun u hu => h1 u (List.mem_of_mem_drop (List.mem_of_mem_take hu))) hh.1 hh.2
  | one =>
    have h : nthL off as = some v := h
    rw [nthL_eq] at h
    obtain ⟨ha, hs⟩ := tyOf_one hty
    obtain ⟨v', hv, hr⟩ := hx.get h
    refine ⟨v', ?_, hr⟩
    unfold part
    simp only [Sem.run_bind, ha, Result.andThen_ok]
    simp [hv]

theorem indexK_ok {t : TypeId} {x x' i i' v : Value} (h : indexK (ixOf P t) (elemTy P t) x i = some v) (hx : VR σ x x') (hi : VR σ i i') : Gives P (Instr.index t x' i') σ w v := by
  unfold indexK at h
  obtain ⟨k, n, rfl, h⟩ := natK_ok h (by simp)
  rw [int_inv hi]
  cases hix : ixOf P t with
  | no => rw [hix] at h; cases h
  | sl s => rw [hix] at h; cases h
  | arr m s =>
    rw [hix] at h
    obtain ⟨e, hu, hs, hel⟩ := ixOf_arr hix
    cases hx with
    | agg as as' g0 g1 g2 =>
      have h : bsel (Nat.ble (n + 1) m) (partK (elemTy P t) as (n * s)) none = some v := h
      obtain ⟨hb, h⟩ := bsel_ne h (by simp)
      have hb : n + 1 ≤ m := ble_iff.1 hb
      obtain ⟨v', h2, h3⟩ := run_part (w := w) hel.symm h ⟨g1, g2⟩ g0
      refine ⟨v', ?_, h3⟩
      unfold Instr.index
      have h0 : (0 : Int) ≤ Int.ofNat n ∧ Int.ofNat n < (m : Int) := ⟨by simp, by simp; omega⟩
      simp only [Sem.run_bind, asIntOf, Sem.run_pure, Result.andThen_ok, run_underlying hu]
      simp only [h0, and_self, if_true, Sem.run_bind, run_sizeOf' hs, Result.andThen_ok]
      exact h2
    | _ => cases h
  | str =>
    rw [hix] at h
    have hu := ixOf_str hix
    cases hx with
    | string s =>
      have h : (match s.data.toList[n]? with | some b => some (Value.int .u8 b.toNat) | none => none) = some v := h
      split at h
      · rename_i b hb
        cases h
        refine ⟨.int .u8 b.toNat, ?_, .int _ _⟩
        unfold Instr.index
        have hb2 : s[n]? = some b := by
          have hlt : n < s.size := (List.getElem?_eq_some_iff.1 hb).1
          have hv : s.data.toList[n] = b := (List.getElem?_eq_some_iff.1 hb).2
          rw [getElem?_pos s n hlt]
          exact congrArg some hv
        simp only [Sem.run_bind, asIntOf, Sem.run_pure, Result.andThen_ok, run_underlying hu]
        have h0 : (0 : Int) ≤ Int.ofNat n := by simp
        rw [if_pos h0]
        have hn : (Int.ofNat n).toNat = n := rfl
        rw [hn, hb2]
        rfl
      · cases h
    | _ => cases h

theorem fdOf_at {t : TypeId} {f off k : Nat} {ty : Ty} (h : fdOf P t f = .at off k ty) : ∃ (fs : Array Field) (fd : Field), P.underlying t = some (.struct fs) ∧ fs[f]? = some fd ∧ tySize P fd.type = some k ∧ fd.offset = off ∧ tyOf P fd.type = ty := by
  unfold fdOf at h
  split at h
  · rename_i fs hu
    split at h
    · rename_i fd hf
      split at h
      · rename_i k' hk
        cases h
        exact ⟨fs, fd, hu, hf, hk, rfl, rfl⟩
      · cases h
    · cases h
  · cases h

theorem fieldPtr_ok {t : TypeId} {f : Nat} {x x' v : Value} (h : fieldPtrK (fdOf P t f) x = some v) (hx : VR σ x x') : Gives P (Instr.fieldAt t x' f) σ w v := by
  cases hfd : fdOf P t f with
  | no => rw [hfd] at h; cases h
  | «at» off k ty =>
    rw [hfd] at h
    obtain ⟨fs, fd, hu, hf, hk, rfl, rfl⟩ := fdOf_at hfd
    cases k with
    | zero => cases h
    | succ k =>
      have h : ptrK x none (fun b o => some (ptr b (o + fd.offset))) = some v := h
      obtain ⟨a, rfl, h⟩ := ptrK_ok h (by simp)
      cases h
      obtain ⟨kk, hkk, rfl⟩ := ptr_inv hx
      refine ⟨.pointer (some ⟨kk.b, kk.o + (a.off + fd.offset), none⟩), ?_, .ptr _ _ kk hkk⟩
      unfold Instr.fieldAt fieldPlace
      simp only [Sem.run_bind, run_underlying hu, Result.andThen_ok, hf, Sem.run_pure, Instr.sureAddr, run_sizeOf' hk]
      simp [ptr_add, Nat.add_assoc]

theorem field_ok {t : TypeId} {f : Nat} {x x' v : Value} (h : fieldK (fdOf P t f) x = some v) (hx : VR σ x x') : Gives P (Instr.field t x' f) σ w v := by
  cases hfd : fdOf P t f with
  | no => rw [hfd] at h; cases h
  | «at» off k ty =>
    rw [hfd] at h
    obtain ⟨fs, fd, hu, hf, hk, rfl, rfl⟩ := fdOf_at hfd
    cases hx with
    | agg as as' g0 g1 g2 =>
      have h : partK (tyOf P fd.type) as fd.offset = some v := h
      obtain ⟨v', h2, h3⟩ := run_part (w := w) rfl h ⟨g1, g2⟩ g0
      refine ⟨v', ?_, h3⟩
      unfold Instr.field
      simp only [Sem.run_bind, run_underlying hu, Result.andThen_ok, hf, asAgg, Sem.run_pure]
      exact h2
    | _ => cases h

theorem zeroV_ok {t : TypeId} {z : Value} (h : zeroV P t = some z) : (∀ w, (zeroValue t).run P w = .ok z w) ∧ VR σ z z := by
  unfold zeroV at h
  obtain ⟨z', hz, h⟩ := osel_ne h (by simp)
  obtain ⟨hb, h⟩ := bsel_ne h (by simp)
  cases h
  exact ⟨fun w => run_zeroValue hz w, VR.plain hb⟩

theorem VRL.two {a b a' b' : Value} (h : VR σ a a') (h' : VR σ b b') : VR σ (.tuple #[a, b]) (.tuple #[a', b']) :=
  have : VRL σ [a, b] [a', b'] := .cons h (.cons h' .nil)
  .tuple _ _ this.1 this.2

theorem assertA_ok {x x' v : Value} {xt asserted : TypeId} {ok : Bool} (h : assertA P x asserted ok = some v) (hx : VR σ x x') : Gives P (Instr.typeAssert x' xt asserted ok) σ w v := by
  unfold assertA at h
  split at h
  · cases h
  · rename_i d hn hd
    have hmiss : ∀ s dd m, bsel ok ((zeroV P asserted).map fun z => Value.tuple #[z, .bool false]) none = some v →
        ∃ v', ((do if ok then pure (Value.tuple #[← zeroValue asserted, .bool false]) else runtimePanic (.typeAssertion s dd asserted m)) : Sem Value).run P w = .ok v' w ∧ VR σ v v' := by
      intro s dd m h
      obtain ⟨hb, h⟩ := bsel_ne h (by simp)
      subst hb
      cases hz : zeroV P asserted with
      | none => rw [hz] at h; cases h
      | some z =>
        rw [hz] at h; cases h
        obtain ⟨z1, z2⟩ := zeroV_ok (σ := σ) hz
        exact ⟨.tuple #[z, .bool false], by simp [z1], VRL.two z2 (.bool false)⟩
    split at h
    · rename_i t y
      cases hx with
      | iface _ _ y' hy =>
        by_cases ht : t = asserted
        · subst ht
          have hb : Nat.beq t t = true := beq_iff.2 rfl
          rw [hb, bsel_true] at h
          cases h
          refine ⟨if ok then .tuple #[y', .bool true] else y', ?_, ?_⟩
          · unfold Instr.typeAssert
            rw [Sem.run_bind, run_underlying hd, Result.andThen_ok]
            cases d <;> first | (simp; done) | exact absurd rfl (hn _)
          · cases ok
            · exact hy
            · exact VRL.two hy (.bool true)
        · have hb : Nat.beq t asserted = false := by
            cases hb : Nat.beq t asserted
            · rfl
            · exact absurd (beq_iff.1 hb) ht
          rw [hb, bsel_false] at h
          obtain ⟨v', h1, h2⟩ := hmiss (some xt) (some t) "" h
          refine ⟨v', ?_, h2⟩
          unfold Instr.typeAssert
          rw [Sem.run_bind, run_underlying hd, Result.andThen_ok]
          cases d <;> first | (simp only [ht, if_false]; exact h1) | exact absurd rfl (hn _)
    · cases hx with
      | nilIface =>
        obtain ⟨v', h1, h2⟩ := hmiss (some xt) none "" h
        refine ⟨v', ?_, h2⟩
        unfold Instr.typeAssert
        rw [Sem.run_bind, run_underlying hd, Result.andThen_ok]
        cases d <;> first | exact h1 | exact absurd rfl (hn _)
    · cases h
  · cases h
end
end Go.Proofs.YtieclenlldjfjaaGreat.Ev
