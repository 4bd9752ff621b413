import Derived.Test.YtieclenlldjfjaaGreatE3
set_option autoImplicit false
set_option linter.unusedVariables false
set_option linter.unusedSimpArgs false
namespace Go.Proofs.YtieclenlldjfjaaGreat.Ev
open Go

/-! ## Activations -/
def DR (σ : Nm) (ds : List Nat) (fs : List Deferred) : Prop := ds.length = fs.length ∧ ∀ (i : Nat) (nm : Nat) (f : Deferred), ds[i]? = some nm → fs[i]? = some f → ∃ k, σ nm = some k ∧ f = { target := .collected k.b, args := #[] }

def AR (σ : Nm) (a : Ac) (act : Act) : Prop := TR σ a.n a.t act.tmps ∧ DR σ a.defers act.defers

theorem DR.mono {σ τ : Nm} (hs : Sub σ τ) {ds : List Nat} {fs : List Deferred} (h : DR σ ds fs) : DR τ ds fs :=
  ⟨h.1, fun i nm f h1 h2 => let ⟨k, a, b⟩ := h.2 i nm f h1 h2; ⟨k, hs _ _ a, b⟩⟩
theorem AR.mono {σ τ : Nm} (hs : Sub σ τ) {a : Ac} {act : Act} (h : AR σ a act) : AR τ a act := ⟨h.1.mono hs, h.2.mono hs⟩

theorem Ac.get_eq (a : Ac) (t : Nat) : a.get t = (regAt t).g a.t := by cases a; rfl

theorem AR.eval {σ : Nm} {a : Ac} {act : Act} (h : AR σ a act) {x : Operand} (hx : okOpd x = true) : VR σ (evalA a x) (act.eval x) := by
  cases x with
  | tmp t =>
    have ht : Nat.succ t ≤ 512 := ble_iff.1 hx
    show VR σ (a.get t) _
    rw [Ac.get_eq]
    exact h.1.2.2 t ht
  | const v => exact VR.plain hx
  | global g => cases hx
  | func f => exact .func f [] [] [] [] rfl (fun i u v hu => by simp at hu) rfl (fun i u v hu => by simp at hu)

/-- An activation's temporary set. -/
theorem Ac.put_ok {a : Ac} {dst : Option Tmp} {v : Value} {st : St} {a' : Ac} {st' : St} (h : a.put dst v st = .ok a' st') :
    st' = st ∧ a'.n = a.n ∧ a'.defers = a.defers ∧ (match dst with | none => a' = a | some d => d < a.n ∧ a'.t = (regAt d).s v a.t) := by
  obtain ⟨n, t, ds⟩ := a
  cases dst with
  | none => cases h; exact ⟨rfl, rfl, rfl, rfl⟩
  | some d =>
    have h : bsel (Nat.ble (Nat.succ d) n) (Ra.ok ⟨n, (regAt d).s v t, ds⟩ st) .no = .ok a' st' := h
    cases hb : Nat.ble (Nat.succ d) n with
    | false => rw [hb] at h; cases h
    | true =>
      rw [hb] at h
      cases h
      exact ⟨rfl, rfl, rfl, ble_iff.1 hb, rfl⟩

theorem AR.put {σ : Nm} {a : Ac} {act : Act} (h : AR σ a act) {dst : Option Tmp} {v v' : Value} {st : St} {a' : Ac} {st' : St} (hp : a.put dst v st = .ok a' st') (hv : VR σ v v') :
    AR σ a' (act.put dst v') := by
  obtain ⟨_, h1, h2, h3⟩ := Ac.put_ok hp
  cases dst with
  | none => simp only at h3; subst h3; exact h
  | some d =>
    obtain ⟨h3, h4⟩ := h3
    have h3 : @LT.lt Nat _ d a.n := h3
    obtain ⟨⟨g1, g2, g3⟩, g4⟩ := h
    have hd5 : @LT.lt Nat _ d 512 := Nat.lt_of_lt_of_le h3 g1
    refine ⟨⟨h1 ▸ g1, by simp [Act.put, g2, h1], fun i hi => ?_⟩, by rw [h2]; exact g4⟩
    rw [h4]
    by_cases e : i = d
    · subst e
      rw [regAt_same hi]
      have : i < act.tmps.size := by rw [g2]; exact h3
      simpa [Act.put, this] using hv
    · rw [regAt_other hi hd5 e]
      have := g3 i hi
      simpa [Act.put, Array.getElem?_setIfInBounds_ne (Ne.symm e)] using this

/-! ## What an operation does -/
def Does (P : Program) (s : Sem Next) (σ : Nm) (st : St) (w : World) (v : Value) (st' : St) : Prop :=
  ∃ σ' w' v', (s.run P w = .ok (.value v') w' ∨ (s.run P w = .ok .skip w' ∧ v' = undef)) ∧ VR σ' v v' ∧ Rel σ' st' w' ∧ Ext σ st w σ' st' w'

/-- What only reads. -/
def Gives (P : Program) (s : Sem Value) (σ : Nm) (w : World) (v : Value) : Prop := ∃ v', s.run P w = .ok v' w ∧ VR σ v v'

section
variable {P : Program} {σ : Nm} {st st' : St} {w : World}

theorem Gives.does {s : Sem Value} {v : Value} (h : Gives P s σ w v) (hr : Rel σ st w) : Does P (do pure (.value (← s))) σ st w v st := by
  obtain ⟨v', h1, h2⟩ := h
  refine ⟨σ, w, v', .inl ?_, h2, hr, .refl σ st w⟩
  rw [Sem.run_bind, h1]
  rfl

theorem reO_ok {x : Option Value} {v : Value} (h : reO x st = .ok v st') : x = some v ∧ st' = st := by
  cases x with
  | none => cases h
  | some u => cases h; exact ⟨rfl, rfl⟩

theorem reS_ok {x : Option St} {v : Value} (h : reS x = .ok v st') : v = junk ∧ x = some st' := by
  cases x with
  | none => cases h
  | some u => cases h; exact ⟨rfl, rfl⟩

theorem allK_ok {o : AObj} {f : Nat → Value} {v : Value} (h : allK o f st = .ok v st') : v = f st.next ∧ st' = ⟨putAt st.next st.heap o, st.next + 1⟩ ∧ st.next < 65536 := by
  obtain ⟨hp, n⟩ := st
  have h : bsel (Nat.ble 65536 n) Re.no (Re.ok (f n) (pushAt n hp o)) = .ok v st' := h
  cases hb : Nat.ble 65536 n with
  | true => rw [hb] at h; cases h
  | false =>
    rw [hb, bsel_false, pushAt_eq] at h
    cases h
    refine ⟨rfl, rfl, ?_⟩
    rcases Nat.lt_or_ge n 65536 with h' | h'
    · exact h'
    · rw [ble_iff.2 h'] at hb; cases hb

theorem ofL_take (xs : List Value) : (Bt.ofL (dep xs.length) xs).leaves.take xs.length = xs := by
  apply List.ext_getElem?
  intro i
  rw [List.getElem?_take]
  split
  · rename_i hi
    exact (Bt.ofL_perf (dep xs.length) xs).2 i hi (Nat.lt_of_lt_of_le hi (dep_le _))
  · rename_i hi
    rw [List.getElem?_eq_none (by omega)]

/-- A new row. -/
theorem Rel.newRow (hr : Rel σ st w) (hlt : st.next < 65536) {xs c : List Value} (hx : VRL σ xs (c.take xs.length)) (h1 : ∀ u, u ∈ xs → u.oneCell' = true) (e : TypeId) (es : Nat) (ex : Bool) :
    ∃ σ', σ' st.next = some ⟨w.heap.size, 0, c.length, es, ex⟩ ∧ Rel σ' ⟨putAt st.next st.heap (rowOf xs es ex), st.next + 1⟩ { w with heap := w.heap.push (.cells ⟨c⟩ e) } ∧
      Ext σ st w σ' ⟨putAt st.next st.heap (rowOf xs es ex), st.next + 1⟩ { w with heap := w.heap.push (.cells ⟨c⟩ e) } := by
  refine hr.new hlt (k := ⟨w.heap.size, 0, c.length, es, ex⟩) rfl fun τ w' hs ht hw => ?_
  have hl : xs.length ≤ c.length := by have := hx.1; simp at this; omega
  unfold rowOf
  rw [lenL_eq]
  refine ⟨rfl, rfl, (Bt.ofL_perf _ _).1, dep_le _, by rw [ofL_take]; exact h1, c, e, hw, rfl, by simpa using hl, ?_⟩
  rw [ofL_take]
  exact hx.mono hs

theorem cellsO_ok {v v' : Value} {xs : List Value} (h : cellsO v = some xs) (hv : VR σ v v') : VRL σ xs v'.cells.toList ∧ (∀ u, u ∈ xs → u.oneCell' = true) := by
  cases hv with
  | agg as as' g0 g1 g2 => cases h; exact ⟨⟨g1, g2⟩, g0⟩
  | tuple => cases h
  | void a c' =>
    have h : some [voidS] = some xs := h
    cases h
    exact ⟨.one (.void a c'), by simp [Value.oneCell', voidS]⟩
  | _ =>
    simp only [cellsO, Option.some.injEq] at h
    subst h
    refine ⟨.one (by first | exact .bool _ | exact .int _ _ | exact .string _ | exact .nilptr | exact .ptr _ _ _ (by assumption) | exact .nilslice | exact .slice _ _ _ _ _ _ (by assumption) (by assumption) (by assumption) (by assumption) | exact .void _ _ | exact .nilmap | exact .map _ _ (by assumption) | exact .func _ _ _ _ _ (by assumption) (by assumption) (by assumption) (by assumption) | exact .yield _ _ (by assumption) | exact .nilFunc | exact .iface _ _ _ (by assumption) | exact .nilIface), by simp [Value.oneCell', voidS]⟩

theorem allFlat_eq (xs : List Value) : allFlat xs = xs.all flat := by
  induction xs with
  | nil => rfl
  | cons x xs ih =>
    show bsel (flat x) (allFlat xs) false = _
    rw [ih, List.all_cons, bsel_eq]
    cases flat x <;> rfl

theorem zeroOf_some {t : TypeId} {z : Value} (h : zeroOf P t = some z) : ∃ i, P.info? t = some i ∧ i.zero = some z := by
  unfold zeroOf at h
  cases hi : P.info? t with
  | none => rw [hi] at h; cases h
  | some i => rw [hi] at h; exact ⟨i, rfl, h⟩

theorem run_zeroValue {t : TypeId} {z : Value} (h : zeroOf P t = some z) (w : World) : (zeroValue t).run P w = .ok z w := by
  obtain ⟨i, h1, h2⟩ := zeroOf_some h
  simp [zeroValue, typeInfo, h1, h2]

theorem zeroL_ok {t : TypeId} {xs : List Value} (h : zeroL P t = some xs) : ∃ z, zeroOf P t = some z ∧ z.cells = ⟨xs⟩ ∧ xs.all flat = true := by
  unfold zeroL at h
  obtain ⟨z, hz, h⟩ := osel_ne h (by simp)
  obtain ⟨ys, hy, h⟩ := osel_ne h (by simp)
  obtain ⟨hb, h⟩ := bsel_ne h (by simp)
  cases h
  refine ⟨z, hz, ?_, by rw [← allFlat_eq]; exact hb⟩
  cases z <;> simp_all [cellsO, Value.cells]
  rename_i cs
  cases hy; rfl

theorem boxK_ok {xs ys : List Value} {v : Value} (h : boxK xs st = .ok v st') (hr : Rel σ st w) (hx : VRL σ xs ys) (h1 : ∀ u, u ∈ xs → u.oneCell' = true) (e : TypeId) :
    Does P (do pure (.value (.pointer (some (← newRow e ⟨ys⟩))))) σ st w v st' := by
  obtain ⟨rfl, rfl, hlt⟩ := allK_ok h
  have hl : ys.take xs.length = ys := List.take_of_length_le (by rw [hx.1]; exact Nat.le_refl _)
  obtain ⟨σ', s1, s2, s3⟩ := hr.newRow hlt (c := ys) (xs := xs) (by rw [hl]; exact hx) h1 e 0 true
  refine ⟨σ', _, .pointer (some ⟨w.heap.size, 0, none⟩), .inl ?_, ?_, s2, s3⟩
  · simp [newRow]
  · exact .ptr st.next 0 _ s1

theorem alloc_ok {t : TypeId} {v : Value} (h : osel (zeroL P t) .no (fun z => boxK z st) = .ok v st') (hr : Rel σ st w) :
    Does P (do pure (.value (← Instr.alloc t true (.tuple #[])))) σ st w v st' := by
  obtain ⟨xs, hx, h⟩ := osel_ne h Re.no_ne
  obtain ⟨z, hz, hc, hf⟩ := zeroL_ok hx
  obtain ⟨σ', w', v', h1, h2⟩ := boxK_ok (P := P) h hr (VRL.flat hf) (flat_one hf) t
  refine ⟨σ', w', v', ?_, h2⟩
  have e : ((do pure (.value (← Instr.alloc t true (.tuple #[])))) : Sem Next).run P w = ((do pure (.value (.pointer (some (← newRow t ⟨xs⟩))))) : Sem Next).run P w := by
    unfold Instr.alloc
    simp only [Sem.run_bind, run_zeroValue hz, Result.andThen_ok, newVar, hc]
    simp [newRow]
  rw [e]; exact h1

theorem box_ok {t : TypeId} {x x' v : Value} (h : osel (cellsO x) .no (fun xs => boxK xs st) = .ok v st') (hr : Rel σ st w) (hx : VR σ x x') :
    Does P (do pure (.value (← Instr.box t x'))) σ st w v st' := by
  obtain ⟨xs, hc, h⟩ := osel_ne h Re.no_ne
  obtain ⟨g1, g2⟩ := cellsO_ok hc hx
  obtain ⟨σ', w', v', h1, h2⟩ := boxK_ok (P := P) h hr g1 g2 t
  refine ⟨σ', w', v', ?_, h2⟩
  have e : ((do pure (.value (← Instr.box t x'))) : Sem Next).run P w = ((do pure (.value (.pointer (some (← newRow t ⟨x'.cells.toList⟩))))) : Sem Next).run P w := by
    simp [Instr.box, newVar, newRow]
  rw [e]; exact h1

theorem ptr_inv {a : Addr} {v : Value} (h : VR σ (.pointer (some a)) v) : ∃ k, σ a.block = some k ∧ v = .pointer (some ⟨k.b, k.o + a.off, none⟩) := by
  cases h with
  | ptr nm off k hk => exact ⟨k, hk, rfl⟩

theorem load_ok {t : TypeId} {x x' v : Value} (h : ptrK x .no (fun nm off => loadK (tyOf P t) nm off st) = .ok v st') (hr : Rel σ st w) (hx : VR σ x x') :
    st' = st ∧ Gives P (Instr.loadAt t x') σ w v := by
  obtain ⟨a, rfl, h⟩ := ptrK_ok h Re.no_ne
  obtain ⟨k, hk, rfl⟩ := ptr_inv hx
  obtain ⟨h1, v', h2, h3⟩ := loadK_ok h hr hk
  exact ⟨h1, v', by simp [Instr.loadAt, Instr.sureAddr, h2], h3⟩

theorem store_ok {t : TypeId} {x x' y y' v : Value} (h : ptrK x .no (fun nm off => storeK (tyOf P t) nm off y st) = .ok v st') (hr : Rel σ st w) (hx : VR σ x x') (hy : VR σ y y') :
    Does P (do Instr.storeAt t x' y'; pure .skip) σ st w v st' := by
  obtain ⟨a, rfl, h⟩ := ptrK_ok h Re.no_ne
  obtain ⟨k, hk, rfl⟩ := ptr_inv hx
  obtain ⟨rfl, w', h2, h3, h4⟩ := storeK_ok h hr hk hy
  exact ⟨σ, w', undef, .inr ⟨by simp [Instr.storeAt, Instr.sureAddr, h2], rfl⟩, .junk σ, h3, h4⟩
end
end Go.Proofs.YtieclenlldjfjaaGreat.Ev
