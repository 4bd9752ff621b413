import Derived.Test.YtieclenlldjfjaaGreatE12
set_option autoImplicit false
set_option linter.unusedVariables false
set_option linter.unusedSimpArgs false
namespace Go.Proofs.YtieclenlldjfjaaGreat.Ev
open Go
section
variable {P : Program} {σ : Nm} {st st' : St} {w : World}

theorem wrap_small (n : Nat) (h : n < 9223372036854775808) : IntKind.i64.wrap (Int.ofNat n) = Int.ofNat n := by
  simp [IntKind.wrap, IntKind.bits, IntKind.signed]; omega

theorem smallB_ok {e : TypeId} (h : smallB P e = true) {i : TypeInfo} (hi : P.info? e = some i) : i.bytes ≤ 65536 := by
  have := ble_iff.1 h
  simpa [Program.bytesOf, hi] using this

theorem makeSlice_ok {t : TypeId} {l l' c c' v : Value} (h : makeSliceA (mkOf P t) l c st = .ok v st') (hr : Rel σ st w) (hl : VR σ l l') (hc : VR σ c c') :
    Does P (do pure (.value (← Instr.makeSlice t l' c'))) σ st w v st' := by
  unfold makeSliceA at h
  obtain ⟨k1, n, rfl, hh⟩ := natK_ok h Re.no_ne
  clear h
  obtain ⟨k2, m, rfl, h⟩ := natK_ok hh Re.no_ne
  clear hh
  have := int_inv hl; subst this
  have := int_inv hc; subst this
  cases hm : mkOf P t with
  | no => rw [hm] at h; cases h
  | mk k z b =>
    rw [hm] at h
    obtain ⟨e, hu, hk, hz, hzl, rfl⟩ := mkOf_ok hm
    obtain ⟨hb, h⟩ := bsel_ne h Re.no_ne
    obtain ⟨h1, h⟩ := bsel_ne h Re.no_ne
    obtain ⟨h2, h⟩ := bsel_ne h Re.no_ne
    have h1 : n ≤ m := ble_iff.1 h1
    have h2 : m ≤ 4096 := ble_iff.1 h2
    obtain ⟨zv, z1, z2, z3⟩ := zeroL_ok hz
    have hf := repL_flat z3 m
    obtain ⟨i, hi, hik⟩ := tySize_some hk
    have hby := smallB_ok hb hi
    obtain ⟨σ', w', v', g1, g2⟩ := newSlice_ok (P := P) (e := e) h hr (VRL.flat hf) (flat_one hf) h1
    refine ⟨σ', w', v', ?_, g2⟩
    have e' : ((do pure (.value (← Instr.makeSlice t (.int k1 (.ofNat n)) (.int k2 (.ofNat m))))) : Sem Next).run P w = ((do pure (.value (.slice (some (← newRow e ⟨repL z m⟩)) n m))) : Sem Next).run P w := by
      have hti : ∀ w, (typeInfo e).run P w = .ok i w := fun w => by simp [typeInfo, hi]
      have hq : (i.bytes : Int) * (m : Int) ≤ 268435456 := by
        have h : i.bytes * m ≤ 65536 * 4096 := Nat.mul_le_mul hby h2
        have h' : ((i.bytes * m : Nat) : Int) = (i.bytes : Int) * (m : Int) := by simp
        rw [← h']
        omega
      have e48 : (2 : Int) ^ 48 = 281474976710656 := by decide
      have d1 : decide ((m : Int) < 0) = false := decide_eq_false (by omega)
      have d2 : decide ((n : Int) < 0) = false := decide_eq_false (by omega)
      have d3 : decide ((n : Int) > (m : Int)) = false := decide_eq_false (by omega)
      have d4 : decide ((i.bytes : Int) * (m : Int) > 281474976710656) = false := decide_eq_false (by omega)
      have w1 : IntKind.i64.wrap (n : Int) = (n : Int) := wrap_small n (by omega)
      have w2 : IntKind.i64.wrap (m : Int) = (m : Int) := wrap_small m (by omega)
      unfold Instr.makeSlice
      simp only [Sem.run_bind, run_underlying hu, Result.andThen_ok, asInt, asIntOf, Sem.run_pure, hti, Int.ofNat_eq_natCast, w1, w2, e48, d1, d2, d3, d4, Bool.or_false, Bool.false_eq_true, if_false, run_askRoom, run_sizeOf' hk, Int.toNat_natCast]
      by_cases h0 : m * k = 0
      · have hr0 : repL z m = [] := List.eq_nil_of_length_eq_zero (by rw [repL_len, hzl]; exact h0)
        have e0 : ∀ f : Nat → Value, (Array.range 0).map f = ⟨[]⟩ := fun f => by simp
        simp only [if_pos h0, Sem.run_pure, Sem.run_bind, Result.andThen_ok, h0, e0, hr0, if_true]
        simp [newRow]
      · simp only [if_neg h0, Sem.run_pure, Sem.run_bind, Result.andThen_ok, run_zeroValue z1, z2]
        have hsz : (⟨z⟩ : Array Value).size = z.length := rfl
        rw [hsz, ← hzl, rep_eq]
        simp [newRow]
    rw [e']; exact g1

theorem nilK_ok {x x' v : Value} (h : nilK x st = .ok v st') (hx : VR σ x x') :
    st' = st ∧ v = x ∧ ((∃ a, x' = .pointer (some a)) ∨ (∃ f as bs, x' = .func (.func f) as bs) ∨ ∃ l as bs, x' = .func (.yield l) as bs) := by
  unfold nilK at h
  split at h
  · obtain ⟨rfl, rfl⟩ := Re.ok_inj h
    obtain ⟨k, hk, rfl⟩ := ptr_inv hx
    exact ⟨rfl, rfl, .inl ⟨_, rfl⟩⟩
  · obtain ⟨rfl, rfl⟩ := Re.ok_inj h
    cases hx
    exact ⟨rfl, rfl, .inr (.inl ⟨_, _, _, rfl⟩)⟩
  · obtain ⟨rfl, rfl⟩ := Re.ok_inj h
    cases hx
    exact ⟨rfl, rfl, .inr (.inr ⟨_, _, _, rfl⟩)⟩
  · cases h

/-! ## append, copy -/
theorem u8_flat (l : List UInt8) : (l.map fun b => Value.int .u8 b.toNat).all flat = true := by
  rw [List.all_eq_true]; intro x hx; obtain ⟨b, _, rfl⟩ := List.mem_map.1 hx; rfl

/-- What is read ahead of an append or a copy. -/
def Lists (P : Program) (σ : Nm) (w : World) (k n : Nat) (x' : Value) (xs : List Value) : Prop :=
  xs.length = n * k ∧ (∀ u, u ∈ xs → u.oneCell' = true) ∧ ∃ ys, VRL σ xs ys ∧ ∀ d, (Builtin.firstCells k n x').run P { w with drawn := d } = .ok ⟨ys⟩ { w with drawn := d }

theorem row_list {nm : Nat} {kk : Blk} (hkk : σ nm = some kk) {off m : Nat} {d n es : Nat} {ex : Bool} {tr : Bt} (ho : st.obj nm = .cells d n es ex tr) (hr : Rel σ st w) (hm : off + m ≤ n) :
    (Bt.sub tr (half d) off (off + m) []).length = m ∧ (∀ u, u ∈ Bt.sub tr (half d) off (off + m) [] → u.oneCell' = true) ∧
    ∃ ys, VRL σ (Bt.sub tr (half d) off (off + m) []) ys ∧ ∀ dr, (loadCells ⟨kk.b, kk.o + off, none⟩ m).run P { w with drawn := dr } = .ok ⟨ys⟩ { w with drawn := dr } := by
  obtain ⟨ha, h1, h2, h3, h4, h0, c, e, h5, h6, h7, h8⟩ := hr.at hkk ho (by simp)
  rw [Bt.sub_eq h3, List.append_nil, show off + m - off = m by omega]
  have hl := Bt.perf_len h3
  refine ⟨by simp; omega, fun u hu => ?_, (c.drop (kk.o + off)).take m, seg_rel h8 hm, fun dr => load_seg (w := { w with drawn := dr }) h5 (by omega)⟩
  obtain ⟨i, hi⟩ := List.getElem?_of_mem hu
  rw [List.getElem?_take] at hi
  split at hi
  · rw [List.getElem?_drop] at hi
    exact h0 u (List.mem_of_getElem? (i := off + i) (by rw [List.getElem?_take, if_pos (by omega)]; exact hi))
  · cases hi

theorem run_load0 (a : Addr) (w : World) : (loadCells a 0).run P w = .ok #[] w := by
  have := run_loadCells_list (P := P) w a [] (fun j v hj => by simp at hj)
  exact this

theorem listA_ok {k n : Nat} {x x' : Value} {xs : List Value} (h : listA st k x n = some xs) (hr : Rel σ st w) (hx : VR σ x x') : Lists P σ w k n x' xs := by
  unfold listA at h
  split at h
  · obtain ⟨hb, h⟩ := bsel_ne h (by simp)
    cases h
    have := beq_iff.1 hb; subst this
    cases hx
    exact ⟨by simp, by simp, [], .nil, fun d => by simp [Builtin.firstCells]⟩
  · rename_i a n' c'
    cases hb : Nat.beq n 0 with
    | true =>
      rw [hb] at h; cases h
      have := beq_iff.1 hb; subst this
      refine ⟨by simp, by simp, [], .nil, fun d => ?_⟩
      generalize hv : Value.slice (some a) n' c' = u at hx
      cases hx with
      | slice => simp [Builtin.firstCells, run_load0]
      | void => simp [Builtin.firstCells, run_load0]
      | _ => cases hv
    | false =>
      rw [hb] at h
      obtain ⟨d, m, es, ex, tr, ho, h⟩ := cellsK_ok h (by simp)
      obtain ⟨hm, h⟩ := bsel_ne h (by simp)
      cases h
      have hm : a.off + n * k ≤ m := ble_iff.1 hm
      generalize hv : Value.slice (some a) n' c' = u at hx
      cases hx with
      | slice nm off n2 c2 c3 kk hkk h1 h2 h3 =>
        cases hv
        obtain ⟨g1, g2, ys, g3, g4⟩ := row_list (P := P) hkk ho hr hm
        exact ⟨g1, g2, ys, g3, fun dr => by simp only [Builtin.firstCells]; exact g4 dr⟩
      | void a' c2 =>
        simp only [voidS, Value.slice.injEq, Option.some.injEq] at hv
        obtain ⟨rfl, _⟩ := hv
        rw [St.obj_eq, objAt_big (by simp [voidNm])] at ho
        cases ho
      | _ => cases hv
  · rename_i s
    obtain ⟨hb, h⟩ := bsel_ne h (by simp)
    obtain ⟨hb2, h⟩ := bsel_ne h (by simp)
    cases h
    have := beq_iff.1 hb; subst this
    have hb2 := ble_iff.1 hb2
    have := string_inv hx; subst this
    have hf := u8_flat (s.extract 0 n).data.toList
    refine ⟨?_, flat_one hf, _, VRL.flat hf, fun d => ?_⟩
    · rw [List.length_map, Array.length_toList]
      show (s.extract 0 n).size = n * 1
      simp; omega
    · simp only [Builtin.firstCells, Sem.run_pure]
      congr 1
      apply Array.ext'
      simp
  · cases h

theorem lenA_ok {x x' : Value} {n : Nat} (h : lenA x = some n) (hx : VR σ x x') (w : World) : (Builtin.lenOf x').run P w = .ok n w := by
  cases hx <;> first | (cases h; rfl) | cases h

/-- What is appended: a list, or so many zeros. -/
def App (P : Program) (e : TypeId) (k : Nat) (tx : TypeId) (x : Value) (n : Nat) (ys : List Value) (w : World) : Prop :=
  (((∃ e', P.underlying tx = some (.slice e')) ∨ P.underlying tx = some .string) ∧ (∀ w', (Builtin.lenOf x).run P w' = .ok n w') ∧ (∀ d, (Builtin.firstCells k n x).run P { w with drawn := d } = .ok ⟨ys⟩ { w with drawn := d })) ∨
  (∃ kk k2 z zv, P.underlying tx = some (.int kk) ∧ x = .int k2 (.ofNat n) ∧ n ≤ 65536 ∧ zeroOf P e = some zv ∧ zv.cells = ⟨z⟩ ∧ z.length = k ∧ ys = repL z n)

theorem app_room {t tx ty e : TypeId} {i : TypeInfo} (ht : P.underlying t = some (.slice e)) (hi : P.info? e = some i) (hby : i.bytes ≤ 65536) {k sLen sCap n : Nat} (hk : i.size = k) {a : Addr} {x : Value} {ys : List Value} {w' : World}
    (hs : App P e k tx x n ys w) (hroom : sLen + n ≤ sCap) (hst : (storeCells (a.add (sLen * k)) ys).run P w = .ok () w') :
    (Builtin.append_ #[t, tx] ty #[.slice (some a) sLen sCap, x]).run P w = .ok (.slice (some a) (sLen + n) sCap) w' := by
  subst hk
  rcases hs with ⟨hk, hlen, hcells⟩ | ⟨kk, k2, z, zv, hx, rfl, hn, hz, hzc, hzl, rfl⟩
  · have hc0 := hcells w.drawn
    have hw : ({ w with drawn := w.drawn } : World) = w := rfl
    rw [hw] at hc0
    rcases hk with ⟨e', hk⟩ | hk <;> simp [Builtin.append_, run_underlying ht, run_underlying hk, sizeOf, typeInfo, hi, hlen, hroom, hc0, hst]
  · have hb : ¬ (281474976710656 < (n : Int) * (i.bytes : Int)) := by
      have h1 : n * i.bytes ≤ 65536 * 65536 := Nat.mul_le_mul hn hby
      have h2 : ((n * i.bytes : Nat) : Int) ≤ ((65536 * 65536 : Nat) : Int) := by exact_mod_cast h1
      have h3 : ((n * i.bytes : Nat) : Int) = (n : Int) * (i.bytes : Int) := by simp
      omega
    have hw := wrap_small n (by omega)
    have hw' : IntKind.i64.wrap (n : Int) = (n : Int) := hw
    have hzz : ∀ w, (zeroValue e).run P w = .ok zv w := run_zeroValue hz
    have hrep : Builtin.zeroCells ⟨z⟩ n = ⟨repL z n⟩ := by unfold Builtin.zeroCells; exact rep_eq z n
    have hng : ¬ ((n : Int) < 0) := by omega
    by_cases h0 : n * i.size = 0
    · have hr0 : repL z n = [] := List.eq_nil_of_length_eq_zero (by rw [repL_len, hzl]; exact h0)
      rw [hr0] at hst
      simp [Builtin.append_, run_underlying ht, run_underlying hx, sizeOf, typeInfo, hi, asInt, asIntOf, hw', hng, hb, hroom, h0, hst]
    · simp [Builtin.append_, run_underlying ht, run_underlying hx, sizeOf, typeInfo, hi, asInt, asIntOf, hw', hng, hb, hroom, h0, hst, hzz, hzc, hrep]

theorem app_grow {t tx ty e : TypeId} {i : TypeInfo} (ht : P.underlying t = some (.slice e)) (hi : P.info? e = some i) (hby : i.bytes ≤ 65536) {k sLen sCap n : Nat} (hk : i.size = k) {base : Option Addr} {x : Value} {olds ys z : List Value} {zv : Value}
    (hz : zeroOf P e = some zv) (hzc : zv.cells = ⟨z⟩) (hs : App P e k tx x n ys w) (hold : (Builtin.firstCells k sLen (.slice base sLen sCap)).run P w.drew = .ok ⟨olds⟩ w.drew)
    (hg : sCap < sLen + n) (hneed : sLen + n ≤ 1048576) :
    (Builtin.append_ #[t, tx] ty #[.slice base sLen sCap, x]).run P w =
      .ok (.slice (some ⟨w.heap.size, 0, none⟩) (sLen + n) (grownCap w (sLen + n) sCap e)) (w.drew.alloc (.cells ⟨olds ++ ys ++ repL z (grownCap w (sLen + n) sCap e - (sLen + n))⟩ e)) := by
  subst hk
  have hn : ¬ (sLen + n ≤ sCap) := by omega
  have h63' : ¬ (9223372036854775807 < ((sLen : Int) + (n : Int))) := by omega
  have hfit : Builtin.nextslicecap (sLen + n) sCap * i.bytes ≤ 281474976710656 := growslice_fits hg (Nat.le_trans (Nat.mul_le_mul hneed hby) (by decide))
  have h48' : ¬ (281474976710656 < Builtin.nextslicecap (sLen + n) sCap * i.bytes) := by omega
  have hrep : ∀ m, Builtin.zeroCells ⟨z⟩ m = ⟨repL z m⟩ := fun m => by unfold Builtin.zeroCells; exact rep_eq z m
  have hzz : ∀ w, (zeroValue e).run P w = .ok zv w := run_zeroValue hz
  rcases hs with ⟨hk, hlen, hcells⟩ | ⟨kk, k2, z', zv', hx, rfl, hn', hz', hzc', hzl, rfl⟩
  · have hcd : (Builtin.firstCells i.size n x).run P w.drew = .ok ⟨ys⟩ w.drew := hcells _
    rcases hk with ⟨e', hk⟩ | hk <;>
      simp [Builtin.append_, run_underlying ht, run_underlying hk, sizeOf, typeInfo, hi, hlen, hn, h63', h48', Question.forced, hcd, hold, newRow, grownCap, hzz, hzc, hrep]
  · rw [hz] at hz'; cases hz'
    rw [hzc] at hzc'
    have : z = z' := by simpa using hzc'
    subst this
    have hb : ¬ (281474976710656 < (n : Int) * (i.bytes : Int)) := by
      have h1 : n * i.bytes ≤ 65536 * 65536 := Nat.mul_le_mul hn' hby
      have h2 : ((n * i.bytes : Nat) : Int) ≤ ((65536 * 65536 : Nat) : Int) := by exact_mod_cast h1
      have h3 : ((n * i.bytes : Nat) : Int) = (n : Int) * (i.bytes : Int) := by simp
      omega
    have hw' : IntKind.i64.wrap (n : Int) = (n : Int) := wrap_small n (by omega)
    have hng : ¬ ((n : Int) < 0) := by omega
    by_cases h0 : n * i.size = 0
    · have hr0 : repL z n = [] := List.eq_nil_of_length_eq_zero (by rw [repL_len, hzl]; exact h0)
      simp [Builtin.append_, run_underlying ht, run_underlying hx, sizeOf, typeInfo, hi, asInt, asIntOf, hw', hng, hb, hn, h63', h48', Question.forced, h0, hold, newRow, grownCap, hzz, hzc, hrep, hr0]
    · simp [Builtin.append_, run_underlying ht, run_underlying hx, sizeOf, typeInfo, hi, asInt, asIntOf, hw', hng, hb, hn, h63', h48', Question.forced, h0, hold, newRow, grownCap, hzz, hzc, hrep]
end
end Go.Proofs.YtieclenlldjfjaaGreat.Ev
