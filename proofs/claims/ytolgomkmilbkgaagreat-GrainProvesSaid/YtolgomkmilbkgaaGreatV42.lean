import Derived.Test.YtolgomkmilbkgaaGreatV39
import Derived.Deep.Slices
import Derived.Carry
import Derived.ChangeShapes
set_option autoImplicit false
set_option linter.unusedVariables false
set_option linter.unusedSimpArgs false
namespace Go.Proofs.YtolgomkmilbkgaaGreat.Ev
open Go
noncomputable section

/-! # Words that simp works out: stores, cells, rows that grow, checks, indices -/
@[simp] theorem oneV_int (k : IntKind) (n : Int) : oneV (.int k n) = true := rfl
@[simp] theorem oneV_bool (b : Bool) : oneV (.bool b) = true := rfl
@[simp] theorem oneV_string (s : ByteArray) : oneV (.string s) = true := rfl
@[simp] theorem oneV_slice (a : Option Addr) (n c : Nat) : oneV (.slice a n c) = true := rfl
@[simp] theorem oneV_ptr (a o : Nat) : oneV (ptr a o) = true := rfl
@[simp] theorem oneV_nilptr : oneV (.pointer none) = true := rfl
@[simp] theorem oneV_fsl (n : Nat) (cs : List Value) : oneV (fsl n cs) = true := rfl
@[simp] theorem oneV_fpt (n : Nat) (cs : List Value) : oneV (fpt n cs) = true := rfl
@[simp] theorem oneV_map (a : Option Nat) : oneV (.map a) = true := rfl
@[simp] theorem oneV_func (f : Fn) (as bs : Array Value) : oneV (.func f as bs) = true := rfl

def stO1 (off : Nat) (v : Value) (nm : Nat) (o : AObj) (st : St) : Re :=
  cellsK o .no fun d n es ex tr => match v with
    | .agg _ => .no
    | .tuple _ => .no
    | v => bsel (Nat.ble (Nat.succ off) n) (.ok junk (st.setObj nm (.cells d n es ex (Bt.set v (pathM d off) tr)))) .no
@[simp] theorem storeN_ptr1 (nm off : Nat) (v : Value) (st : St) : storeN .one (ptr nm off) v st = stO1 off v nm (st.obj nm) st := rfl
@[simp] theorem stO1_row (off : Nat) (v : Value) (nm : Nat) (xs : List Value) (es : Nat) (ex : Bool) (st : St) : stO1 off v nm (rowOf xs es ex) st = if off < xs.length ∧ oneV v = true then .ok junk (st.setObj nm (rowOf (xs.set off v) es ex)) else .no := by
  rw [rowOf_eq]
  have key : ∀ h : oneV v = true, bsel (Nat.ble (Nat.succ off) xs.length) (Re.ok junk (st.setObj nm (.cells (dep xs.length) xs.length es ex (Bt.set v (pathM (dep xs.length) off) (Bt.ofL (dep xs.length) xs))))) .no =
      if off < xs.length ∧ oneV v = true then .ok junk (st.setObj nm (rowOf (xs.set off v) es ex)) else .no := by
    intro hv
    by_cases h : off < xs.length
    · rw [ble_iff.2 (show Nat.succ off ≤ xs.length from h), set_ofL h (dep_le _), bsel_true, if_pos ⟨h, hv⟩, rowOf_eq, List.length_set]
    · have hb : Nat.ble (Nat.succ off) xs.length = false := by
        cases hb : Nat.ble (Nat.succ off) xs.length
        · rfl
        · exact absurd (ble_iff.1 hb) h
      rw [hb, if_neg (fun e => h e.1)]; rfl
  cases v <;> first | exact key rfl | exact (if_neg (by simp [oneV])).symm
def stOk (k off : Nat) (cs : List Value) (nm : Nat) (o : AObj) (st : St) : Re :=
  cellsK o .no fun d n es ex tr => bsel (Nat.beq (lenL cs) k) (bsel (Nat.ble (Nat.add off k) n) (.ok junk (st.setObj nm (.cells d n es ex (Bt.put tr (half d) off cs)))) .no) .no
@[simp] theorem storeN_ptrk (k nm off : Nat) (cs : List Value) (st : St) : storeN (.agg k) (ptr nm off) (.agg ⟨cs⟩) st = stOk k off cs nm (st.obj nm) st := rfl
@[simp] theorem stOk_row (k off : Nat) (cs : List Value) (nm : Nat) (xs : List Value) (es : Nat) (ex : Bool) (st : St) : stOk k off cs nm (rowOf xs es ex) st =
    if cs.length = k ∧ off + k ≤ xs.length then .ok junk (st.setObj nm (rowOf (xs.take off ++ (cs ++ xs.drop (off + k))) es ex)) else .no := by
  rw [rowOf_eq]
  show bsel (Nat.beq (lenL cs) k) (bsel (Nat.ble (off + k) xs.length) (Re.ok junk (st.setObj nm (.cells (dep xs.length) xs.length es ex (Bt.put (Bt.ofL (dep xs.length) xs) (half (dep xs.length)) off cs)))) .no) .no = _
  rw [lenL_eq]
  by_cases h : cs.length = k ∧ off + k ≤ xs.length
  · obtain ⟨rfl, h2⟩ := h
    have hl : (xs.take off ++ (cs ++ xs.drop (off + cs.length))).length = xs.length := by simp; omega
    rw [if_pos ⟨rfl, h2⟩, beq_iff.2 rfl, ble_iff.2 h2, put_ofL h2 (dep_le _), rowOf_eq, hl, ← List.append_assoc]; rfl
  · rw [if_neg h]
    by_cases h1 : cs.length = k
    · have hb : Nat.ble (off + k) xs.length = false := by
        cases hb : Nat.ble (off + k) xs.length
        · rfl
        · exact absurd ⟨h1, ble_iff.1 hb⟩ h
      rw [beq_iff.2 h1, hb]; rfl
    · have hb : Nat.beq cs.length k = false := by
        cases hb : Nat.beq cs.length k
        · rfl
        · exact absurd (beq_iff.1 hb) h1
      rw [hb]; rfl
def reV (r : Re) : Option Value := Re.rec none (fun v _ => some v) r
@[simp] theorem reV_ok (v : Value) (st : St) : reV (.ok v st) = some v := rfl
@[simp] theorem reV_no : reV .no = none := rfl
@[simp] theorem reV_reO (x : Option Value) (st : St) : reV (reO x st) = x := by cases x <;> rfl
@[simp] theorem cellR_ptr (ty : Ty) (nm o : Nat) (st : St) : cellR ty (ptr nm o) st = reV (ldO ty o (st.obj nm) st) := rfl
@[simp] theorem resE_one (v : Value) (st : St) : resE [some v] st = .ok v st := rfl
@[simp] theorem resE_two (u v : Value) (st : St) : resE [some u, some v] st = .ok (.tuple ⟨[u, v]⟩) st := rfl
@[simp] theorem resE_three (u v w : Value) (st : St) : resE [some u, some v, some w] st = .ok (.tuple ⟨[u, v, w]⟩) st := rfl
attribute [simp] boxK_eq

/-! Indices. -/
@[simp] theorem idxK_s0 (k : Nat) (x : Value) (kk : IntKind) : idxK (.sl k) x (.int kk 0) = idxS x 0 k := idxK_sl k x kk 0
@[simp] theorem idxK_s1 (k : Nat) (x : Value) (kk : IntKind) (i : Nat) : idxK (.sl k) x (.int kk ((i : Int) + 1)) = idxS x (i + 1) k := idxK_sl k x kk (i + 1)
@[simp] theorem idxK_a0 (n k : Nat) (x : Value) (kk : IntKind) : idxK (.arr n k) x (.int kk 0) = if 0 < n then movP x (0 * k) else none := idxK_arr n k x kk 0
@[simp] theorem idxK_a1 (n k : Nat) (x : Value) (kk : IntKind) : idxK (.arr n k) x (.int kk 1) = if 1 < n then movP x (1 * k) else none := idxK_arr n k x kk 1
theorem idxK_int {k : Nat} {x : Value} {kk : IntKind} {i : Int} (h : 0 ≤ i) : idxK (.sl k) x (.int kk i) = idxS x i.toNat k := by
  have e : i = (i.toNat : Int) := by omega
  rw [e, idxK_sl, show ((i.toNat : Int)).toNat = i.toNat by omega]
@[simp] theorem isBool_jk (b : Bool) : isBool junk b = false := rfl

/-! Checks. -/
@[simp] theorem belL_none (st : St) : belL [] st = true := rfl
@[simp] theorem belL_con (v : Value) (l : List Value) (st : St) : belL (v :: l) st = (belowV 6 st.next v && belL l st) := rfl
@[simp] theorem below_int (N : Nat) (k : IntKind) (n : Int) : belowV 6 N (.int k n) = true := rfl
@[simp] theorem below_bool (N : Nat) (b : Bool) : belowV 6 N (.bool b) = true := rfl
@[simp] theorem below_string (N : Nat) (b : ByteArray) : belowV 6 N (.string b) = true := rfl
@[simp] theorem below_func (N : Nat) (f : FuncId) : belowV 6 N (.func (.func f) #[] #[]) = true := rfl
@[simp] theorem below_nilslice (N : Nat) : belowV 6 N (.slice none 0 0) = true := rfl
theorem ble_dec (a b : Nat) : Nat.ble (Nat.succ a) b = decide (a < b) := by
  by_cases h : a < b
  · rw [ble_iff.2 (show Nat.succ a ≤ b from h)]; simp [h]
  · cases hb : Nat.ble (Nat.succ a) b
    · simp [h]
    · exact absurd (ble_iff.1 hb) h
@[simp] theorem below_ptr (N n o : Nat) : belowV 6 N (ptr n o) = decide (n < N) := ble_dec n N
@[simp] theorem below_slice (N b o n c : Nat) : belowV 6 N (.slice (some ⟨b, o, none⟩) n c) = decide (b < N) := ble_dec b N
@[simp] theorem nextLe_dec (st st' : St) : nextLe st st' = decide (st.next ≤ st'.next) := by
  show Nat.ble st.next st'.next = _
  by_cases h : st.next ≤ st'.next
  · rw [ble_iff.2 h]; simp [h]
  · cases hb : Nat.ble st.next st'.next
    · simp [h]
    · exact absurd (ble_iff.1 hb) h

/-! ## A list that one owns: nil, or a row of one's own, full. -/
def ov (nm n : Nat) : Value := if n = 0 then .slice none 0 0 else .slice (some ⟨nm, 0, none⟩) n n
@[simp] theorem ov_zero (nm : Nat) : ov nm 0 = .slice none 0 0 := rfl
theorem ov_pos {nm n : Nat} (h : 0 < n) : ov nm n = .slice (some ⟨nm, 0, none⟩) n n := by unfold ov; rw [if_neg (by omega)]
@[simp] theorem len_ov (nm n : Nat) (st : St) : lenK .sl (ov nm n) st = some (I64 n) := by
  unfold ov; split
  · rename_i h; subst h; rfl
  · rfl
@[simp] theorem oneV_ov (nm n : Nat) : oneV (ov nm n) = true := by unfold ov; split <;> rfl
@[simp] theorem idx_ov (nm n i k : Nat) : idxS (ov nm n) i k = if i < n then some (ptr nm (i * k)) else none := by
  unfold ov; split
  · rename_i h; subst h; simp [idxS]
  · rw [idxS_row, Nat.zero_add]
/-- What a state has of such a list. -/
structure Owns (st : St) (nm n k : Nat) (xs : List Value) : Prop where
  len : xs.length = n * k
  row : 0 < n → nm < st.next ∧ ∃ ex, st.obj nm = rowOf xs k ex
theorem Owns.nil (st : St) (nm k : Nat) : Owns st nm 0 k [] := ⟨by simp, fun h => by omega⟩
theorem Owns.same {st st' : St} {nm n k : Nat} {xs : List Value} (h : Owns st nm n k xs) (hn : st.next ≤ st'.next) (ho : 0 < n → st'.obj nm = st.obj nm) : Owns st' nm n k xs :=
  ⟨h.len, fun h0 => by obtain ⟨h1, ex, h2⟩ := h.row h0; exact ⟨by omega, ex, by rw [ho h0, h2]⟩⟩
theorem Owns.ld {st : St} {nm n k : Nat} {xs : List Value} (h : Owns st nm n k xs) (h0 : 0 < n) (st' : St) (ty : Ty) (off : Nat) : ldO ty off (st.obj nm) st' = ldO ty off (rowOf xs k true) st' := by
  obtain ⟨h1, ex, h2⟩ := h.row h0
  rw [h2, rowOf_eq, rowOf_eq]; rfl
/-- One more list behind it. -/
theorem Owns.append {st : St} {nm n m k : Nat} {xs new : List Value} {x : Value} (h : Owns st nm n k xs) (hl : lenA x = some m) (hm : 0 < m) (hb : n + m ≤ 1048576) (hL : listA st k x m = some new) (hnew : new.length = m * k) :
    ∃ st', appendN (.list k) (ov nm n) x st = .ok (ov st.next (n + m)) st' ∧ st'.next = st.next + 1 ∧ Owns st' st.next (n + m) k (xs ++ new) ∧ st'.obj st.next = rowOf (xs ++ new) k false ∧ ∀ b, b < st.next → (0 < n → b ≠ nm) → st'.obj b = st.obj b := by
  have hlen : (xs ++ new).length = (n + m) * k := by rw [List.length_append, h.len, hnew, Nat.add_mul]
  rcases Nat.eq_zero_or_pos n with h0 | h0
  · subst h0
    have hx : xs = [] := List.eq_nil_of_length_eq_zero (by rw [h.len]; omega)
    subst hx
    have hlt : st.next < (st.push (rowOf ([] ++ new) k false)).next := by rw [push_next]; omega
    refine ⟨st.push (rowOf ([] ++ new) k false), ?_, rfl, ⟨hlen, fun _ => ⟨hlt, false, by rw [push_obj, if_pos rfl]⟩⟩, by rw [push_obj, if_pos rfl], fun b hb _ => by rw [push_obj, if_neg (by omega)]⟩
    rw [ov_zero, append_nil hl hm (by omega) hL, ov_pos (by omega)]; simp
  · obtain ⟨h1, ex, h2⟩ := h.row h0
    have hlt : st.next < ((st.setObj nm .dead).push (rowOf (xs ++ new) k false)).next := by rw [push_next, set_next]; omega
    refine ⟨(st.setObj nm .dead).push (rowOf (xs ++ new) k false), ?_, by rw [push_next, set_next], ⟨hlen, fun _ => ⟨hlt, false, by rw [push_obj, set_next, if_pos rfl]⟩⟩, by rw [push_obj, set_next, if_pos rfl], fun b hb hne => by rw [push_obj, set_next, if_neg (by omega), set_obj, if_neg (hne h0)]⟩
    rw [ov_pos h0, append_grow h2 h0 h.len hl hm hb hL, ov_pos (by omega)]
theorem snap_own {keep : Bool} {st : St} {d nm n k : Nat} {xs : List Value} (h : Owns st nm n k xs) (hp : ∀ u, u ∈ xs → snapV keep st d u = some u) : keep = false → snapV keep st (d + 1) (ov nm n) = some (fsl n xs) := by
  intro hk
  subst hk
  rcases Nat.eq_zero_or_pos n with h0 | h0
  · subst h0
    have hx : xs = [] := List.eq_nil_of_length_eq_zero (by rw [h.len]; omega)
    subst hx; rfl
  · obtain ⟨h1, ex, ho⟩ := h.row h0
    rw [ov_pos h0]
    show bsel (Nat.beq n 0) (some voidS) (cellsK (st.obj nm) none fun dd m es _ tr =>
        bsel (Nat.ble (Nat.add 0 (Nat.mul n es)) m) (osel (mapO (snapV false st d) (Bt.sub tr (half dd) 0 (Nat.add 0 (Nat.mul n es)) [])) none fun cs => some (fsl n cs)) none) = _
    have hz : Nat.beq n 0 = false := by cases n with | zero => omega | succ n => rfl
    have hx := h.len
    rw [hz, ho, rowOf_eq]
    show bsel (Nat.ble (0 + n * k) xs.length) (osel (mapO (snapV false st d) (Bt.sub (Bt.ofL (dep xs.length) xs) (half (dep xs.length)) 0 (0 + n * k) [])) none fun cs => some (fsl n cs)) none = _
    rw [ble_iff.2 (by omega), sub_all (by omega), bsel_true, List.drop_zero, ← hx, List.take_length, mapO_same hp]; rfl
/-- A list of elements, as one appends it. -/
theorem buildSlice_row {k n : Nat} {z : List Value} {b : Bool} {ps : List (Nat × Value)} {l : List Value} {st : St} (h : fillL (fun i => some (Nat.mul i k, k)) (repL z n) ps = some l) (hn : n * k ≤ 4096) :
    buildSliceA (.mk k z b) n ps st = .ok (.slice (some ⟨st.next, 0, none⟩) n n) (st.push (rowOf l k true)) := by
  show bsel (Nat.ble (Nat.mul n k) 4096) (osel (fillL (fun i => some (Nat.mul i k, k)) (repL z n) ps) .no fun l => allK (rowOf l k true) (fun nm => .slice (some ⟨nm, 0, none⟩) n n) st) .no = _
  rw [ble_iff.2 (show Nat.mul n k ≤ 4096 from hn), h]
  rw [bsel_true, osel_some, allK_eq]
end
end Go.Proofs.YtolgomkmilbkgaaGreat.Ev

set_option autoImplicit false
set_option linter.unusedVariables false
set_option linter.unusedSimpArgs false
namespace Go.Proofs.YtolgomkmilbkgaaGreat.Ev
open Go

/-! # What is read as data, told without names, by its type -/
def Sh (P : Program) : Nat → TypeId → List Value → Prop
  | 0, _, _ => False
  | d + 1, t, us =>
    match P.underlying t with
    | some .bool => ∃ b, us = [.bool b]
    | some (.int k) => ∃ n, us = [.int k n] ∧ (Lit.int k n).wf = true
    | some .string => ∃ s : ByteArray, us = [.string s] ∧ s.size ≤ maxLen
    | some (.slice e) => ∃ n cs, us = [fsl n cs] ∧ n ≤ maxLen ∧ cs.length = n * P.cellsOf e ∧ ∀ i, i < n → Sh P d e ((cs.drop (i * P.cellsOf e)).take (P.cellsOf e))
    | some (.struct fs) => us.length = P.cellsOf t ∧ ∀ f, f ∈ fs.toList → Sh P d f.type ((us.drop f.offset).take (P.cellsOf f.type))
    | _ => False
def layB (P : Program) : List Field → Nat → Nat → Bool
  | [], off, tot => Nat.beq off tot
  | f :: fs, off, tot => Nat.beq f.offset off && layB P fs (off + P.cellsOf f.type) tot
def okT (P : Program) : Nat → TypeId → Bool
  | 0, _ => false
  | d + 1, t =>
    match P.underlying t with
    | some .bool => true
    | some (.int k) => true
    | some .string => true
    | some (.slice e) => decide (0 < P.cellsOf e) && okT P d e
    | some (.struct fs) => layB P fs.toList 0 (P.cellsOf t) && fs.toList.all fun f => okT P d f.type
    | _ => false

theorem VRL.single {σ : Nm} {u v : Value} (h : VR σ u v) : VRL σ [u] [v] := ⟨rfl, fun i a b ha hb => by
  cases i with
  | zero => simp at ha hb; subst ha; subst hb; exact h
  | succ i => simp at ha⟩

/-- Fields, one behind the other. -/
theorem glue {P : Program} {σ : Nm} {Q : Field → List Value → Prop} {cs : List Value} : ∀ {fs : List Field} {off : Nat}, layB P fs off cs.length = true →
    (∀ f, f ∈ fs → ∃ us, Q f us ∧ VRL σ us ((cs.drop f.offset).take (P.cellsOf f.type)) ∧ ∀ u, u ∈ us → u.oneCell' = true) →
    off ≤ cs.length ∧ ∃ vs, VRL σ vs (cs.drop off) ∧ (∀ u, u ∈ vs → u.oneCell' = true) ∧ ∀ f, f ∈ fs → off ≤ f.offset ∧ f.offset + P.cellsOf f.type ≤ cs.length ∧ Q f ((vs.drop (f.offset - off)).take (P.cellsOf f.type))
  | [], off, hl, _ => by
    have hl : Nat.beq off cs.length = true := hl
    have := beq_iff.1 hl
    subst this
    exact ⟨Nat.le_refl _, [], by rw [List.drop_length]; exact .nil, fun u hu => by simp at hu, fun f hf => by simp at hf⟩
  | f :: fs, off, hl, h => by
    have hl : (Nat.beq f.offset off && layB P fs (off + P.cellsOf f.type) cs.length) = true := hl
    rw [Bool.and_eq_true] at hl
    obtain ⟨h1, h2⟩ := hl
    have h1 := beq_iff.1 h1
    obtain ⟨g1, vs, g2, g3, g4⟩ := glue h2 fun g hg => h g (by simp [hg])
    obtain ⟨us, q1, q2, q3⟩ := h f (by simp)
    rw [h1] at q2
    have hlen : us.length = P.cellsOf f.type := by rw [q2.1, List.length_take, List.length_drop]; omega
    refine ⟨by omega, us ++ vs, ?_, ?_, ?_⟩
    · have e : cs.drop off = (cs.drop off).take (P.cellsOf f.type) ++ cs.drop (off + P.cellsOf f.type) := by
        rw [← List.drop_drop, List.take_append_drop]
      rw [e]
      exact q2.append g2
    · intro u hu
      rcases List.mem_append.1 hu with hu | hu
      · exact q3 u hu
      · exact g3 u hu
    · intro g hg
      rcases List.mem_cons.1 hg with rfl | hg
      · refine ⟨by omega, by omega, ?_⟩
        rw [h1, Nat.sub_self, List.drop_zero, ← hlen, List.take_left']
        · exact q1
        · rfl
      · obtain ⟨a1, a2, a3⟩ := g4 g hg
        refine ⟨by omega, a2, ?_⟩
        have e : (us ++ vs).drop (g.offset - off) = vs.drop (g.offset - (off + P.cellsOf f.type)) := by
          rw [List.drop_append, List.drop_eq_nil_of_le (by omega), List.nil_append, hlen]
          congr 1
          omega
        rw [e]
        exact a3

theorem piece {us vs : List Value} {i n c : Nat} (hi : i < n) (hu : us.length = n * c) : ((us ++ vs).drop (i * c)).take c = (us.drop (i * c)).take c := by
  have h : i * c + c ≤ n * c := by rw [← Nat.succ_mul]; exact Nat.mul_le_mul_right c hi
  rw [List.drop_append_of_le_length (by omega), List.take_append_of_le_length (by rw [List.length_drop]; omega)]
theorem piece_last {us vs : List Value} {n c : Nat} (hu : us.length = n * c) (hv : vs.length = c) : ((us ++ vs).drop (n * c)).take c = vs := by
  rw [← hu, List.drop_left, ← hv, List.take_length]

/-- What is read as data is told without names. -/
theorem opens {H : Type} {enc : TypeId × Value → H} {P : Program} {W : World} : ∀ (d : Nat) (t : TypeId), okT P d t = true → ∀ (fuel : Nat) (cs : List Value) (x : DataW H × List MemPlace),
    DataW.trod enc P W 0 (fun _ => true) true fuel t cs = some x → ∃ us, Sh P d t us ∧ VRL (.pur (fzAll W)) us cs ∧ ∀ u, u ∈ us → u.oneCell' = true
  | 0, t, ht, _, _, _, _ => by cases ht
  | d + 1, t, ht, fuel, cs, x, h => by
    unfold okT at ht
    unfold Sh
    split at ht
    · rename_i hu
      obtain ⟨b, rfl, _⟩ := DataW.trod_bool hu h
      exact ⟨_, ⟨b, rfl⟩, .single (.bool b), fun u hu => by simp at hu; subst hu; rfl⟩
    · rename_i k hu
      obtain ⟨n, rfl, _, hw⟩ := DataW.trod_int hu h
      exact ⟨_, ⟨n, rfl, hw⟩, .single (.int k n), fun u hu => by simp at hu; subst hu; rfl⟩
    · rename_i hu
      obtain ⟨s, rfl, _, hs⟩ := DataW.trod_string hu h
      exact ⟨_, ⟨s, rfl, hs⟩, .single (.string s), fun u hu => by simp at hu; subst hu; rfl⟩
    · rename_i e hu
      rw [Bool.and_eq_true] at ht
      have hc : 0 < P.cellsOf e := of_decide_eq_true ht.1
      rcases Go.Deep.open_slice hu h with ⟨rfl, _⟩ | ⟨a, len, cap, m, n, D, Pl, rfl, _, hl, hm, hmm, rfl, hx⟩
      · exact ⟨[fsl 0 []], ⟨0, [], rfl, Nat.zero_le _, by simp, fun i hi => by omega⟩, .single (.fnil none 0), fun u hu => by simp at hu; subst hu; rfl⟩
      · have hmm : m = cap := hmm
        subst hmm
        have key : ∀ q, q ≤ len → ∃ us ys : List Value, us.length = q * P.cellsOf e ∧ VRL (.pur (fzAll W)) us ys ∧ (∀ u, u ∈ us → u.oneCell' = true) ∧ (∀ k u, ys[k]? = some u → W.cell? (a.add k) = some u) ∧
            ∀ i, i < q → Sh P d e ((us.drop (i * P.cellsOf e)).take (P.cellsOf e)) := by
          intro q
          induction q with
          | zero => intro _; exact ⟨[], [], by simp, .nil, fun u hu => by simp at hu, fun k u hu => by simp at hu, fun i hi => by omega⟩
          | succ q ih =>
            intro hq
            obtain ⟨us, ys, g1, g2, g3, g4, g5⟩ := ih (by omega)
            obtain ⟨cs', c1, c2⟩ := hx q (by omega)
            obtain ⟨vs, s1, s2, s3⟩ := opens d e ht.2 _ _ _ c2
            obtain ⟨b1, b2, b3⟩ := World.cells?_some c1
            have hvl : vs.length = P.cellsOf e := s2.1.trans b2
            refine ⟨us ++ vs, ys ++ cs', by rw [List.length_append, g1, hvl, Nat.succ_mul], g2.append s2, ?_, ?_, ?_⟩
            · intro u hu
              rcases List.mem_append.1 hu with hu | hu
              · exact g3 u hu
              · exact s3 u hu
            · intro k u hk
              have hyl : ys.length = q * P.cellsOf e := g2.1.symm.trans g1
              by_cases hkl : k < ys.length
              · rw [List.getElem?_append_left hkl] at hk
                exact g4 k u hk
              · rw [List.getElem?_append_right (by omega)] at hk
                have hk2 : k - ys.length < P.cellsOf e := by rw [← b2]; exact (List.getElem?_eq_some_iff.1 hk).1
                have := b3 (k - ys.length) hk2
                rw [Go.Deep.add_add, ← hyl, show ys.length + (k - ys.length) = k by omega] at this
                rw [this, hk]
            · intro i hi
              rcases Nat.lt_succ_iff_lt_or_eq.1 hi with hi | rfl
              · rw [piece hi g1]; exact g5 i hi
              · rw [piece_last g1 hvl]; exact s1
        obtain ⟨us, ys, g1, g2, g3, g4, g5⟩ := key len (Nat.le_refl _)
        refine ⟨[fsl len us], ⟨len, us, rfl, by omega, g1, g5⟩, ?_, fun u hu => by simp at hu; subst hu; rfl⟩
        rcases Nat.eq_zero_or_pos len with h0 | h0
        · subst h0
          have : us = [] := List.eq_nil_of_length_eq_zero (by omega)
          subst this
          exact .single (.fnil (some a) m)
        · refine .single (vr_slice h0 hl ?_ g4 g3 g2)
          rw [← g2.1, g1]
          exact Nat.mul_pos h0 hc
    · rename_i fs hu
      rw [Bool.and_eq_true] at ht
      obtain ⟨xs, n, _, rfl, hl, hxl, hg⟩ := DataW.trod_struct hu h
      have hlay : layB P fs.toList 0 cs.length = true := by rw [hl]; exact ht.1
      obtain ⟨_, vs, g2, g3, g4⟩ := glue (Q := fun f us => Sh P d f.type us) (σ := .pur (fzAll W)) hlay fun f hf => by
        obtain ⟨i, hi, he⟩ := List.getElem_of_mem hf
        have hi2 : i < fs.size := by simpa using hi
        have hfi : fs[i]? = some f := by rw [← he]; simp [hi2]
        have := hg i f hfi
        rw [List.getElem?_eq_getElem (by omega)] at this
        obtain ⟨us, s1, s2, s3⟩ := opens d f.type (List.all_eq_true.1 ht.2 f hf) _ _ _ this
        exact ⟨us, s1, s2, s3⟩
      rw [List.drop_zero] at g2
      exact ⟨vs, ⟨g2.1.trans hl, fun f hf => by have := (g4 f hf).2.2; rwa [Nat.sub_zero] at this⟩, g2, g3⟩
    · cases ht

/-- A value of a type. -/
def ShV (P : Program) (d : Nat) (t : TypeId) (u : Value) : Prop :=
  match P.underlying t with
  | some (.struct _) => ∃ us, u = .agg ⟨us⟩ ∧ Sh P d t us
  | _ => Sh P d t [u]
theorem opensV {H : Type} {enc : TypeId × Value → H} {P : Program} {W : World} {base : Nat} {d : Nat} {t : TypeId} (ht : okT P d t = true) {v : Value} {x : DataW H} {p : List MemPlace} (hv : Value.okWide P W .any base t v)
    (h : DataW.Trod enc P W 0 (fun _ => true) true t v x p) : ∃ u, ShV P d t u ∧ VR (.pur (fzAll W)) u v := by
  obtain ⟨fuel, h⟩ := h
  obtain ⟨us, h1, h2, h3⟩ := opens d t ht fuel _ _ h
  unfold ShV
  cases d with
  | zero => cases ht
  | succ d =>
    unfold okT at ht
    have one : ∀ {u : Value}, us = [u] → v.cells.toList = [v] → VR (.pur (fzAll W)) u v := fun e1 e2 => by
      rw [e1, e2] at h2
      exact h2.2 0 _ _ rfl rfl
    split at ht
    · rename_i hu
      obtain ⟨b, rfl⟩ := Go.WideShapes.okWide_bool hu hv
      simp only [hu]
      have h1' := h1
      unfold Sh at h1'
      simp only [hu] at h1'
      obtain ⟨b', rfl⟩ := h1'
      exact ⟨_, h1, one rfl rfl⟩
    · rename_i k hu
      obtain ⟨n, rfl⟩ := Go.WideShapes.okWide_int hu hv
      simp only [hu]
      have h1' := h1
      unfold Sh at h1'
      simp only [hu] at h1'
      obtain ⟨n', rfl, _⟩ := h1'
      exact ⟨_, h1, one rfl rfl⟩
    · rename_i hu
      obtain ⟨s, rfl⟩ := Go.WideShapes.okWide_string hu hv
      simp only [hu]
      have h1' := h1
      unfold Sh at h1'
      simp only [hu] at h1'
      obtain ⟨s', rfl, _⟩ := h1'
      exact ⟨_, h1, one rfl rfl⟩
    · rename_i e hu
      obtain ⟨a, n, c, rfl⟩ := Go.WideShapes.okWide_slice hu hv
      simp only [hu]
      have h1' := h1
      unfold Sh at h1'
      simp only [hu] at h1'
      obtain ⟨n', cs', rfl, _⟩ := h1'
      exact ⟨_, h1, one rfl rfl⟩
    · rename_i fs hu
      obtain ⟨⟨l⟩, rfl, _⟩ := Go.WideShapes.okWide_struct hu hv
      simp only [hu]
      have h2 : VRL (.pur (fzAll W)) us l := h2
      exact ⟨_, ⟨us, rfl, h1⟩, .agg us l h3 h2.1 h2.2⟩
    · cases ht
end Go.Proofs.YtolgomkmilbkgaaGreat.Ev

set_option autoImplicit false
set_option linter.unusedVariables false
set_option linter.unusedSimpArgs false
namespace Go.Proofs.YtolgomkmilbkgaaGreat.Ev
open Go Go.ChangeShapes Go.RowKit

/-! # A law, over what is read as data -/
def ShAll (P : Program) (d : Nat) : List TypeId → List Value → Prop
  | [], us => us = []
  | t :: ts, us => ∃ u us', us = u :: us' ∧ ShV P d t u ∧ ShAll P d ts us'
def okAll (P : Program) (d : Nat) (ts : List TypeId) : Bool := ts.all fun t => okT P d t && (P.readableRec t && decide (t < P.types.size))

theorem opensAll {H : Type} {enc : TypeId × Value → H} {P : Program} {W : World} {base : Nat} {d : Nat} : ∀ {ts : List TypeId} {vs : List Value} {ds : List (DataW H)} {p : List MemPlace}, okAll P d ts = true →
    (∀ (j : Nat) t v, ts[j]? = some t → vs[j]? = some v → Value.okWide P W .any base t v) → DataW.TrodAll enc P W 0 (fun _ => true) true ts vs ds p → ∃ us, ShAll P d ts us ∧ VRL (.pur (fzAll W)) us vs
  | [], vs, ds, p, _, _, h => by
    obtain ⟨rfl, _, _⟩ := trodAll_nil h
    exact ⟨[], rfl, .nil⟩
  | t :: ts, vs, ds, p, ht, hv, h => by
    cases vs with
    | nil => cases ds <;> exact h.elim
    | cons v vs =>
      cases ds with
      | nil => exact h.elim
      | cons x ds =>
        obtain ⟨p1, p2, h1, h2, _⟩ := h
        have ht : ((okT P d t && (P.readableRec t && decide (t < P.types.size))) && okAll P d ts) = true := ht
        rw [Bool.and_eq_true, Bool.and_eq_true] at ht
        obtain ⟨u, g1, g2⟩ := opensV ht.1.1 (hv 0 t v rfl rfl) h1
        obtain ⟨us, g3, g4⟩ := opensAll ht.2 (fun j t' v' e1 e2 => hv (j + 1) t' v' (by simpa using e1) (by simpa using e2)) h2
        exact ⟨u :: us, ⟨u, us, rfl, g1, g3⟩, .cons g2 g4⟩
theorem staysAll {H : Type} {enc : TypeId × Value → H} {P : Program} (hl : laidOutB P = true) {W W' : World} (hb : Below W.heap.size W W') {d : Nat} : ∀ {ts : List TypeId} {vs : List Value} {ds : List (DataW H)} {p : List MemPlace}, okAll P d ts = true →
    DataW.TrodAll enc P W 0 (fun _ => true) true ts vs ds p → (∀ x, x ∈ p → x.block < W.heap.size) → DataW.TrodAll enc P W' 0 (fun b => decide (b < W.heap.size)) true ts vs ds p
  | [], vs, ds, p, _, h, _ => by cases vs <;> cases ds <;> exact h
  | t :: ts, vs, ds, p, ht, h, hlt => by
    cases vs with
    | nil => cases ds <;> exact h.elim
    | cons v vs =>
      cases ds with
      | nil => exact h.elim
      | cons x ds =>
        obtain ⟨p1, p2, h1, h2, rfl⟩ := h
        have ht : ((okT P d t && (P.readableRec t && decide (t < P.types.size))) && okAll P d ts) = true := ht
        rw [Bool.and_eq_true, Bool.and_eq_true, Bool.and_eq_true] at ht
        exact ⟨p1, p2, Below.trod hl ht.1.2.1 (of_decide_eq_true ht.1.2.2) h1 hb (fun x hx => hlt x (by simp [hx])), staysAll hl hb ht.2 h2 (fun x hx => hlt x (by simp [hx])), rfl⟩
theorem law_run {H : Type} {enc : TypeId × Value → H} {P : Program} {f : FuncId} {d : Nat} {W : World} {base : Nat} {ts : List TypeId} {vs : List Value} {ds : List (DataW H)} {p : List MemPlace}
    (hpur : ∀ us, ShAll P d ts us → PurOk P f us (.bool true)) (hl : laidOutB P = true) (hT : okAll P d ts = true)
    (hval : ∀ (j : Nat) t v, ts[j]? = some t → vs[j]? = some v → Value.okWide P W .any base t v) (hA : DataW.TrodAll enc P W 0 (fun _ => true) true ts vs ds p) (hlt : ∀ x, x ∈ p → x.block < W.heap.size) :
    Calls P f ⟨vs⟩ W fun e W' => e = .returned (.bool true) ∧ Below W.heap.size W W' ∧ DataW.TrodAll enc P W' 0 (fun b => decide (b < W.heap.size)) true ts vs ds p := by
  obtain ⟨us, h1, h2⟩ := opensAll hT hval hA
  refine (pur_calls (hpur us h1) h2).mono fun e W' ⟨g1, g2⟩ => ⟨g1, g2, staysAll hl g2 hT hA hlt⟩

/-- Elements, one behind the other. -/
theorem list_of {α : Type} {e : α → List Value} {Q : α → Prop} {c : Nat} (hc : 0 < c) : ∀ {n : Nat} {cs : List Value}, cs.length = n * c → (∀ i, i < n → ∃ a, Q a ∧ (cs.drop (i * c)).take c = e a) → ∃ l : List α, l.length = n ∧ cs = l.flatMap e ∧ ∀ a, a ∈ l → Q a
  | 0, cs, hl, _ => ⟨[], rfl, List.eq_nil_of_length_eq_zero (by omega), fun a ha => by simp at ha⟩
  | n + 1, cs, hl, h => by
    obtain ⟨a, hQ, ha⟩ := h 0 (by omega)
    rw [Nat.zero_mul, List.drop_zero] at ha
    have hl2 : (cs.drop c).length = n * c := by rw [List.length_drop, hl, Nat.succ_mul]; omega
    obtain ⟨l, h1, h2, h3⟩ := list_of hc hl2 fun i hi => by
      obtain ⟨b, q1, q2⟩ := h (i + 1) (by omega)
      refine ⟨b, q1, ?_⟩
      rw [List.drop_drop, show c + i * c = (i + 1) * c by rw [Nat.succ_mul, Nat.add_comm]]
      exact q2
    refine ⟨a :: l, by simp [h1], ?_, fun b hb => ?_⟩
    · rw [List.flatMap_cons, ← h2, ← ha, List.take_append_drop]
    · rcases List.mem_cons.1 hb with rfl | hb
      · exact hQ
      · exact h3 b hb
theorem list_of1 {α : Type} {e : α → Value} {Q : α → Prop} {n : Nat} {cs : List Value} (hl : cs.length = n * 1) (h : ∀ i, i < n → ∃ a, Q a ∧ (cs.drop (i * 1)).take 1 = [e a]) : ∃ l : List α, l.length = n ∧ cs = l.map e ∧ ∀ a, a ∈ l → Q a := by
  obtain ⟨l, h1, h2, h3⟩ := list_of (e := fun a => [e a]) (by omega) hl h
  refine ⟨l, h1, ?_, h3⟩
  rw [h2]
  clear h1 h2 h3
  induction l with
  | nil => rfl
  | cons a l ih => rw [List.flatMap_cons, List.map_cons, ih]; rfl
end Go.Proofs.YtolgomkmilbkgaaGreat.Ev

