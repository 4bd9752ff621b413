import Derived.Test.YteoemmgelalcaaaGreatV39
import Derived.Test.YteoemmgelalcaaaGreatF
import Derived.Test.YteoemmgelalcaaaGreatProg
import Derived.WalkKit
import Derived.WalkSpells
import Derived.WalkLawsBesides
import Derived.Deep.QuietTactic
import Derived.BigQuiet
import Derived.Lib.Hide
import Derived.IntWalk
import Derived.Deep.RegionHeld3
import Derived.Deep.DeepCutAuto
import Derived.Maps.AppendAt
import Derived.OwnWalk
import Derived.Deep.OwnRows
import Derived.Laws.IdiomStrings
set_option autoImplicit false
set_option maxRecDepth 100000
set_option linter.unusedSimpArgs false
set_option linter.unusedVariables false
namespace Go.Proofs.YteoemmgelalcaaaGreat
open Go.Proofs.YteoemmgelalcaaaGreat.Ev

/-! # Words for texts (to V36, V37) -/
@[simp] theorem idxK_sl0 (k : Nat) (x : Value) (kk : IntKind) : idxK (.sl k) x (.int kk 0) = idxS x 0 k := idxK_sl k x kk 0
@[simp] theorem idxK_sl1 (k : Nat) (x : Value) (kk : IntKind) (i : Nat) : idxK (.sl k) x (.int kk ((i : Int) + 1)) = idxS x (i + 1) k := idxK_sl k x kk (i + 1)
@[simp] theorem idxK_arr0 (n k : Nat) (x : Value) (kk : IntKind) : idxK (.arr n k) x (.int kk 0) = if 0 < n then movP x (0 * k) else none := idxK_arr n k x kk 0
@[simp] theorem idxK_arr1 (n k : Nat) (x : Value) (kk : IntKind) : idxK (.arr n k) x (.int kk 1) = if 1 < n then movP x (1 * k) else none := idxK_arr n k x kk 1
@[simp] theorem isBool_junk (b : Bool) : isBool junk b = false := rfl
@[simp] theorem belL_nil (st : St) : belL [] st = true := rfl
@[simp] theorem belL_cons (v : Value) (l : List Value) (st : St) : belL (v :: l) st = (belowV 6 st.next v && belL l st) := rfl
@[simp] theorem bel_int (N : Nat) (k : IntKind) (n : Int) : belowV 6 N (.int k n) = true := rfl
@[simp] theorem bel_bool (N : Nat) (b : Bool) : belowV 6 N (.bool b) = true := rfl
@[simp] theorem bel_func (N : Nat) (f : FuncId) : belowV 6 N (.func (.func f) #[] #[]) = true := rfl
@[simp] theorem bel_ptr (N n o : Nat) : belowV 6 N (ptr n o) = decide (n < N) := by
  show Nat.ble (Nat.succ n) N = _
  by_cases h : n < N
  · rw [ble_iff.2 (show Nat.succ n ≤ N from h)]; simp [h]
  · cases hb : Nat.ble (Nat.succ n) N
    · simp [h]
    · exact absurd (ble_iff.1 hb) h
@[simp] theorem nextLe_eq (st st' : St) : nextLe st st' = decide (st.next ≤ st'.next) := by
  show Nat.ble st.next st'.next = _
  by_cases h : st.next ≤ st'.next
  · rw [ble_iff.2 h]; simp [h]
  · cases hb : Nat.ble st.next st'.next
    · simp [h]
    · exact absurd (ble_iff.1 hb) h
theorem getD_of {l : List Int} {i : Nat} (h : i < l.length) : l.getD i 0 = l[i] := by simp [List.getD, h]

/-! # Values -/
noncomputable def encI (l : List Int) : Value := fsl l.length (l.map (Value.int .i64))
noncomputable def encB (l : List Bool) : Value := fsl l.length (l.map Value.bool)
theorem encI_pv (l : List Int) : Pv 1 (encI l) := .fsl fun u hu => by obtain ⟨n, _, rfl⟩ := List.mem_map.1 hu; exact .int _ n
theorem encB_pv (l : List Bool) : Pv 1 (encB l) := .fsl fun u hu => by obtain ⟨n, _, rfl⟩ := List.mem_map.1 hu; exact .bool n
theorem map_inj {α : Type} {f : α → Value} (hf : ∀ a b, f a = f b → a = b) {l l' : List α} (h : l.map f = l'.map f) : l = l' := by
  induction l generalizing l' with
  | nil => cases l' with | nil => rfl | cons a l' => simp at h
  | cons a l ih => cases l' with
    | nil => simp at h
    | cons b l' =>
      simp only [List.map_cons, List.cons.injEq] at h
      rw [hf _ _ h.1, ih h.2]
theorem encI_inj {l l' : List Int} (h : encI l = encI l') : l = l' := map_inj (fun a b h => by simpa using h) (fsl_inj h).2
theorem encB_inj {l l' : List Bool} (h : encB l = encB l') : l = l' := map_inj (fun a b h => by simpa using h) (fsl_inj h).2
@[simp] theorem len_I (l : List Int) (st : St) : lenK .sl (encI l) st = some (I64 l.length) := rfl
@[simp] theorem len_B (l : List Bool) (st : St) : lenK .sl (encB l) st = some (I64 l.length) := rfl
noncomputable def pI (l : List Int) (i : Nat) : Value := fpt i (l.map (Value.int .i64))
noncomputable def pB (l : List Bool) (i : Nat) : Value := fpt i (l.map Value.bool)
@[simp high] theorem idx_I (l : List Int) (i : Nat) : idxS (encI l) i 1 = if i < l.length then some (pI l i) else none := by
  rw [encI, idxS_fsl, Nat.mul_one]; rfl
@[simp high] theorem idx_B (l : List Bool) (i : Nat) : idxS (encB l) i 1 = if i < l.length then some (pB l i) else none := by
  rw [encB, idxS_fsl, Nat.mul_one]; rfl
@[simp high] theorem ld_I (l : List Int) (i : Nat) (st : St) : loadA .one (pI l i) st = reO (l[i]?.map (Value.int .i64)) st := by
  rw [pI, loadA_fpt, partK_one, List.getElem?_map]
@[simp high] theorem ld_B (l : List Bool) (i : Nat) (st : St) : loadA .one (pB l i) st = reO (l[i]?.map Value.bool) st := by
  rw [pB, loadA_fpt, partK_one, List.getElem?_map]
theorem pI_pv (l : List Int) (i : Nat) : Pv 1 (pI l i) := .fpt fun u hu => by obtain ⟨n, _, rfl⟩ := List.mem_map.1 hu; exact .int _ n
theorem pB_pv (l : List Bool) (i : Nat) : Pv 1 (pB l i) := .fpt fun u hu => by obtain ⟨n, _, rfl⟩ := List.mem_map.1 hu; exact .bool n
@[simp high] theorem bel_pI (N : Nat) (l : List Int) (i : Nat) : belowV 6 N (pI l i) = true := (pI_pv l i).below _ _ (by omega)
@[simp high] theorem bel_pB (N : Nat) (l : List Bool) (i : Nat) : belowV 6 N (pB l i) = true := (pB_pv l i).below _ _ (by omega)
@[simp high] theorem bel_I (N : Nat) (l : List Int) : belowV 6 N (encI l) = true := (encI_pv l).below _ _ (by omega)
@[simp high] theorem bel_B (N : Nat) (l : List Bool) : belowV 6 N (encB l) = true := (encB_pv l).below _ _ (by omega)
theorem pv1 {a : Value} (ha : Pv 8 a) : ∀ u, u ∈ [a] → Pv 8 u := by
  intro u hu
  simp only [List.mem_cons, List.not_mem_nil, or_false] at hu
  subst hu; exact ha
theorem pv2 {a b : Value} (ha : Pv 8 a) (hb : Pv 8 b) : ∀ u, u ∈ [a, b] → Pv 8 u := by
  intro u hu
  simp only [List.mem_cons, List.not_mem_nil, or_false] at hu
  rcases hu with rfl | rfl
  · exact ha
  · exact hb
theorem pv3 {a b c : Value} (ha : Pv 8 a) (hb : Pv 8 b) (hc : Pv 8 c) : ∀ u, u ∈ [a, b, c] → Pv 8 u := by
  intro u hu
  simp only [List.mem_cons, List.not_mem_nil, or_false] at hu
  rcases hu with rfl | rfl | rfl
  · exact ha
  · exact hb
  · exact hc
theorem pI0 (n : Int) : Pv 8 (I64 n) := (Pv.int _ _).mono (by omega)
theorem pII (l : List Int) : Pv 8 (encI l) := (encI_pv l).mono (by omega)
theorem pBB (l : List Bool) : Pv 8 (encB l) := (encB_pv l).mono (by omega)

/-! # isFrom 22, in 28 -/
def isF (a n b : Int) : Bool := decide (a ≤ n) && decide (n ≤ b)
theorem p22 (a n b : Int) : PurOk Tryz.prog 22 [I64 a, I64 n, I64 b] (.bool (isF a n b)) := by
  refine pur_wp (cs := []) (isP := isP) (keep := false) mixed ?_
  rw [e22]
  simp +contextual [isF, bindP_cases, pickK_cases, -Int.not_le, -Int.not_lt]
theorem p28 (n a b : Int) : PurOk Tryz.prog 28 [I64 n, I64 a, I64 b] (.bool (isF a n b)) := by
  refine pur_wp (cs := []) (isP := isP) (keep := false) mixed ?_
  rw [e28]
  simp +contextual [isF, bindP_cases, pickK_cases, -Int.not_le, -Int.not_lt]
noncomputable def c22 : Con Tryz.prog := mkCon 22 false (fun x : Int × Int × Int => [I64 x.1, I64 x.2.1, I64 x.2.2]) (fun _ => True) (fun x => .bool (isF x.1 x.2.1 x.2.2)) (fun ⟨_, _, _⟩ ⟨_, _, _⟩ h => by simpa using h) (fun x _ => p22 x.1 x.2.1 x.2.2)
theorem k22 {cs : List (Con Tryz.prog)} (h : cs.find? (fun c => c.f == 22) = some c22) (a n b : Int) (st : St) : pcall (orcL cs) 22 [I64 a, I64 n, I64 b] st = some (.bool (isF a n b)) :=
  pcall_mk h (a, n, b) trivial (pv3 (pI0 _) (pI0 _) (pI0 _)) st
noncomputable def c28 : Con Tryz.prog := mkCon 28 false (fun x : Int × Int × Int => [I64 x.1, I64 x.2.1, I64 x.2.2]) (fun _ => True) (fun x => .bool (isF x.2.1 x.1 x.2.2)) (fun ⟨_, _, _⟩ ⟨_, _, _⟩ h => by simpa using h) (fun x _ => p28 x.1 x.2.1 x.2.2)
theorem k28 {cs : List (Con Tryz.prog)} (h : cs.find? (fun c => c.f == 28) = some c28) (n a b : Int) (st : St) : pcall (orcL cs) 28 [I64 n, I64 a, I64 b] st = some (.bool (isF a n b)) :=
  pcall_mk h (n, a, b) trivial (pv3 (pI0 _) (pI0 _) (pI0 _)) st

/-! # Places: rising, from 0 to n - 1 -/
def okA (n : Int) (l : List Int) (i : Nat) : Bool := isF 0 (l.getD i 0) (n - 1) && (i == 0 || decide (l.getD (i - 1) 0 < l.getD i 0))
def okP (n : Int) (l : List Int) : Bool := (List.range l.length).all (okA n l)
theorem all_range_succ {p : Nat → Bool} {i : Nat} (h : (List.range i).all p = true) (hx : p i = true) : (List.range (i + 1)).all p = true := by
  rw [List.range_succ, List.all_append, h]; simp [hx]
theorem all_range_false {p : Nat → Bool} {n i : Nat} (hi : i < n) (hx : p i = false) : (List.range n).all p = false := by
  rw [Bool.eq_false_iff]
  intro h
  have := List.all_eq_true.1 h i (List.mem_range.2 hi)
  rw [hx] at this; cases this
end Go.Proofs.YteoemmgelalcaaaGreat

set_option autoImplicit false
set_option maxRecDepth 100000
set_option linter.unusedSimpArgs false
set_option linter.unusedVariables false
namespace Go.Proofs.YteoemmgelalcaaaGreat
open Go.Proofs.YteoemmgelalcaaaGreat.Ev
theorem p29 (n : Int) (l : List Int) (hn : 0 ≤ n ∧ n ≤ 1000) (hl : l.length ≤ 1000) : PurOk Tryz.prog 29 [I64 n, encI l] (.bool (okP n l)) := by
  refine pur_wp (cs := [c28]) (isP := isP) (keep := false) mixed ?_
  rw [e29]
  refine loop_rule (isP := isP) (fun m a st => ∃ (i : Nat) (t : Regs), a = ⟨36, t, []⟩ ∧ st = S0 ∧ gt t 0 = I64 n ∧ gt t 1 = encI l ∧ gt t 5 = I64 i ∧
    i ≤ l.length ∧ m = l.length - i ∧ (List.range i).all (okA n l) = true) ?_ l.length _ _ ⟨0, _, rfl, rfl, by simp, by simp, by simp, by simp, by simp, by simp⟩
  rintro m a st ⟨i, t, rfl, rfl, g0, g1, g5, hi, rfl, hall⟩
  have K28 := @k28 [c28] rfl
  rw [e29_b0, g0, g1, g5]
  have hn1 : IntKind.i64.wrap (n - 1) = n - 1 := wrap64 (by omega)
  by_cases hlt : i < l.length
  · have hw : IntKind.i64.wrap ((i : Int) + 1) = (i : Int) + 1 := wrap64 (by omega)
    have hi2 : (i : Int) < l.length := by omega
    cases hx : isF 0 l[i] (n - 1) with
    | false =>
      have hok : okA n l i = false := by simp [okA, hlt, hx]
      have := all_range_false hlt hok
      simp [K28, hlt, hi2, hw, hn1, hx, o29, okP, this]
    | true =>
      cases i with
      | zero =>
        have hok : okA n l 0 = true := by simp [okA, hlt, hx]
        simp [K28, hlt, hi2, hw, hn1, hx, o29, -Nat.not_le, -Nat.not_lt]
        exact ⟨l.length - 1, by omega, g0, g1, 1, wrap64 (by omega), by omega, rfl, by simpa using all_range_succ hall hok⟩
      | succ i =>
        have hw1 : IntKind.i64.wrap (i : Int) = (i : Int) := wrap64 (by omega)
        have hw2 : IntKind.i64.wrap ((i : Int) + 1 + 1) = (i : Int) + 1 + 1 := wrap64 (by omega)
        have hlt' : i < l.length := by omega
        have hpos : (0 : Int) < (i : Int) + 1 := by omega
        by_cases hle : l[i + 1] ≤ l[i]
        · have hok : okA n l (i + 1) = false := by simp [okA, hlt, hlt', hle, hx, getD_of hlt, getD_of hlt']
          have := all_range_false hlt hok
          push_cast at hi2 ⊢
          simp [K28, hlt, hlt', hi2, hw, hw1, hw2, hn1, hx, hpos, hle, o29, okP, this]
        · have hok : okA n l (i + 1) = true := by simp [okA, hlt, hlt', hx, getD_of hlt, getD_of hlt']; omega
          push_cast at hi2 ⊢
          simp [K28, hlt, hlt', hi2, hw, hw1, hw2, hn1, hx, hpos, hle, o29, -Nat.not_le, -Nat.not_lt, -Int.not_le, -Int.not_lt]
          exact ⟨l.length - (i + 2), by omega, g0, g1, i + 2, by omega, by omega, rfl, by simpa using all_range_succ hall hok⟩
  · have hi2 : ¬ (i : Int) < l.length := by omega
    obtain rfl : i = l.length := by omega
    simp [hi2, e29_r0, o29]
    exact hall
end Go.Proofs.YteoemmgelalcaaaGreat

set_option autoImplicit false
set_option maxRecDepth 100000
set_option linter.unusedSimpArgs false
set_option linter.unusedVariables false
namespace Go.Proofs.YteoemmgelalcaaaGreat.Ev
open Go
theorem callP_eq {P : Program} {O : Orc} {k : FuncId} {as1 bs1 args : List Value} {st : St} {v : Value} (hf : feB P k = true) (h : pcall O k (as1 ++ args ++ bs1) st = some v) (F : Value → St → Prop) :
    CallP P O (.func (.func k) ⟨as1⟩ ⟨bs1⟩) args st F = F v st := by
  have key : ∀ K, callV P (evCode P O (K + 1)) (.func (.func k) ⟨as1⟩ ⟨bs1⟩) args st = .ok v st := fun K => by
    have h1 := callF_known (P := P) h K
    show (Fe.rec (motive := fun _ => Re) Re.no (fun _ _ _ => callF P (evCode P O (K + 1)) k (as1 ++ args ++ bs1) st) (feOf P k) : Re) = _
    unfold feB at hf
    cases hfe : feOf P k with
    | no => rw [hfe] at hf; cases hf
    | mk a b c => exact h1
  apply propext
  constructor
  · rintro ⟨K, v', st', h1, h2⟩
    have := h1 (K + 1) (by omega)
    rw [key K] at this
    cases this
    exact h2
  · intro h2
    exact ⟨1, v, st, fun K' hK => by obtain ⟨j, rfl⟩ : ∃ j, K' = j + 1 := ⟨K' - 1, by omega⟩; exact key j, h2⟩
end Go.Proofs.YteoemmgelalcaaaGreat.Ev
namespace Go.Proofs.YteoemmgelalcaaaGreat
open Go.Proofs.YteoemmgelalcaaaGreat.Ev
noncomputable def box1 (n : Int) : Value := fpt 0 [I64 n]
theorem box1_pv (n : Int) : Pv 8 (box1 n) := (Pv.fpt (d := 0) fun u hu => by simp only [List.mem_cons, List.not_mem_nil, or_false] at hu; subst hu; exact .int _ _).mono (by omega)
theorem p59 (x n : Int) (hn : 0 ≤ n ∧ n ≤ 1000) : PurOk Tryz.prog 59 [I64 x, box1 n] (.bool (isF 0 x (n - 1))) := by
  refine pur_wp (cs := [c22]) (isP := isP) (keep := false) mixed ?_
  have K22 := @k22 [c22] rfl
  have hn1 : IntKind.i64.wrap (n - 1) = n - 1 := wrap64 (by omega)
  rw [e59]
  simp [box1, K22, hn1]
noncomputable def c59 : Con Tryz.prog := mkCon 59 false (fun x : Int × Int => [I64 x.1, box1 x.2]) (fun x => 0 ≤ x.2 ∧ x.2 ≤ 1000) (fun x => .bool (isF 0 x.1 (x.2 - 1))) (fun ⟨_, _⟩ ⟨_, _⟩ h => by simpa [box1, fpt] using h) (fun x h => p59 x.1 x.2 h)
theorem k59 {cs : List (Con Tryz.prog)} (h : cs.find? (fun c => c.f == 59) = some c59) (x n : Int) (hn : 0 ≤ n ∧ n ≤ 1000) (st : St) : pcall (orcL cs) 59 [I64 x, box1 n] st = some (.bool (isF 0 x (n - 1))) :=
  pcall_mk h (x, n) hn (pv2 (pI0 _) (box1_pv _)) st

noncomputable def may (n : Int) : Value := .func (.func 59) ⟨[]⟩ ⟨[box1 n]⟩
theorem p58 (n : Int) (l : List Int) (hn : 0 ≤ n ∧ n ≤ 1000) (hl : l.length ≤ 1000) : PurOk Tryz.prog 58 [encI l, may n] (.bool (okP n l)) := by
  refine pur_wp (cs := [c59]) (isP := isP) (keep := false) mixed ?_
  have C59 : ∀ x st F, CallP Tryz.prog (orcL [c59]) (may n) [I64 x] st F = F (.bool (isF 0 x (n - 1))) st := fun x st F =>
    callP_eq (by kernel_rfl) (@k59 [c59] rfl x n hn st) F
  rw [e58]
  simp only [len_I, reO_some, bindP_run]
  refine loop_rule (isP := isP) (fun m a st => ∃ (i : Nat) (t : Regs), a = ⟨32, t, []⟩ ∧ st = S0 ∧ gt t 0 = encI l ∧ gt t 1 = may n ∧ gt t 7 = encI l ∧ gt t 8 = I64 l.length ∧ gt t 9 = I64 i ∧
    i ≤ l.length ∧ m = l.length - i ∧ (List.range i).all (okA n l) = true) ?_ l.length _ _ ⟨0, _, rfl, rfl, by simp, by simp, by simp, by simp, by simp, by simp, by simp, by simp⟩
  rintro m a st ⟨i, t, rfl, rfl, g0, g1, g7, g8, g9, hi, rfl, hall⟩
  rw [e58_b0, g0, g1, g7, g8, g9]
  by_cases hlt : i < l.length
  · have hw : IntKind.i64.wrap ((i : Int) + 1) = (i : Int) + 1 := wrap64 (by omega)
    have hi2 : (i : Int) < l.length := by omega
    cases hx : isF 0 l[i] (n - 1) with
    | false =>
      have hok : okA n l i = false := by simp [okA, hlt, hx]
      have := all_range_false hlt hok
      simp [C59, hlt, hi2, hw, hx, o58, okP, this]
    | true =>
      cases i with
      | zero =>
        have hok : okA n l 0 = true := by simp [okA, hlt, hx]
        simp [C59, hlt, hi2, hw, hx, o58, -Nat.not_le, -Nat.not_lt]
        exact ⟨l.length - 1, by omega, g0, g1, g7, g8, 1, wrap64 (by omega), by omega, rfl, by simpa using all_range_succ hall hok⟩
      | succ i =>
        have hw1 : IntKind.i64.wrap (i : Int) = (i : Int) := wrap64 (by omega)
        have hw2 : IntKind.i64.wrap ((i : Int) + 1 + 1) = (i : Int) + 1 + 1 := wrap64 (by omega)
        have hlt' : i < l.length := by omega
        have hpos : (0 : Int) < (i : Int) + 1 := by omega
        by_cases hle : l[i + 1] ≤ l[i]
        · have hok : okA n l (i + 1) = false := by simp [okA, hlt, hlt', hle, hx, getD_of hlt, getD_of hlt']
          have := all_range_false hlt hok
          push_cast at hi2 ⊢
          simp [C59, hlt, hlt', hi2, hw, hw1, hw2, hx, hpos, hle, o58, okP, this]
        · have hok : okA n l (i + 1) = true := by simp [okA, hlt, hlt', hx, getD_of hlt, getD_of hlt']; omega
          push_cast at hi2 ⊢
          simp [C59, hlt, hlt', hi2, hw, hw1, hw2, hx, hpos, hle, o58, -Nat.not_le, -Nat.not_lt, -Int.not_le, -Int.not_lt]
          exact ⟨l.length - (i + 2), by omega, g0, g1, g7, g8, i + 2, by omega, by omega, rfl, by simpa using all_range_succ hall hok⟩
  · have hi2 : ¬ (i : Int) < l.length := by omega
    obtain rfl : i = l.length := by omega
    simp [hi2, e58_r0, o58]
    exact hall
theorem may_inj {n m : Int} (h : may n = may m) : n = m := by simpa [may, box1, fpt] using h
noncomputable def c58 : Con Tryz.prog := mkCon 58 false (fun x : List Int × Int => [encI x.1, may x.2]) (fun x => (0 ≤ x.2 ∧ x.2 ≤ 1000) ∧ x.1.length ≤ 1000) (fun x => .bool (okP x.2 x.1))
  (fun ⟨_, _⟩ ⟨_, _⟩ h => by simp only [List.cons.injEq, and_true] at h; rw [encI_inj h.1, may_inj h.2]) (fun x h => p58 x.2 x.1 h.1 h.2)
theorem snap_I (k : Bool) (st : St) (l : List Int) : snapV k st snapD (encI l) = some (encI l) := snap_pv (pII l) k st
theorem k58 {cs : List (Con Tryz.prog)} (h : cs.find? (fun c => c.f == 58) = some c58) (l : List Int) (n : Int) (hn : 0 ≤ n ∧ n ≤ 1000) (hl : l.length ≤ 1000) {st : St} {nm : Nat} (hs : st.obj nm = rowOf [I64 n] 0 true) :
    pcall (orcL cs) 58 [encI l, .func (.func 59) ⟨[]⟩ ⟨[ptr nm 0]⟩] st = some (.bool (okP n l)) := by
  refine pcall_orc h (xs := [encI l, may n]) ?_ ⟨(l, n), ⟨hn, hl⟩, rfl, rfl⟩ (.inr rfl)
  have e : snapV c58.keep st snapD (.func (.func 59) ⟨[]⟩ ⟨[ptr nm 0]⟩) = some (may n) := by
    show osel (mapO (snapV false st 7) []) none (fun as' => osel (mapO (snapV false st 7) [ptr nm 0]) none fun bs' => some (Value.func (.func 59) ⟨as'⟩ ⟨bs'⟩)) = _
    have e1 : snapV false st 7 (ptr nm 0) = some (box1 n) := by
      show cellsK (st.obj nm) none (fun dd n _ _ tr => osel (mapO (snapV false st 6) (Bt.sub tr (half dd) 0 n [])) none fun cs => some (fpt 0 cs)) = _
      rw [hs]; rfl
    simp only [mapO, e1]; rfl
  simp only [mapO, snap_I, e]; rfl
theorem p24 (l : List Int) (n : Int) (hn : 0 ≤ n ∧ n ≤ 1000) (hl : l.length ≤ 1000) : PurOk Tryz.prog 24 [encI l, I64 n] (.bool (okP n l)) := by
  refine pur_wp (cs := [c58]) (isP := isP) (keep := false) mixed ?_
  rw [e24]
  simp only [boxN_int, bindP_run]
  rw [k58 (cs := [c58]) rfl l n hn hl (by simp [push_obj])]
  simp
end Go.Proofs.YteoemmgelalcaaaGreat

set_option autoImplicit false
set_option maxRecDepth 1000000
set_option linter.unusedSimpArgs false
set_option linter.unusedVariables false
namespace Go.Proofs.YteoemmgelalcaaaGreat
open Go.Proofs.YteoemmgelalcaaaGreat.Ev
def shU (a : Int) (n : Nat) : Int := a.fdiv (2 ^ (min n 64))
def anU (a c : Int) : Int := IntKind.u64.wrap (((BitVec.ofInt 64 a) &&& (BitVec.ofInt 64 c)).toNat)
noncomputable def adU (a b : Int) : Int := wrapF .u64 (addI a b)
def anS (a c : Int) : Int := IntKind.i64.wrap (((BitVec.ofInt 64 a) &&& (BitVec.ofInt 64 c)).toNat)
noncomputable def pc1 (x : Int) : Int := adU (anU (shU x 1) 6148914691236517205) (anU x 6148914691236517205)
noncomputable def pc2 (x : Int) : Int := adU (anU (shU x 2) 3689348814741910323) (anU x 3689348814741910323)
noncomputable def pc3 (x : Int) : Int := anU (adU (shU x 4) x) 1085102592571150095
noncomputable def pcS (n : Nat) (x : Int) : Int := adU x (shU x n)
noncomputable def pc (x : Int) : Int := anS (wrapF .i64 (pcS 32 (pcS 16 (pcS 8 (pc3 (pc2 (pc1 x))))))) 127
theorem r35 (x : Int) : callB Tryz.prog (evCode Tryz.prog (orcK []) 40) 35 [.int .u64 x] ⟨heap0, 0⟩ = .ok (.int .i64 (pc x)) ⟨heap0, 0⟩ := by kernel_rfl
theorem p35 (x : Int) : PurOk Tryz.prog 35 [.int .u64 x] (I64 (pc x)) :=
  pur_of_runB (keep := false) mixed (orcK_ok (ks := []) fun _ h => by cases h) (r35 x) rfl
end Go.Proofs.YteoemmgelalcaaaGreat

set_option autoImplicit false
set_option maxRecDepth 100000
set_option linter.unusedSimpArgs false
set_option linter.unusedVariables false
namespace Go.Proofs.YteoemmgelalcaaaGreat
open Go.Proofs.YteoemmgelalcaaaGreat.Ev
/-! # Words -/
@[simp] theorem bin_shl (e : Ek) (k : IntKind) (a : Int) (n : Nat) : binK .shl e (.int k a) (.int .i64 (n : Int)) = some (.int k (k.wrap (a * 2 ^ (min n k.bits)))) := by
  have h : binK .shl e (.int k a) (.int .i64 (n : Int)) = intOp .shl k a (n : Int) := by
    show bsel (bsel (kEq k .i64) true (isShift .shl)) (intOp .shl k a n) none = _
    cases kEq k .i64 <;> rfl
  rw [h]
  show bsel (ltI (n : Int) 0) none (some (Value.int k (k.wrap (a * 2 ^ (min (n : Int).toNat k.bits))))) = _
  rw [ltI_eq]
  have : decide ((n : Int) < 0) = false := by simp
  rw [this]; rfl
theorem wrapU (n : Nat) (h : n < 2 ^ 64) : IntKind.u64.wrap (n : Int) = n := by
  simp [IntKind.wrap, IntKind.bits, IntKind.signed]; omega
theorem bvU (n : Nat) (h : n < 2 ^ 64) : BitVec.ofInt 64 (n : Int) = BitVec.ofNat 64 n := by simp
theorem bin_orU (e : Ek) (a b : Nat) (ha : a < 2 ^ 64) (hb : b < 2 ^ 64) : binK .or e (.int .u64 (a : Int)) (.int .u64 (b : Int)) = some (.int .u64 ((a ||| b : Nat) : Int)) := by
  rw [binI]
  show some (Value.int .u64 (IntKind.u64.wrap (((BitVec.ofInt 64 (a : Int)) ||| (BitVec.ofInt 64 (b : Int))).toNat))) = _
  rw [bvU a ha, bvU b hb, BitVec.toNat_or, BitVec.toNat_ofNat, BitVec.toNat_ofNat, Nat.mod_eq_of_lt ha, Nat.mod_eq_of_lt hb, wrapU _ (Nat.or_lt_two_pow ha hb)]
theorem bin_andU (e : Ek) (a b : Nat) (ha : a < 2 ^ 64) (hb : b < 2 ^ 64) : binK .and e (.int .u64 (a : Int)) (.int .u64 (b : Int)) = some (.int .u64 ((a &&& b : Nat) : Int)) := by
  rw [binI]
  show some (Value.int .u64 (IntKind.u64.wrap (((BitVec.ofInt 64 (a : Int)) &&& (BitVec.ofInt 64 (b : Int))).toNat))) = _
  rw [bvU a ha, bvU b hb, BitVec.toNat_and, BitVec.toNat_ofNat, BitVec.toNat_ofNat, Nat.mod_eq_of_lt ha, Nat.mod_eq_of_lt hb, wrapU _ (Nat.and_lt_two_pow _ hb)]
theorem bin_shlU (e : Ek) (i : Nat) (h : i < 64) : binK .shl e (.int .u64 1) (.int .i64 (i : Int)) = some (.int .u64 ((2 ^ i : Nat) : Int)) := by
  rw [bin_shl, show min i IntKind.u64.bits = i from Nat.min_eq_left (by show i ≤ 64; omega), Int.one_mul]
  have : (2 : Int) ^ i = ((2 ^ i : Nat) : Int) := by push_cast; rfl
  rw [this, wrapU _ (Nat.pow_lt_pow_right (by omega) h)]
abbrev U64 (n : Nat) : Value := .int .u64 (n : Int)

/-! # marks 23 -/
def mk (l : List Bool) : Nat → Nat
  | 0 => 0
  | i + 1 => if l.getD i false then mk l i ||| 2 ^ i else mk l i
theorem mk_lt (l : List Bool) : ∀ i, i ≤ 64 → mk l i < 2 ^ 64
  | 0, _ => by simp [mk]
  | i + 1, h => by
    unfold mk
    split
    · exact Nat.or_lt_two_pow (mk_lt l i (by omega)) (Nat.pow_lt_pow_right (by omega) (by omega))
    · exact mk_lt l i (by omega)
theorem mk_bit (l : List Bool) (j : Nat) : ∀ i, (mk l i).testBit j = (decide (j < i) && l.getD j false)
  | 0 => by simp [mk]
  | i + 1 => by
    unfold mk
    have ih := mk_bit l j i
    split
    · rename_i h
      rw [Nat.testBit_or, ih, Nat.testBit_two_pow]
      by_cases e : i = j
      · subst e; rw [h]; simp
      · have : decide (j < i + 1) = decide (j < i) := by rw [decide_eq_decide]; omega
        rw [this]; simp [e]
    · rename_i h
      rw [ih]
      by_cases e : i = j
      · subst e; simp [h] at h ⊢; simp [h]
      · have : decide (j < i + 1) = decide (j < i) := by rw [decide_eq_decide]; omega
        rw [this]
theorem p23 (l : List Bool) (hl : l.length ≤ 63) : PurOk Tryz.prog 23 [encB l] (U64 (mk l l.length)) := by
  refine pur_wp (cs := []) (isP := isP) (keep := false) mixed ?_
  rw [e23]
  simp only [len_B, reO_some, bindP_run]
  refine loop_rule (isP := isP) (fun m a st => ∃ (i : Nat) (t : Regs), a = ⟨20, t, []⟩ ∧ st = S0 ∧ gt t 3 = U64 (mk l i) ∧ gt t 6 = encB l ∧ gt t 7 = I64 l.length ∧ gt t 8 = I64 i ∧
    i ≤ l.length ∧ m = l.length - i) ?_ l.length _ _ ⟨0, _, rfl, rfl, by simp [mk, U64], by simp, by simp, by simp, by simp, by simp⟩
  rintro m a st ⟨i, t, rfl, rfl, g3, g6, g7, g8, hi, rfl⟩
  rw [e23_b0, g3, g6, g7, g8]
  by_cases hlt : i < l.length
  · have hw : IntKind.i64.wrap ((i : Int) + 1) = (i : Int) + 1 := wrap64 (by omega)
    have hi2 : (i : Int) < l.length := by omega
    have hs := fun e => bin_shlU e i (by omega)
    have ho := fun e => bin_orU e (mk l i) (2 ^ i) (mk_lt l i (by omega)) (Nat.pow_lt_pow_right (by omega) (by omega))
    cases hx : l[i] with
    | true =>
      have hm : mk l (i + 1) = mk l i ||| 2 ^ i := by simp [mk, List.getD, hlt, hx]
      simp only [bin_lss, reO_some, bindP_run, idxK_sl, idx_B, hlt, if_true, ld_B, List.getElem?_eq_getElem hlt, Option.map_some, hx, condP_true, hs, ho, bin_add, hw, hi2, decide_true]
      refine ⟨l.length - (i + 1), by omega, i + 1, _, rfl, trivial, ?_, ?_, ?_, ?_, by omega, rfl⟩ <;> simp [g6, g7, hm]
    | false =>
      have hm : mk l (i + 1) = mk l i := by simp [mk, List.getD, hlt, hx]
      simp only [bin_lss, reO_some, bindP_run, idxK_sl, idx_B, hlt, if_true, ld_B, List.getElem?_eq_getElem hlt, Option.map_some, hx, condP_true, condP_false, hs, ho, bin_add, hw, hi2, decide_true]
      refine ⟨l.length - (i + 1), by omega, i + 1, _, rfl, trivial, ?_, ?_, ?_, ?_, by omega, rfl⟩ <;> simp [g3, g6, g7, hm]
  · have hi2 : ¬ (i : Int) < l.length := by omega
    obtain rfl : i = l.length := by omega
    simp [hi2, e23_r0, o23, g3]
end Go.Proofs.YteoemmgelalcaaaGreat

set_option autoImplicit false
set_option maxRecDepth 100000
namespace Go.Proofs.YteoemmgelalcaaaGreat
/-! # Counting bits -/
/-- A number by its bytes, the least first. -/
def nB : List Nat → Nat
  | [] => 0
  | b :: l => b + 256 * nB l
theorem nB_and (l l' : List Nat) (h : l.length = l'.length) (hl : ∀ b, b ∈ l → b < 256) (hl' : ∀ b, b ∈ l' → b < 256) : nB l &&& nB l' = nB (List.zipWith (· &&& ·) l l') := by
  induction l generalizing l' with
  | nil => cases l' with
    | nil => rfl
    | cons a l' => simp at h
  | cons a l ih => cases l' with
    | nil => simp at h
    | cons b l' =>
      have ha := hl a (by simp)
      have hb := hl' b (by simp)
      have e := ih l' (by simpa using h) (fun c hc => hl c (by simp [hc])) (fun c hc => hl' c (by simp [hc]))
      show (a + 256 * nB l) &&& (b + 256 * nB l') = (a &&& b) + 256 * nB (List.zipWith (· &&& ·) l l')
      rw [← e]
      have hab : a &&& b < 2 ^ 8 := Nat.lt_of_le_of_lt Nat.and_le_left ha
      apply Nat.eq_of_testBit_eq
      intro i
      rw [Nat.testBit_and, show a + 256 * nB l = 2 ^ 8 * nB l + a by omega, show b + 256 * nB l' = 2 ^ 8 * nB l' + b by omega, show (a &&& b) + 256 * (nB l &&& nB l') = 2 ^ 8 * (nB l &&& nB l') + (a &&& b) by omega,
        Nat.testBit_two_pow_mul_add _ ha, Nat.testBit_two_pow_mul_add _ hb, Nat.testBit_two_pow_mul_add _ hab]
      split <;> simp
end Go.Proofs.YteoemmgelalcaaaGreat
namespace Go.Proofs.YteoemmgelalcaaaGreat
theorem and_c {a m : Nat} (ha : a < 256) (hm : m < 256) (b k : Nat) : (a + 256 * b) &&& (m + 256 * k) = (a &&& m) + 256 * (b &&& k) := by
  have hab : a &&& m < 2 ^ 8 := Nat.lt_of_le_of_lt Nat.and_le_left ha
  apply Nat.eq_of_testBit_eq
  intro i
  rw [Nat.testBit_and, show a + 256 * b = 2 ^ 8 * b + a by omega, show m + 256 * k = 2 ^ 8 * k + m by omega, show (a &&& m) + 256 * (b &&& k) = 2 ^ 8 * (b &&& k) + (a &&& m) by omega,
    Nat.testBit_two_pow_mul_add _ ha, Nat.testBit_two_pow_mul_add _ hm, Nat.testBit_two_pow_mul_add _ hab]
  split <;> simp
theorem and_m {m : Nat} (hm : m < 256) : ∀ (l : List Nat), (∀ b, b ∈ l → b < 256) → nB l &&& nB (List.replicate l.length m) = nB (l.map (· &&& m))
  | [], _ => by simp [nB]
  | a :: l, h => by
    show (a + 256 * nB l) &&& (m + 256 * nB (List.replicate l.length m)) = (a &&& m) + 256 * nB (l.map (· &&& m))
    rw [and_c (h a (by simp)) hm, and_m hm l fun b hb => h b (by simp [hb])]
theorem sh1_byte : ∀ a, a < 256 → ∀ t, t < 2 → (a / 2 + 128 * t) &&& 85 = (a / 2) &&& 85 := by decide +kernel
theorem sh2_byte : ∀ a, a < 256 → ∀ t, t < 4 → (a / 4 + 64 * t) &&& 51 = (a / 4) &&& 51 := by decide +kernel
theorem sh4_byte : ∀ a, a < 69 → ∀ t, t < 5 → a % 16 < 5 → (a / 16 + a + 16 * t) &&& 15 = a / 16 + a % 16 := by decide +kernel
theorem sh1_m : ∀ (l : List Nat), (∀ b, b ∈ l → b < 256) → (nB l / 2) &&& nB (List.replicate l.length 85) = nB (l.map fun a => a / 2 &&& 85)
  | [], _ => rfl
  | a :: l, h => by
    show ((a + 256 * nB l) / 2) &&& (85 + 256 * nB (List.replicate l.length 85)) = (a / 2 &&& 85) + 256 * nB (l.map fun a => a / 2 &&& 85)
    have ha := h a (by simp)
    rw [show (a + 256 * nB l) / 2 = (a / 2 + 128 * (nB l % 2)) + 256 * (nB l / 2) by omega, and_c (by omega) (by omega), sh1_byte a ha _ (by omega), sh1_m l fun b hb => h b (by simp [hb])]
theorem sh2_m : ∀ (l : List Nat), (∀ b, b ∈ l → b < 256) → (nB l / 4) &&& nB (List.replicate l.length 51) = nB (l.map fun a => a / 4 &&& 51)
  | [], _ => rfl
  | a :: l, h => by
    show ((a + 256 * nB l) / 4) &&& (51 + 256 * nB (List.replicate l.length 51)) = (a / 4 &&& 51) + 256 * nB (l.map fun a => a / 4 &&& 51)
    have ha := h a (by simp)
    rw [show (a + 256 * nB l) / 4 = (a / 4 + 64 * (nB l % 4)) + 256 * (nB l / 4) by omega, and_c (by omega) (by omega), sh2_byte a ha _ (by omega), sh2_m l fun b hb => h b (by simp [hb])]
theorem sh4_m : ∀ (l : List Nat), (∀ b, b ∈ l → b < 69 ∧ b % 16 < 5) → (nB l / 16 + nB l) &&& nB (List.replicate l.length 15) = nB (l.map fun a => a / 16 + a % 16)
  | [], _ => rfl
  | a :: l, h => by
    show ((a + 256 * nB l) / 16 + (a + 256 * nB l)) &&& (15 + 256 * nB (List.replicate l.length 15)) = (a / 16 + a % 16) + 256 * nB (l.map fun a => a / 16 + a % 16)
    have ha := h a (by simp)
    have ht : nB l % 16 < 5 := by
      cases l with
      | nil => decide
      | cons b l =>
        have hb := h b (by simp)
        show (b + 256 * nB l) % 16 < 5
        omega
    rw [show (a + 256 * nB l) / 16 + (a + 256 * nB l) = (a / 16 + a + 16 * (nB l % 16)) + 256 * (nB l / 16 + nB l) by omega, and_c (by omega) (by omega), sh4_byte a ha.1 _ ht ha.2, sh4_m l fun b hb => h b (by simp [hb])]
theorem nB_add (l : List Nat) (f g : Nat → Nat) : nB (l.map f) + nB (l.map g) = nB (l.map fun a => f a + g a) := by
  induction l with
  | nil => rfl
  | cons a l ih =>
    show (f a + 256 * nB (l.map f)) + (g a + 256 * nB (l.map g)) = (f a + g a) + 256 * nB (l.map fun a => f a + g a)
    omega
def f1 (a : Nat) : Nat := (a / 2 &&& 85) + (a &&& 85)
def f2 (a : Nat) : Nat := (a / 4 &&& 51) + (a &&& 51)
def f3 (a : Nat) : Nat := a / 16 + a % 16
/-- The bits below one that are set. -/
def cnt (n k : Nat) : Nat := (List.range k).countP fun i => n.testBit i
theorem byte_ok : ∀ a, a < 256 → f1 a < 256 ∧ f2 (f1 a) < 69 ∧ f2 (f1 a) % 16 < 5 ∧ f3 (f2 (f1 a)) = cnt a 8 := by decide +kernel
theorem cnt_cons (a n k : Nat) (ha : a < 256) : cnt (a + 256 * n) (8 + k) = cnt a 8 + cnt n k := by
  unfold cnt
  rw [List.range_add, List.countP_append, List.countP_map]
  congr 1
  · apply List.countP_congr
    intro i hi
    have hi := List.mem_range.1 hi
    rw [show a + 256 * n = 2 ^ 8 * n + a by omega, Nat.testBit_two_pow_mul_add _ ha, if_pos hi]
  · apply List.countP_congr
    intro i hi
    show (a + 256 * n).testBit (8 + i) = true ↔ _
    rw [show a + 256 * n = 2 ^ 8 * n + a by omega, Nat.testBit_two_pow_mul_add _ ha, if_neg (by omega), show 8 + i - 8 = i by omega]
theorem cnt_le (n k : Nat) : cnt n k ≤ k := by
  have := List.countP_le_length (p := fun i => n.testBit i) (l := List.range k)
  simpa [cnt] using this
/-- The numbers of a word, taken together. -/
def m0 : Nat := 6148914691236517205
def m1 : Nat := 3689348814741910323
def m2 : Nat := 1085102592571150095
theorem word (n : Nat) (hn : n < 2 ^ 64) : ∃ a b c d e f g h, a < 256 ∧ b < 256 ∧ c < 256 ∧ d < 256 ∧ e < 256 ∧ f < 256 ∧ g < 256 ∧ h < 256 ∧ n = nB [a, b, c, d, e, f, g, h] := by
  refine ⟨n % 256, n / 256 % 256, n / 65536 % 256, n / 16777216 % 256, n / 4294967296 % 256, n / 1099511627776 % 256, n / 281474976710656 % 256, n / 72057594037927936, by omega, by omega, by omega, by omega, by omega, by omega, by omega, by omega, ?_⟩
  simp only [nB]
  omega
theorem y3_eq (n : Nat) (hn : n < 2 ^ 64) : ∃ l : List Nat, l.length = 8 ∧ n = nB l ∧ (∀ b, b ∈ l → b < 256) ∧ (n / 2 &&& m0) + (n &&& m0) = nB (l.map f1) ∧
    (nB (l.map f1) / 4 &&& m1) + (nB (l.map f1) &&& m1) = nB (l.map fun a => f2 (f1 a)) ∧ ((nB (l.map fun a => f2 (f1 a))) / 16 + nB (l.map fun a => f2 (f1 a))) &&& m2 = nB (l.map fun a => cnt a 8) := by
  obtain ⟨a, b, c, d, e, f, g, h, ha, hb, hc, hd, he, hf, hg, hh, rfl⟩ := word n hn
  have hall : ∀ x, x ∈ [a, b, c, d, e, f, g, h] → x < 256 := by
    intro x hx
    simp only [List.mem_cons, List.not_mem_nil, or_false] at hx
    rcases hx with rfl | rfl | rfl | rfl | rfl | rfl | rfl | rfl <;> assumption
  generalize hl : [a, b, c, d, e, f, g, h] = l at hall ⊢
  have hlen : l.length = 8 := by rw [← hl]; rfl
  have e0 : m0 = nB (List.replicate l.length 85) := by rw [hlen]; rfl
  have e1 : m1 = nB (List.replicate (l.map f1).length 51) := by rw [List.length_map, hlen]; rfl
  have e2 : m2 = nB (List.replicate (l.map fun a => f2 (f1 a)).length 15) := by rw [List.length_map, hlen]; rfl
  refine ⟨l, hlen, rfl, hall, ?_, ?_, ?_⟩
  · rw [e0, sh1_m l hall, and_m (by omega) l hall, nB_add]; rfl
  · have h2 : ∀ b, b ∈ l.map f1 → b < 256 := fun b hb => by obtain ⟨x, hx, rfl⟩ := List.mem_map.1 hb; exact (byte_ok x (hall x hx)).1
    rw [e1, sh2_m _ h2, and_m (by omega) _ h2, nB_add, List.map_map]; rfl
  · have h3 : ∀ b, b ∈ (l.map fun a => f2 (f1 a)) → b < 69 ∧ b % 16 < 5 := fun b hb => by obtain ⟨x, hx, rfl⟩ := List.mem_map.1 hb; have := byte_ok x (hall x hx); exact ⟨this.2.1, this.2.2.1⟩
    rw [e2, sh4_m _ h3, List.map_map]
    congr 1
    apply List.map_congr_left
    intro x hx
    exact (byte_ok x (hall x hx)).2.2.2
theorem div_of {A B k X : Nat} (h : A < k) (e : X = A + k * B) : X / k = B := by
  rw [e, Nat.add_mul_div_left _ _ (by omega), Nat.div_eq_of_lt h]; omega
theorem mod_of {A B k X : Nat} (h : A < k) (e : X = A + k * B) : X % k = A := by
  rw [e, Nat.add_mul_mod_self_left, Nat.mod_eq_of_lt h]
theorem swar {a b c d e f g h z : Nat} (ha : a ≤ 8) (hb : b ≤ 8) (hc : c ≤ 8) (hd : d ≤ 8) (he : e ≤ 8) (hf : f ≤ 8) (hg : g ≤ 8) (hh : h ≤ 8)
    (hz : z = a + 256 * b + 65536 * c + 16777216 * d + 4294967296 * e + 1099511627776 * f + 281474976710656 * g + 72057594037927936 * h) :
    z < 2 ^ 60 ∧ (z + z / 256 + (z + z / 256) / 65536 + (z + z / 256 + (z + z / 256) / 65536) / 4294967296) % 128 = a + b + c + d + e + f + g + h := by
  refine ⟨by omega, ?_⟩
  obtain ⟨y, hy, e1⟩ : ∃ y, y = b + 256 * c + 65536 * d + 16777216 * e + 4294967296 * f + 1099511627776 * g + 281474976710656 * h ∧ z / 256 = y := ⟨_, rfl, div_of (A := a) (by omega) (by omega)⟩
  rw [e1]
  clear e1
  obtain ⟨x, hx⟩ : ∃ x, z + y = x := ⟨_, rfl⟩
  rw [hx]
  obtain ⟨w, hw, e2⟩ : ∃ w, w = (c + d) + 256 * (d + e) + 65536 * (e + f) + 16777216 * (f + g) + 4294967296 * (g + h) + 1099511627776 * h ∧ x / 65536 = w := ⟨_, rfl, div_of (A := a + b + 256 * (b + c)) (by omega) (by omega)⟩
  rw [e2]
  clear e2
  obtain ⟨v, hv⟩ : ∃ v, x + w = v := ⟨_, rfl⟩
  rw [hv]
  obtain ⟨u, hu, e3⟩ : ∃ u, u = (e + f + g + h) + 256 * (f + g + h) + 65536 * (g + h) + 16777216 * h ∧ v / 4294967296 = u := ⟨_, rfl, div_of (A := a + b + c + d + 256 * (b + c + d + e) + 65536 * (c + d + e + f) + 16777216 * (d + e + f + g)) (by omega) (by omega)⟩
  rw [e3]
  clear e3
  exact mod_of (B := 2 * (b + c + d + e + f + g + h) + 512 * (c + d + e + f + g + h) + 131072 * (d + e + f + g + h) + 33554432 * (e + f + g + h) + 8589934592 * (f + g + h) + 2199023255552 * (g + h) + 562949953421312 * h) (by omega) (by omega)
theorem sum8 (n : Nat) (hn : n < 2 ^ 64) : ∃ z, (((((n / 2 &&& m0) + (n &&& m0)) / 4 &&& m1) + (((n / 2 &&& m0) + (n &&& m0)) &&& m1)) / 16 + ((((n / 2 &&& m0) + (n &&& m0)) / 4 &&& m1) + (((n / 2 &&& m0) + (n &&& m0)) &&& m1))) &&& m2 = z ∧
    z < 2 ^ 60 ∧ (z + z / 256 + (z + z / 256) / 65536 + (z + z / 256 + (z + z / 256) / 65536) / 4294967296) % 128 = cnt n 64 := by
  obtain ⟨l, hlen, hnl, hall, h1, h2, h3⟩ := y3_eq n hn
  rw [h1, h2, h3]
  refine ⟨_, rfl, ?_⟩
  clear h1 h2 h3
  subst hnl
  match l, hlen with
  | [a, b, c, d, e, f, g, h], _ =>
    have hc : cnt (nB [a, b, c, d, e, f, g, h]) 64 = cnt a 8 + (cnt b 8 + (cnt c 8 + (cnt d 8 + (cnt e 8 + (cnt f 8 + (cnt g 8 + (cnt h 8 + 0))))))) := by
      simp only [nB]
      rw [cnt_cons a _ 56 (hall a (by simp)), cnt_cons b _ 48 (hall b (by simp)), cnt_cons c _ 40 (hall c (by simp)), cnt_cons d _ 32 (hall d (by simp)), cnt_cons e _ 24 (hall e (by simp)), cnt_cons f _ 16 (hall f (by simp)), cnt_cons g _ 8 (hall g (by simp)), cnt_cons h _ 0 (hall h (by simp))]
      rfl
    rw [hc]
    have := swar (cnt_le a 8) (cnt_le b 8) (cnt_le c 8) (cnt_le d 8) (cnt_le e 8) (cnt_le f 8) (cnt_le g 8) (cnt_le h 8) (z := nB ([a, b, c, d, e, f, g, h].map fun a => cnt a 8)) (by simp only [List.map_cons, List.map_nil, nB]; omega)
    exact ⟨this.1, this.2.trans (by omega)⟩
end Go.Proofs.YteoemmgelalcaaaGreat

set_option autoImplicit false
set_option maxRecDepth 100000
set_option linter.unusedSimpArgs false
set_option linter.unusedVariables false
namespace Go.Proofs.YteoemmgelalcaaaGreat
open Go.Proofs.YteoemmgelalcaaaGreat.Ev
theorem shU_eq (n k : Nat) (hk : k ≤ 64) : shU (n : Int) k = ((n / 2 ^ k : Nat) : Int) := by
  unfold shU
  rw [Nat.min_eq_left hk, Int.fdiv_eq_ediv_of_nonneg _ (by exact_mod_cast Nat.zero_le (2 ^ k))]
  push_cast; rfl
theorem anU_eq (a b : Nat) (ha : a < 2 ^ 64) (hb : b < 2 ^ 64) : anU (a : Int) (b : Int) = ((a &&& b : Nat) : Int) := by
  unfold anU
  rw [bvU a ha, bvU b hb, BitVec.toNat_and, BitVec.toNat_ofNat, BitVec.toNat_ofNat, Nat.mod_eq_of_lt ha, Nat.mod_eq_of_lt hb, wrapU _ (Nat.and_lt_two_pow _ hb)]
theorem anS_eq (a : Nat) (ha : a < 2 ^ 64) : anS (a : Int) 127 = ((a % 128 : Nat) : Int) := by
  unfold anS
  rw [bvU a ha, show ((127 : Int)) = ((127 : Nat) : Int) from rfl, bvU 127 (by omega), BitVec.toNat_and, BitVec.toNat_ofNat, BitVec.toNat_ofNat, Nat.mod_eq_of_lt ha, Nat.mod_eq_of_lt (by omega),
    show (127 : Nat) = 2 ^ 7 - 1 from rfl, Nat.and_two_pow_sub_one_eq_mod, wrap64 (by omega)]
theorem adU_eq (a b : Nat) (h : a + b < 2 ^ 64) : adU (a : Int) (b : Int) = ((a + b : Nat) : Int) := by
  unfold adU
  rw [wrapF_eq, addI_eq, show (a : Int) + (b : Int) = ((a + b : Nat) : Int) by push_cast; rfl, wrapU _ h]
theorem pcS_eq (k n : Nat) (hk : k ≤ 64) (h : n + n / 2 ^ k < 2 ^ 64) : pcS k (n : Int) = ((n + n / 2 ^ k : Nat) : Int) := by
  unfold pcS
  rw [shU_eq n k hk, adU_eq _ _ h]
theorem pc1_eq (n : Nat) (hn : n < 2 ^ 64) : pc1 (n : Int) = (((n / 2 &&& m0) + (n &&& m0) : Nat) : Int) := by
  unfold pc1
  have h1 : n / 2 &&& m0 ≤ m0 := Nat.and_le_right
  have h2 : n &&& m0 ≤ m0 := Nat.and_le_right
  have h3 : m0 = 6148914691236517205 := rfl
  rw [shU_eq n 1 (by omega), show n / 2 ^ 1 = n / 2 from rfl, show (6148914691236517205 : Int) = ((m0 : Nat) : Int) from rfl, anU_eq _ _ (by omega) (by omega), anU_eq _ _ hn (by omega), adU_eq _ _ (by omega)]
theorem pc2_eq (n : Nat) (hn : n < 2 ^ 64) : pc2 (n : Int) = (((n / 4 &&& m1) + (n &&& m1) : Nat) : Int) := by
  unfold pc2
  have h1 : n / 4 &&& m1 ≤ m1 := Nat.and_le_right
  have h2 : n &&& m1 ≤ m1 := Nat.and_le_right
  have h3 : m1 = 3689348814741910323 := rfl
  rw [shU_eq n 2 (by omega), show n / 2 ^ 2 = n / 4 from rfl, show (3689348814741910323 : Int) = ((m1 : Nat) : Int) from rfl, anU_eq _ _ (by omega) (by omega), anU_eq _ _ hn (by omega), adU_eq _ _ (by omega)]
theorem pc3_eq (n : Nat) (hn : n / 16 + n < 2 ^ 64) : pc3 (n : Int) = (((n / 16 + n) &&& m2 : Nat) : Int) := by
  unfold pc3
  have h3 : m2 = 1085102592571150095 := rfl
  rw [shU_eq n 4 (by omega), show (1085102592571150095 : Int) = ((m2 : Nat) : Int) from rfl, adU_eq _ _ (by simpa using hn), anU_eq _ _ (by simpa using hn) (by omega)]
theorem pc_eq (n : Nat) (hn : n < 2 ^ 64) : pc (n : Int) = ((cnt n 64 : Nat) : Int) := by
  obtain ⟨z, h1, h2, h3⟩ := sum8 n hn
  unfold pc
  have b0 : m0 = 6148914691236517205 := rfl
  have b1 : m1 = 3689348814741910323 := rfl
  have e1 : n / 2 &&& m0 ≤ m0 := Nat.and_le_right
  have e2 : n &&& m0 ≤ m0 := Nat.and_le_right
  rw [pc1_eq n hn]
  generalize hy : (n / 2 &&& m0) + (n &&& m0) = y at h1 ⊢
  have e3 : y / 4 &&& m1 ≤ m1 := Nat.and_le_right
  have e4 : y &&& m1 ≤ m1 := Nat.and_le_right
  rw [pc2_eq y (by omega)]
  generalize hx : (y / 4 &&& m1) + (y &&& m1) = x at h1 ⊢
  rw [pc3_eq x (by omega), h1, pcS_eq 8 z (by omega) (by omega), pcS_eq 16 _ (by omega) (by omega), pcS_eq 32 _ (by omega) (by omega), wrapF_eq, wrap64 (by omega), anS_eq _ (by omega)]
  exact congrArg Nat.cast h3
theorem pop35 (n : Nat) (hn : n < 2 ^ 64) : PurOk Tryz.prog 35 [U64 n] (I64 (cnt n 64 : Nat)) := by
  have := p35 n
  rw [pc_eq n hn] at this
  exact this
noncomputable def c35 : Con Tryz.prog := mkCon 35 false (fun n : Nat => [U64 n]) (fun n => n < 2 ^ 64) (fun n => I64 (cnt n 64 : Nat)) (fun a b h => by simp at h; exact_mod_cast h) (fun n h => pop35 n h)
theorem k35 {cs : List (Con Tryz.prog)} (h : cs.find? (fun c => c.f == 35) = some c35) (n : Nat) (hn : n < 2 ^ 64) (st : St) : pcall (orcL cs) 35 [U64 n] st = some (I64 (cnt n 64 : Nat)) :=
  pcall_mk h n hn (pv1 ((Pv.int _ _).mono (by omega))) st
end Go.Proofs.YteoemmgelalcaaaGreat

set_option autoImplicit false
set_option maxRecDepth 100000
set_option linter.unusedSimpArgs false
set_option linter.unusedVariables false
namespace Go.Proofs.YteoemmgelalcaaaGreat.Ev
open Go
@[simp] theorem resE_1 (v : Value) (st : St) : resE [some v] st = .ok v st := rfl
@[simp] theorem resE_2 (u v : Value) (st : St) : resE [some u, some v] st = .ok (.tuple ⟨[u, v]⟩) st := rfl
theorem cellR_row {nm k : Nat} {xs : List Value} {es : Nat} {ex : Bool} {st : St} (ho : st.obj nm = rowOf xs es ex) (h : xs.length = k) : cellR (.agg k) (ptr nm 0) st = some (.agg ⟨xs⟩) := by
  have := ldO_agg k 0 xs es ex st
  rw [if_pos (by omega), List.drop_zero, ← h, List.take_length] at this
  show (Re.rec (motive := fun _ => Option Value) none (fun v _ => some v) (ldO (.agg k) 0 (st.obj nm) st) : Option Value) = _
  rw [ho, ← h, this]
end Go.Proofs.YteoemmgelalcaaaGreat.Ev
namespace Go.Proofs.YteoemmgelalcaaaGreat
open Go.Proofs.YteoemmgelalcaaaGreat.Ev
/-! # rowOf 26 -/
def pm (l : List Int) : Nat → Nat
  | 0 => 0
  | i + 1 => pm l i ||| 2 ^ (l.getD i 0).toNat
def Fit (l : List Int) : Prop := ∀ i, i < l.length → 0 ≤ l.getD i 0 ∧ l.getD i 0 ≤ 62
theorem pm_lt (l : List Int) (h : Fit l) : ∀ i, i ≤ l.length → pm l i < 2 ^ 64
  | 0, _ => by simp [pm]
  | i + 1, hi => by
    unfold pm
    have := h i (by omega)
    exact Nat.or_lt_two_pow (pm_lt l h i (by omega)) (Nat.pow_lt_pow_right (by omega) (by omega))
def ob (b : Bool) : Nat := if b then 1 else 0
noncomputable def encN (id : Int) (l : List Int) (b : Bool) : List Value := [I64 id, encI l, .bool b]
noncomputable def rw3 (a b c : Nat) : List Value := [U64 a, U64 b, U64 c]
theorem p26 (id : Int) (l : List Int) (b : Bool) (hf : Fit l) (hl : l.length ≤ 1000) : PurOk Tryz.prog 26 [.agg ⟨encN id l b⟩] (.agg ⟨rw3 (pm l l.length) (ob b) 0⟩) := by
  refine pur_wp (cs := []) (isP := isP) (keep := false) mixed ?_
  rw [e26]
  simp only [boxN_agg, boxK_eq, bindP_run, push_next, S0_next]
  simp only [movP_ptr, reO_some, bindP_run, loadA_ptr, push_obj, push_next, S0_next]
  simp only [show ((0 : Nat) = 0 + 1 + 1) = False by simp, show ((0 : Nat) = 0 + 1) = False by simp, if_false, if_true, ldO_one, encN, List.getElem?_cons_succ, List.getElem?_cons_zero, reO_some, bindP_run, len_I]
  refine loop_rule (isP := isP) (fun m a st => ∃ (i : Nat) (t : Regs), a = ⟨24, t, []⟩ ∧ st.next = 3 ∧ st.obj 0 = rowOf (encN id l b) 0 true ∧ st.obj 1 = rowOf (rw3 0 0 0) 0 true ∧ st.obj 2 = rowOf (rw3 (pm l i) 0 0) 0 true ∧
    gt t 1 = ptr 0 0 ∧ gt t 2 = ptr 1 0 ∧ gt t 3 = ptr 2 0 ∧ gt t 7 = encI l ∧ gt t 8 = I64 l.length ∧ gt t 9 = I64 i ∧
    i ≤ l.length ∧ m = l.length - i) ?_ l.length _ _ ⟨0, _, rfl, rfl, by simp [push_obj, encN], by simp [push_obj]; rfl, by simp [push_obj]; rfl, by simp, by simp, by simp, by simp, by simp, by simp, by simp, by simp⟩
  rintro m a st ⟨i, t, rfl, hn, o0, o1, o2, g1, g2, g3, g7, g8, g9, hi, rfl⟩
  rw [e26_b0, g3, g7, g8, g9]
  by_cases hlt : i < l.length
  · have hw : IntKind.i64.wrap ((i : Int) + 1) = (i : Int) + 1 := wrap64 (by omega)
    have hi2 : (i : Int) < l.length := by omega
    have hfi := hf i hlt
    have hgd : l.getD i 0 = l[i] := getD_of hlt
    rw [hgd] at hfi
    have hx : l[i] = ((l[i].toNat : Nat) : Int) := by omega
    have hs : ∀ e, binK .shl e (.int .u64 1) (.int .i64 l[i]) = some (U64 (2 ^ l[i].toNat)) := fun e => by rw [hx]; exact bin_shlU e _ (by omega)
    have ho := fun e => bin_orU e (pm l i) (2 ^ l[i].toNat) (pm_lt l hf i hi) (Nat.pow_lt_pow_right (by omega) (by omega))
    have hm : pm l (i + 1) = pm l i ||| 2 ^ l[i].toNat := by simp only [pm, hgd]
    have hst := storeN_one (v := U64 (pm l (i + 1))) o2 (off := 0) (by simp [rw3]) rfl
    have hrow : (rw3 (pm l i) 0 0).set 0 (U64 (pm l (i + 1))) = rw3 (pm l (i + 1)) 0 0 := rfl
    rw [hrow] at hst
    simp only [bin_lss, reO_some, bindP_run, idxK_sl, idx_I, hlt, if_true, ld_I, List.getElem?_eq_getElem hlt, Option.map_some, condP_true, hs, ho, bin_add, hw, hi2, decide_true, idxK_arr0, show (0 < 3) = True by simp, movP_ptr, loadA_ptr, o2, ldO_one, rw3,
      List.getElem?_cons_zero, belL_cons, belL_nil, bel_ptr, hn, Nat.zero_mul, Nat.zero_add, show (2 < 3) = True by simp, Bool.and_true, andP_true]
    rw [← hm, hst]
    simp only [bindP_run, belL_cons, belL_nil, bel_ptr, bel_int, hn, show (2 < 3) = True by simp, decide_true, Bool.and_true, bsel_true, nextLe_eq, set_next, Nat.le_refl, andP_true]
    refine ⟨l.length - (i + 1), by omega, i + 1, _, rfl, by simp [hn], ?_, ?_, ?_, ?_, ?_, ?_, ?_, ?_, ?_, by omega, rfl⟩ <;> first | (simp [g1, g2, g3, g7, g8, set_obj, o0, o1, hn]; done) | (simp [set_obj, o1]; rfl)
  · have hi2 : ¬ (i : Int) < l.length := by omega
    obtain rfl : i = l.length := by omega
    have hst : storeN .one (ptr 2 1) (.int .u64 1) st = .ok junk (st.setObj 2 (rowOf (rw3 (pm l l.length) 1 0) 0 true)) := storeN_one o2 (off := 1) (by simp [rw3]) rfl
    have hr : ∀ (st : St) (a b c : Nat), st.obj 1 = rowOf (rw3 0 0 0) 0 true → storeN (.agg 3) (ptr 1 0) (.agg ⟨rw3 a b c⟩) st = .ok junk (st.setObj 1 (rowOf (rw3 a b c) 0 true)) :=
      fun st a b c h => storeN_agg (cs := rw3 a b c) h (off := 0) (k := 3) rfl (by simp [rw3])
    have hl3 : ∀ a b c st, ldO (.agg 3) 0 (rowOf (rw3 a b c) 0 true) st = .ok (.agg ⟨rw3 a b c⟩) st := fun a b c st => by rw [ldO_agg]; rfl
    have hc : ∀ (st : St) a b c, st.obj 1 = rowOf (rw3 a b c) 0 true → cellR (.agg 3) (ptr 1 0) st = some (.agg ⟨rw3 a b c⟩) := fun st a b c h => cellR_row h rfl
    have hsn : ∀ st a b c, snapV false st snapD (.agg ⟨rw3 a b c⟩) = some (.agg ⟨rw3 a b c⟩) := fun st a b c => rfl
    simp only [bin_lss, hi2, reO_some, bindP_run, condP_false, decide_false, blockK_exit, if_true, seqK_normal, e26_r0, fs_cons, fs_nil]
    cases b with
    | true =>
      simp [g1, g2, g3, o0, encN, hst, hl3, set_obj, o26]
      rw [hr _ _ _ _ (by simp [set_obj, o1])]
      simp only [bindP_run, ob, if_true, g2]
      rw [hc _ (pm l l.length) 1 0 (by simp [set_obj])]
      first | exact hsn _ _ _ _ | (refine bindP.mk _ _ rfl ?_; exact hsn _ _ _ _)
    | false =>
      simp [g1, g2, g3, o0, o2, encN, hst, hl3, set_obj, o26]
      rw [hr _ _ _ _ (by simp [set_obj, o1])]
      simp only [bindP_run, ob, g2]
      rw [hc _ (pm l l.length) 0 0 (by simp [set_obj])]
      first | exact hsn _ _ _ _ | (refine bindP.mk _ _ rfl ?_; exact hsn _ _ _ _)
end Go.Proofs.YteoemmgelalcaaaGreat

set_option autoImplicit false
set_option maxRecDepth 100000
set_option linter.unusedSimpArgs false
set_option linter.unusedVariables false
namespace Go.Proofs.YteoemmgelalcaaaGreat.Ev
open Go
theorem bin_rem (e : Ek) (k : IntKind) (a b : Int) (hb : b ≠ 0) : binK .rem e (.int k a) (.int k b) = some (.int k (a.tmod b)) := by
  rw [binI]
  show bsel (iEq b 0) none (some (Value.int k (a.tmod b))) = _
  have : iEq b 0 = false := by rw [iEq_eq]; simpa using hb
  rw [this]; rfl
theorem conv_int (k k' : IntKind) (n : Int) (st : St) : convK (.int k) (.int k' n) st = some (.int k (k.wrap n)) := by
  show some (Value.int k (wrapF k n)) = _
  rw [wrapF_eq]
end Go.Proofs.YteoemmgelalcaaaGreat.Ev
namespace Go.Proofs.YteoemmgelalcaaaGreat
open Go.Proofs.YteoemmgelalcaaaGreat.Ev
/-! # fits 27 -/
theorem p27 (a b c x : Nat) (ha : a < 2 ^ 64) (hb : b ≤ 1) (hx : x < 2 ^ 64) : PurOk Tryz.prog 27 [.agg ⟨rw3 a b c⟩, U64 x] (.bool (decide (cnt (x &&& a) 64 % 2 = b))) := by
  refine pur_wp (cs := [c35]) (isP := isP) (keep := false) mixed ?_
  have K35 := fun st => @k35 [c35] rfl (x &&& a) (Nat.and_lt_two_pow _ ha) st
  have hand := fun e => bin_andU e x a hx ha
  have hrem := fun e => bin_rem e .i64 ((cnt (x &&& a) 64 : Nat) : Int) 2 (by omega)
  have hw : IntKind.i64.wrap (b : Int) = b := wrap64 (by omega)
  rw [e27]
  simp only [boxN_agg, bindP_run, S0_next, idxK_arr0, idxK_arr1, show (0 < 3) = True by simp, show (1 < 3) = True by simp, if_true, movP_ptr, reO_some, loadA_ptr, push_obj, push_next, ldO_one, rw3, List.getElem?_cons_zero, List.getElem?_cons_succ, Nat.zero_mul, Nat.zero_add, Nat.one_mul,
    belL_cons, belL_nil, bel_ptr, bel_int, bel_func, show (0 < 1) = True by simp, decide_true, Bool.and_true, andP_true, hand, K35, bindO_some, hrem, conv_int, hw, bin_eql]
  have e : decide (((cnt (x &&& a) 64 : Nat) : Int).tmod 2 = (b : Int)) = decide (cnt (x &&& a) 64 % 2 = b) := by
    rw [decide_eq_decide, Int.tmod_eq_emod_of_nonneg (by omega)]
    omega
  rw [e]
  rfl
noncomputable def c27 : Con Tryz.prog := mkCon 27 false (fun q : Nat × Nat × Nat × Nat => [.agg ⟨rw3 q.1 q.2.1 q.2.2.1⟩, U64 q.2.2.2]) (fun q => q.1 < 2 ^ 64 ∧ q.2.1 ≤ 1 ∧ q.2.2.2 < 2 ^ 64) (fun q => .bool (decide (cnt (q.2.2.2 &&& q.1) 64 % 2 = q.2.1)))
  (fun ⟨_, _, _, _⟩ ⟨_, _, _, _⟩ h => by simp [rw3] at h; obtain ⟨⟨h1, h2, h3⟩, h4⟩ := h; simp; omega) (fun q h => p27 q.1 q.2.1 q.2.2.1 q.2.2.2 h.1 h.2.1 h.2.2)
theorem rw3_pv (a b c : Nat) : Pv 8 (.agg ⟨rw3 a b c⟩) := (Pv.agg (d := 0) fun u hu => by
  simp only [rw3, List.mem_cons, List.not_mem_nil, or_false] at hu
  rcases hu with rfl | rfl | rfl <;> exact .int _ _).mono (by omega)
theorem k27 {cs : List (Con Tryz.prog)} (h : cs.find? (fun c => c.f == 27) = some c27) (a b c x : Nat) (ha : a < 2 ^ 64) (hb : b ≤ 1) (hx : x < 2 ^ 64) (st : St) : pcall (orcL cs) 27 [.agg ⟨rw3 a b c⟩, U64 x] st = some (.bool (decide (cnt (x &&& a) 64 % 2 = b))) :=
  pcall_mk h (a, b, c, x) ⟨ha, hb, hx⟩ (pv2 (rw3_pv _ _ _) ((Pv.int _ _).mono (by omega))) st

/-! # keeps 30 -/
def par (l : List Int) (n : List Bool) : Nat → Bool
  | 0 => false
  | i + 1 => par l n i != n.getD (l.getD i 0).toNat false
def Fits (l : List Int) (n : List Bool) : Prop := ∀ i, i < l.length → 0 ≤ l.getD i 0 ∧ l.getD i 0 < n.length
theorem p30 (id : Int) (l : List Int) (b : Bool) (n : List Bool) (hf : Fits l n) (hl : l.length ≤ 1000) (hn : n.length ≤ 1000) : PurOk Tryz.prog 30 [.agg ⟨encN id l b⟩, encB n] (.bool (par l n l.length == b)) := by
  refine pur_wp (cs := []) (isP := isP) (keep := false) mixed ?_
  rw [e30]
  simp only [boxN_agg, bindP_run, S0_next]
  refine loop_rule (isP := isP) (fun m a st => ∃ (i : Nat) (t : Regs), a = ⟨28, t, []⟩ ∧ st = S0.push (rowOf (encN id l b) 0 true) ∧
    gt t 1 = encB n ∧ gt t 2 = ptr 0 0 ∧ gt t 5 = .bool (par l n i) ∧ gt t 6 = I64 i ∧
    i ≤ l.length ∧ m = l.length - i) ?_ l.length _ _ ⟨0, _, rfl, rfl, by simp, by simp, by simp [par], by simp, by simp, by simp⟩
  rintro m a st ⟨i, t, rfl, rfl, g1, g2, g5, g6, hi, rfl⟩
  rw [e30_b0, g1, g2, g5, g6]
  by_cases hlt : i < l.length
  · have hw : IntKind.i64.wrap ((i : Int) + 1) = (i : Int) + 1 := wrap64 (by omega)
    have hi2 : (i : Int) < l.length := by omega
    have hfi := hf i hlt
    have hgd : l.getD i 0 = l[i] := getD_of hlt
    rw [hgd] at hfi
    obtain ⟨k, hk⟩ : ∃ k : Nat, l[i] = (k : Int) := ⟨l[i].toNat, by omega⟩
    have hlt2 : k < n.length := by omega
    have hp : par l n (i + 1) = (par l n i != n[k]) := by simp [par, hlt, List.getD, hlt2, hk]
    have hne : ∀ a b : Bool, (!(a == b)) = (a != b) := fun a b => rfl
    simp [push_obj, encN, hlt, hi2, hw, hk, hlt2]
    refine ⟨l.length - (i + 1), by omega, g1, g2, i + 1, ?_, ?_, by omega, rfl⟩
    · rw [hp]; cases par l n i <;> cases n[k] <;> rfl
    · push_cast; rfl
  · have hi2 : ¬ (i : Int) < l.length := by omega
    obtain rfl : i = l.length := by omega
    simp [hi2, push_obj, encN, e30_r0, o30, g2, g5]
noncomputable def c30 : Con Tryz.prog := mkCon 30 false (fun q : (Int × List Int × Bool) × List Bool => [.agg ⟨encN q.1.1 q.1.2.1 q.1.2.2⟩, encB q.2]) (fun q => Fits q.1.2.1 q.2 ∧ q.1.2.1.length ≤ 1000 ∧ q.2.length ≤ 1000) (fun q => .bool (par q.1.2.1 q.2 q.1.2.1.length == q.1.2.2))
  (fun ⟨⟨_, _, _⟩, _⟩ ⟨⟨_, _, _⟩, _⟩ h => by simp [encN] at h; obtain ⟨⟨h1, h2, h3⟩, h4⟩ := h; rw [encI_inj h2, encB_inj h4, h1, h3]) (fun q h => p30 q.1.1 q.1.2.1 q.1.2.2 q.2 h.1 h.2.1 h.2.2)
end Go.Proofs.YteoemmgelalcaaaGreat

set_option autoImplicit false
set_option linter.unusedSimpArgs false
set_option linter.unusedVariables false
namespace Go.Proofs.YteoemmgelalcaaaGreat
open Go.Proofs.YteoemmgelalcaaaGreat.Ev
/-! # The parity of the notched places -/
theorem cnt_succ (m n : Nat) : cnt m (n + 1) = cnt m n + ob (m.testBit n) := by
  unfold cnt
  rw [List.range_succ, List.countP_append, List.countP_singleton]
  cases m.testBit n <;> rfl
theorem cnt_or {X p k : Nat} (hp : p.testBit k = false) : ∀ n, cnt (X &&& (p ||| 2 ^ k)) n = cnt (X &&& p) n + (if k < n then ob (X.testBit k) else 0)
  | 0 => rfl
  | n + 1 => by
    rw [cnt_succ, cnt_succ, cnt_or hp n, Nat.testBit_and, Nat.testBit_or, Nat.testBit_two_pow, Nat.testBit_and]
    by_cases e : k = n
    · subst e
      rw [if_neg (by omega), if_pos (by omega), hp]
      simp [ob]
    · have h2 : (k < n + 1) = (k < n) := by rw [eq_iff_iff]; omega
      simp only [e, decide_false, Bool.or_false, h2]
      omega
theorem okP_at {n : Int} {l : List Int} (h : okP n l = true) {i : Nat} (hi : i < l.length) : 0 ≤ l.getD i 0 ∧ l.getD i 0 ≤ n - 1 ∧ (0 < i → l.getD (i - 1) 0 < l.getD i 0) := by
  have := List.all_eq_true.1 h i (List.mem_range.2 hi)
  unfold okA isF at this
  rw [Bool.and_eq_true, Bool.and_eq_true, decide_eq_true_eq, decide_eq_true_eq, Bool.or_eq_true, decide_eq_true_eq] at this
  refine ⟨this.1.1, this.1.2, fun h0 => ?_⟩
  rcases this.2 with h1 | h1
  · simp at h1; omega
  · exact h1
theorem okP_mono {n : Int} {l : List Int} (h : okP n l = true) : ∀ (i j : Nat), i < l.length → j < i → l.getD j 0 < l.getD i 0
  | 0, j, _, hj => by omega
  | i + 1, j, hi, hj => by
    have h1 := (okP_at h hi).2.2 (by omega)
    rw [Nat.add_sub_cancel] at h1
    by_cases e : j = i
    · subst e; exact h1
    · have := okP_mono h i j (by omega) (by omega)
      omega
theorem pm_bit {n : Int} {l : List Int} (h : okP n l = true) : ∀ (i k : Nat), i ≤ l.length → (pm l i).testBit k = true → ∃ j, j < i ∧ (l.getD j 0).toNat = k
  | 0, k, _, hk => by simp [pm] at hk
  | i + 1, k, hi, hk => by
    unfold pm at hk
    rw [Nat.testBit_or, Bool.or_eq_true] at hk
    rcases hk with hk | hk
    · obtain ⟨j, h1, h2⟩ := pm_bit h i k (by omega) hk
      exact ⟨j, by omega, h2⟩
    · rw [Nat.testBit_two_pow] at hk
      exact ⟨i, by omega, by simpa using hk⟩
theorem parity {l : List Int} {x : List Bool} (h : okP x.length l = true) (hx : x.length ≤ 62) : ∀ i, i ≤ l.length → cnt (mk x x.length &&& pm l i) 64 % 2 = ob (par l x i)
  | 0, _ => by
    have : mk x x.length &&& pm l 0 = 0 := by simp [pm]
    rw [this]
    have : cnt 0 64 = 0 := by decide
    rw [this]; rfl
  | i + 1, hi => by
    have ih := parity h hx i (by omega)
    have ha := okP_at h (i := i) (by omega)
    have hp : (pm l i).testBit (l.getD i 0).toNat = false := by
      rw [Bool.eq_false_iff]
      intro hb
      obtain ⟨j, h1, h2⟩ := pm_bit h i _ (by omega) hb
      have h3 := okP_mono h i j (by omega) h1
      have h4 := okP_at h (i := j) (by omega)
      omega
    show cnt (mk x x.length &&& (pm l i ||| 2 ^ (l.getD i 0).toNat)) 64 % 2 = ob (par l x i != x.getD (l.getD i 0).toNat false)
    rw [cnt_or hp, if_pos (by omega), mk_bit]
    have hd : decide ((l.getD i 0).toNat < x.length) = true := decide_eq_true (by omega)
    rw [hd, Bool.true_and, Nat.add_mod, ih]
    cases par l x i <;> cases x.getD (l.getD i 0).toNat false <;> rfl
theorem okP_fit {l : List Int} {x : List Bool} (h : okP x.length l = true) (hx : x.length ≤ 62) : Fit l := fun i hi => by
  have := okP_at h hi
  omega
theorem okP_fits {l : List Int} {x : List Bool} (h : okP x.length l = true) : Fits l x := fun i hi => by
  have := okP_at h hi
  omega
theorem okP_len {n : Nat} {l : List Int} (h : okP n l = true) : l.length ≤ n := by
  have key : ∀ i, i < l.length → (i : Int) ≤ l.getD i 0 := fun i => by
    induction i with
    | zero => intro hi; exact (okP_at h hi).1
    | succ i ih =>
      intro hi
      have h1 := ih (by omega)
      have h2 := (okP_at h hi).2.2 (by omega)
      rw [Nat.add_sub_cancel] at h2
      push_cast; omega
  by_cases h0 : l.length = 0
  · omega
  · have h1 := key (l.length - 1) (by omega)
    have h2 := okP_at h (i := l.length - 1) (by omega)
    omega
end Go.Proofs.YteoemmgelalcaaaGreat

set_option autoImplicit false
set_option maxRecDepth 100000
set_option linter.unusedSimpArgs false
set_option linter.unusedVariables false
namespace Go.Proofs.YteoemmgelalcaaaGreat.Ev
open Go
theorem snap_row {keep : Bool} {st : St} {nm n c k : Nat} {xs : List Value} {ex : Bool} (ho : st.obj nm = rowOf xs k ex) (hn : 0 < n) (hx : xs.length = n * k) (hp : ∀ u, u ∈ xs → snapV keep st 7 u = some u) : snapV keep st snapD (.slice (some ⟨nm, 0, none⟩) n c) = some (fsl n xs) := by
  show bsel (Nat.beq n 0) (some voidS) (cellsK (st.obj nm) none fun dd m es _ tr =>
        bsel (Nat.ble (Nat.add 0 (Nat.mul n es)) m) (osel (mapO (snapV keep st 7) (Bt.sub tr (half dd) 0 (Nat.add 0 (Nat.mul n es)) [])) none fun cs => some (fsl n cs)) none) = _
  have hz : Nat.beq n 0 = false := by cases n with | zero => omega | succ n => rfl
  rw [hz, ho, rowOf_eq]
  show bsel (Nat.ble (0 + n * k) xs.length) (osel (mapO (snapV keep st 7) (Bt.sub (Bt.ofL (dep xs.length) xs) (half (dep xs.length)) 0 (0 + n * k) [])) none fun cs => some (fsl n cs)) none = _
  rw [ble_iff.2 (by omega), sub_all (by omega), bsel_true, List.drop_zero, ← hx, List.take_length, mapO_same hp]; rfl
/-- The first that is appended to an empty row of one's own. -/
theorem append_own0 {nm m k : Nat} {st : St} {xs new : List Value} {x : Value} {ex : Bool} (ho : st.obj nm = rowOf xs k ex) (hl : lenA x = some m) (hm : 0 < m) (hb : m ≤ 1048576) (hL : listA st k x m = some new) :
    appendN (.list k) (.slice (some ⟨nm, 0, none⟩) 0 0) x st = .ok (.slice (some ⟨st.next, 0, none⟩) m m) ((st.setObj nm .dead).push (rowOf new k false)) := by
  show osel (lenA x) Re.no (fun m => osel (listA st k x m) Re.no fun new => appendK k (some ⟨nm, 0, none⟩) 0 0 (Nat.add 0 m) new st) = _
  rw [hl, osel_some, hL, osel_some]
  show bsel (Nat.ble (0 + m) 1048576) (bsel (Nat.ble (0 + m) 0) _ (growK k (some ⟨nm, 0, none⟩) 0 (0 + m) new st)) Re.no = _
  have h2 : Nat.ble (0 + m) 0 = false := by
    cases hb : Nat.ble (0 + m) 0
    · rfl
    · have := ble_iff.1 hb; omega
  rw [ble_iff.2 (by omega), h2, bsel_true, Nat.zero_add]
  show growK k (some ⟨nm, 0, none⟩) 0 m new st = _
  show cellsK (st.obj nm) Re.no (fun d _ es ex tr => bsel (Nat.beq es k) (allK (rowOf ([] ++ new) k false) (fun nm => .slice (some ⟨nm, 0, none⟩) m m) (st.setObj nm .dead)) .no) = _
  rw [ho, rowOf_eq]
  show bsel (Nat.beq k k) (allK (rowOf ([] ++ new) k false) (fun nm => .slice (some ⟨nm, 0, none⟩) m m) (st.setObj nm .dead)) .no = _
  rw [beq_iff.2 rfl, bsel_true, allK_eq, set_next, List.nil_append]
/-- From a plain contract. -/
theorem pur_of_calls {P : Program} {f : FuncId} {args : List Value} {v : Value} (h : ∀ (φ : Fz) (w : World) (args' : List Value), FzOk φ w → VRL (.pur φ) args args' → Calls P f ⟨args'⟩ w (PurEnds φ w v)) : PurOk P f args v := by
  intro φ w args' hφ ha n ro
  have h1 : CallsIn Fence.wide n P f ⟨args'⟩ w (PurEnds φ w v) := callsIn_wide.2 (h φ w args' hφ ha)
  cases ro with
  | none => exact h1
  | some l => exact h1
end Go.Proofs.YteoemmgelalcaaaGreat.Ev
namespace Go.Proofs.YteoemmgelalcaaaGreat
open Go.Proofs.YteoemmgelalcaaaGreat.Ev
theorem eq_fsl (n : Nat) (cs : List Value) (hn : 0 < n) : binK .eql .slice (fsl n cs) (.slice none 0 0) = some (.bool false) := by
  cases n with
  | zero => omega
  | succ n => rfl
theorem p25 (l : List Int) (h0 : 0 < l.length) (hl : l.length ≤ 1000) : PurOk Tryz.prog 25 [encI l] (encI l) := by
  refine pur_wp (cs := []) (isP := isP) (keep := false) mixed ?_
  rw [e25]
  rw [encI, eq_fsl _ _ h0]
  simp only [reO_some, bindP_run, condP_false]
  have hb : ∀ st, buildSliceA (.mk 1 [(.int .i64 (0))] true) 0 [] st = .ok (.slice (some ⟨st.next, 0, none⟩) 0 0) (st.push (rowOf [] 1 true)) := fun st => by
    show allK (rowOf [] 1 true) (fun nm => Value.slice (some ⟨nm, 0, none⟩) 0 0) st = _
    rw [allK_eq]
  rw [hb, bindP_run, append_own0 (xs := []) (ex := true) (m := l.length) (new := l.map (Value.int .i64)) (by simp [push_obj]) rfl h0 (by omega) (by rw [listA_fsl (by simp)]; rw [List.take_of_length_le (by simp)]), bindP_run]
  refine snap_row (xs := l.map (Value.int .i64)) (k := 1) (ex := false) (by simp [push_obj]) h0 (by simp) ?_
  intro u hu
  obtain ⟨n, _, rfl⟩ := List.mem_map.1 hu
  exact (Pv.int .i64 n).snap _ _ _ (by omega)
end Go.Proofs.YteoemmgelalcaaaGreat

set_option linter.unusedSimpArgs false
set_option linter.unusedVariables false
namespace Go.Proofs.YteoemmgelalcaaaGreat
open Go.RowKit
/-! slices.Clone 25 of an empty slice, nil or not. -/
theorem below_new (w : World) (o : Obj) : Below w.heap.size w (w.alloc o) := (Below.refl _ _).alloc (Nat.le_refl _) _
theorem int_info : (Tryz.prog.info? 3).map (fun i => (i.zero, i.size, i.bytes)) = some (some (.int .i64 0), 1, 8) := by kernel_rfl
theorem eqlNil (A : Option Addr) (n c : Nat) (w : World) : (binOp .eql 25 (.slice A n c) (.slice none 0 0)).run Tryz.prog w = .ok (.bool A.isNone) w := by
  simp only [binOp]
  simp [run_equal_slice_nil w 25 3 A n c Tryz.underlying25]
set_option maxRecDepth 100000 in
set_option maxHeartbeats 1000000 in
theorem clone0 (A : Option Addr) (cap : Nat) (w : World) : Calls Tryz.prog 25 #[.slice A 0 cap] w fun e w' => ∃ A' c', e = .returned (.slice A' 0 c') ∧ Below w.heap.size w w' := by
  cases A with
  | none =>
    have he := fun w => eqlNil (none : Option Addr) 0 cap w
    go_enter Tryz.func25, Tryz.ntmps25
    go_wp2_with fail
    go_ret
    exact ⟨none, 0, rfl, Below.refl _ _⟩
  | some ad =>
    have he := fun w => eqlNil (some ad) 0 cap w
    go_enter Tryz.func25, Tryz.ntmps25
    obtain ⟨i0, hi, hz0, hz1, hz2⟩ := info_parts int_info
    have hown0 : (w.alloc (.cells #[] 3)).ownsRow w.heap.size 3 1 (.slice (some ⟨w.heap.size, 0, none⟩) 0 0) 0 [] := ⟨rfl, .inr ⟨w.heap.size, 0, #[], rfl, Nat.le_refl _, heap_alloc_new w _, Nat.le_refl _, by simp [maxLen], rfl, rfl⟩⟩
    have hb0 := below_new w (.cells #[] 3)
    go_wp2_with (at_builtin; refine wpList_append_own _ rfl (.tmp 5) (.tmp 6) 25 rfl w.heap.size 3 i0 (.int .i64 0) 1 8 Tryz.underlying25 hi hz0 hz1 hz2 rfl (by decide) (.slice (some ⟨w.heap.size, 0, none⟩) 0 0) 0 [] rfl hown0 ad 0 cap [] rfl (by simp) (fun j u hj => by simp at hj) (fun u hu => by simp at hu) (by simp [maxLen]) (by omega) (by simp) ?_; intro v' w' h1 h2 h3)
    have hb : Below w.heap.size w w' := hb0.grown h2 (by simp) fun k hk => by cases hk; exact Nat.le_refl _
    obtain ⟨A', c', rfl⟩ : ∃ A' c', v' = .slice A' 0 c' := by
      rcases h1.2 with ⟨rfl, hn⟩ | ⟨g, cap, cur, rfl, _⟩
      · exact ⟨none, 0, rfl⟩
      · exact ⟨_, _, rfl⟩
    go_ret
    exact ⟨⟨A', c', rfl⟩, hb⟩
end Go.Proofs.YteoemmgelalcaaaGreat

set_option autoImplicit false
set_option maxRecDepth 100000
set_option linter.unusedSimpArgs false
set_option linter.unusedVariables false
namespace Go.Proofs.YteoemmgelalcaaaGreat.Ev
open Go
/-- Nothing is frozen anew. -/
theorem purEnds_below {φ : Fz} {w w' : World} {v v' : Value} (hφ : FzOk φ w) (hv : VR (.pur φ) v v') (hb : RowKit.Below w.heap.size w w') : PurEnds φ w v (.returned v') w' := by
  refine ⟨φ, v', rfl, hv, fun _ _ h => h, fun _ _ h => .inl h, ?_, hb.size, fun b h => hb.block b h, hb.tape, hb.os, hb.output⟩
  intro b c h
  obtain ⟨e, he⟩ := hφ b c h
  have hlt : b < w.heap.size := by
    rcases Nat.lt_or_ge b w.heap.size with h1 | h1
    · exact h1
    · rw [Array.getElem?_eq_none h1] at he; cases he
  exact ⟨e, (hb.block b hlt).trans he⟩
theorem vr_void {σ : Nm} {v : Value} (h : VR σ (fsl 0 []) v) : ∃ a c, v = .slice a 0 c := by
  unfold fsl at h
  cases h with
  | fsl n c' b o cs ys c h0 => omega
  | fnil a c' => exact ⟨a, c', rfl⟩
end Go.Proofs.YteoemmgelalcaaaGreat.Ev
namespace Go.Proofs.YteoemmgelalcaaaGreat
open Go.Proofs.YteoemmgelalcaaaGreat.Ev
theorem p25_0 : PurOk Tryz.prog 25 [fsl 0 []] (fsl 0 []) := by
  refine pur_of_calls fun φ w args' hφ ha => ?_
  obtain ⟨hl, ha⟩ := ha
  match args', hl with
  | [v], _ =>
    obtain ⟨a, c, rfl⟩ := vr_void (ha 0 _ v rfl rfl)
    refine (clone0 a c w).mono fun e w' ⟨A', c', he, hb⟩ => ?_
    rw [he]
    exact purEnds_below hφ (VR.fnil A' c') hb
theorem clone25 (l : List Int) (hl : l.length ≤ 1000) : PurOk Tryz.prog 25 [encI l] (encI l) := by
  by_cases h : 0 < l.length
  · exact p25 l h hl
  · have : l = [] := by cases l with | nil => rfl | cons a l => simp at h
    subst this
    exact p25_0
noncomputable def c25 : Con Tryz.prog := mkCon 25 false (fun l : List Int => [encI l]) (fun l => l.length ≤ 1000) (fun l => encI l) (fun a b h => encI_inj (by simpa using h)) (fun l h => clone25 l h)
theorem k25 {cs : List (Con Tryz.prog)} (h : cs.find? (fun c => c.f == 25) = some c25) (l : List Int) (hl : l.length ≤ 1000) (st : St) : pcall (orcL cs) 25 [encI l] st = some (encI l) :=
  pcall_mk h l hl (pv1 (pII l)) st
noncomputable def c24 : Con Tryz.prog := mkCon 24 false (fun q : List Int × Int => [encI q.1, I64 q.2]) (fun q => (0 ≤ q.2 ∧ q.2 ≤ 1000) ∧ q.1.length ≤ 1000) (fun q => .bool (okP q.2 q.1)) (fun ⟨_, _⟩ ⟨_, _⟩ h => by simp at h; rw [encI_inj h.1, h.2]) (fun q h => p24 q.1 q.2 h.1 h.2)
theorem k24 {cs : List (Con Tryz.prog)} (h : cs.find? (fun c => c.f == 24) = some c24) (l : List Int) (n : Int) (hn : 0 ≤ n ∧ n ≤ 1000) (hl : l.length ≤ 1000) (st : St) : pcall (orcL cs) 24 [encI l, I64 n] st = some (.bool (okP n l)) :=
  pcall_mk h (l, n) ⟨hn, hl⟩ (pv2 (pII l) (pI0 n)) st
noncomputable def c29 : Con Tryz.prog := mkCon 29 false (fun q : Int × List Int => [I64 q.1, encI q.2]) (fun q => (0 ≤ q.1 ∧ q.1 ≤ 1000) ∧ q.2.length ≤ 1000) (fun q => .bool (okP q.1 q.2)) (fun ⟨_, _⟩ ⟨_, _⟩ h => by simp at h; rw [encI_inj h.2, h.1]) (fun q h => p29 q.1 q.2 h.1 h.2)
theorem k29 {cs : List (Con Tryz.prog)} (h : cs.find? (fun c => c.f == 29) = some c29) (l : List Int) (n : Int) (hn : 0 ≤ n ∧ n ≤ 1000) (hl : l.length ≤ 1000) (st : St) : pcall (orcL cs) 29 [I64 n, encI l] st = some (.bool (okP n l)) :=
  pcall_mk h (n, l) ⟨hn, hl⟩ (pv2 (pI0 n) (pII l)) st
noncomputable def c23 : Con Tryz.prog := mkCon 23 false (fun l : List Bool => [encB l]) (fun l => l.length ≤ 63) (fun l => U64 (mk l l.length)) (fun a b h => encB_inj (by simpa using h)) (fun l h => p23 l h)
theorem k23 {cs : List (Con Tryz.prog)} (h : cs.find? (fun c => c.f == 23) = some c23) (l : List Bool) (hl : l.length ≤ 63) (st : St) : pcall (orcL cs) 23 [encB l] st = some (U64 (mk l l.length)) :=
  pcall_mk h l hl (pv1 (pBB l)) st
theorem encN_pv (id : Int) (l : List Int) (b : Bool) : ∀ u, u ∈ encN id l b → Pv 1 u := by
  intro u hu
  simp only [encN, List.mem_cons, List.not_mem_nil, or_false] at hu
  rcases hu with rfl | rfl | rfl
  · exact (Pv.int _ _).mono (by omega)
  · exact encI_pv _
  · exact (Pv.bool _).mono (by omega)
theorem aN_pv (id : Int) (l : List Int) (b : Bool) : Pv 8 (.agg ⟨encN id l b⟩) := (Pv.agg (encN_pv id l b)).mono (by omega)
theorem encN_inj {a b : Int} {l m : List Int} {x y : Bool} (h : encN a l x = encN b m y) : a = b ∧ l = m ∧ x = y := by
  simp [encN] at h
  exact ⟨h.1, encI_inj h.2.1, h.2.2⟩
noncomputable def c26 : Con Tryz.prog := mkCon 26 false (fun q : Int × List Int × Bool => [.agg ⟨encN q.1 q.2.1 q.2.2⟩]) (fun q => Fit q.2.1 ∧ q.2.1.length ≤ 1000) (fun q => .agg ⟨rw3 (pm q.2.1 q.2.1.length) (ob q.2.2) 0⟩)
  (fun ⟨_, _, _⟩ ⟨_, _, _⟩ h => by simp only [List.cons.injEq, Value.agg.injEq, Array.mk.injEq, and_true] at h; obtain ⟨rfl, rfl, rfl⟩ := encN_inj h; rfl) (fun q h => p26 q.1 q.2.1 q.2.2 h.1 h.2)
theorem k26 {cs : List (Con Tryz.prog)} (h : cs.find? (fun c => c.f == 26) = some c26) (id : Int) (l : List Int) (b : Bool) (hf : Fit l) (hl : l.length ≤ 1000) (st : St) :
    pcall (orcL cs) 26 [.agg ⟨encN id l b⟩] st = some (.agg ⟨rw3 (pm l l.length) (ob b) 0⟩) :=
  pcall_mk h (id, l, b) ⟨hf, hl⟩ (pv1 (aN_pv _ _ _)) st
theorem k30 {cs : List (Con Tryz.prog)} (h : cs.find? (fun c => c.f == 30) = some c30) (id : Int) (l : List Int) (b : Bool) (n : List Bool) (hf : Fits l n) (hl : l.length ≤ 1000) (hn : n.length ≤ 1000) (st : St) :
    pcall (orcL cs) 30 [.agg ⟨encN id l b⟩, encB n] st = some (.bool (par l n l.length == b)) :=
  pcall_mk h ((id, l, b), n) ⟨hf, hl, hn⟩ (pv2 (aN_pv _ _ _) (pBB n)) st
end Go.Proofs.YteoemmgelalcaaaGreat

set_option autoImplicit false
set_option maxRecDepth 100000
set_option linter.unusedSimpArgs false
set_option linter.unusedVariables false
namespace Go.Proofs.YteoemmgelalcaaaGreat.Ev
open Go
theorem snap_row' {keep : Bool} {st : St} {d nm n c k : Nat} {xs : List Value} {ex : Bool} (ho : st.obj nm = rowOf xs k ex) (hn : 0 < n) (hx : xs.length = n * k) (hp : ∀ u, u ∈ xs → snapV keep st d u = some u) : snapV keep st (d + 1) (.slice (some ⟨nm, 0, none⟩) n c) = some (fsl n xs) := by
  show bsel (Nat.beq n 0) (some voidS) (cellsK (st.obj nm) none fun dd m es _ tr =>
        bsel (Nat.ble (Nat.add 0 (Nat.mul n es)) m) (osel (mapO (snapV keep st d) (Bt.sub tr (half dd) 0 (Nat.add 0 (Nat.mul n es)) [])) none fun cs => some (fsl n cs)) none) = _
  have hz : Nat.beq n 0 = false := by cases n with | zero => omega | succ n => rfl
  rw [hz, ho, rowOf_eq]
  show bsel (Nat.ble (0 + n * k) xs.length) (osel (mapO (snapV keep st d) (Bt.sub (Bt.ofL (dep xs.length) xs) (half (dep xs.length)) 0 (0 + n * k) [])) none fun cs => some (fsl n cs)) none = _
  rw [ble_iff.2 (by omega), sub_all (by omega), bsel_true, List.drop_zero, ← hx, List.take_length, mapO_same hp]; rfl
end Go.Proofs.YteoemmgelalcaaaGreat.Ev
namespace Go.Proofs.YteoemmgelalcaaaGreat
open Go.Proofs.YteoemmgelalcaaaGreat.Ev
noncomputable def encG (gs : List (List Int)) : Value := fsl gs.length (gs.map encI)
theorem encG_pv (gs : List (List Int)) : Pv 2 (encG gs) := .fsl fun u hu => by obtain ⟨l, _, rfl⟩ := List.mem_map.1 hu; exact encI_pv l
theorem encG_inj {a b : List (List Int)} (h : encG a = encG b) : a = b := map_inj (fun _ _ h => encI_inj h) (fsl_inj h).2
noncomputable def pG (gs : List (List Int)) (i : Nat) : Value := fpt i (gs.map encI)
@[simp] theorem len_G (l : List (List Int)) (st : St) : lenK .sl (encG l) st = some (I64 l.length) := rfl
@[simp high] theorem idx_G (l : List (List Int)) (i : Nat) : idxS (encG l) i 1 = if i < l.length then some (pG l i) else none := by
  rw [encG, idxS_fsl, Nat.mul_one]; rfl
@[simp high] theorem ld_G (l : List (List Int)) (i : Nat) (st : St) : loadA .one (pG l i) st = reO (l[i]?.map encI) st := by
  rw [pG, loadA_fpt, partK_one, List.getElem?_map]

/-! # Cut -/
/-- The cells of the first notes. -/
noncomputable def cells (x : List Bool) (gs : List (List Int)) : Nat → List Value
  | 0 => []
  | i + 1 => cells x gs i ++ encN ((i : Int) + 1) (gs.getD i []) (par (gs.getD i []) x (gs.getD i []).length)
theorem cells_len (x : List Bool) (gs : List (List Int)) : ∀ i, (cells x gs i).length = i * 3
  | 0 => rfl
  | i + 1 => by rw [cells, List.length_append, cells_len x gs i]; simp [encN]; omega
theorem cells_pv (x : List Bool) (gs : List (List Int)) : ∀ i u, u ∈ cells x gs i → Pv 1 u
  | 0, u, h => by simp [cells] at h
  | i + 1, u, h => by
    rw [cells, List.mem_append] at h
    rcases h with h | h
    · exact cells_pv x gs i u h
    · exact encN_pv _ _ _ u h
noncomputable def encS (n : Int) (k : Nat) (cs : List Value) : Value := .agg ⟨[I64 n, fsl k cs]⟩
/-- Where the notes lie. -/
def At (st : St) (i : Nat) (cs : List Value) (v : Value) : Prop := (i = 0 ∧ v = .slice none 0 0) ∨ (0 < i ∧ ∃ nm ex, 1 < nm ∧ nm < st.next ∧ v = .slice (some ⟨nm, 0, none⟩) i i ∧ st.obj nm = rowOf cs 3 ex)
/-- All places are so, so far. -/
def okG (n : Int) (gs : List (List Int)) (i : Nat) : Prop := ∀ j, j < i → okP n (gs.getD j []) = true
theorem snap_notes {st : St} {i : Nat} {x : List Bool} {gs : List (List Int)} {v : Value} {d : Nat} (h : At st i (cells x gs i) v) (hd : 1 ≤ d) : snapV false st (d + 1) v = some (fsl i (cells x gs i)) := by
  rcases h with ⟨rfl, rfl⟩ | ⟨h0, nm, ex, _, _, rfl, ho⟩
  · rfl
  · exact snap_row' ho h0 (cells_len x gs i) fun u hu => (cells_pv x gs i u hu).snap _ _ _ hd
theorem fit_odd {x : List Bool} {g : List Int} (h : okP x.length g = true) (hx : x.length ≤ 48) : decide (cnt (mk x x.length &&& pm g g.length) 64 % 2 = 0) = !par g x g.length := by
  rw [parity h (by omega) g.length (Nat.le_refl _)]
  cases par g x g.length <;> rfl
/-- One note more. -/
theorem append_note {st : St} {i : Nat} {cs c : List Value} {v : Value} (h : At st i cs v) (hcs : cs.length = i * 3) (hc : c.length = 3) (hi : i ≤ 1000) :
    ∃ st', appendN (.list 3) v (.slice (some ⟨st.next, 0, none⟩) 1 1) (st.push (rowOf c 3 true)) = .ok (.slice (some ⟨st.next + 1, 0, none⟩) (i + 1) (i + 1)) st' ∧ st'.next = st.next + 2 ∧
      st'.obj (st.next + 1) = rowOf (cs ++ c) 3 false ∧ (∀ b, b ≤ 1 → b < st.next → st'.obj b = st.obj b) := by
  have hL : listA (st.push (rowOf c 3 true)) 3 (.slice (some ⟨st.next, 0, none⟩) 1 1) 1 = some c := by
    rw [listA_row (xs := c) (es := 3) (ex := true) (by simp [push_obj]) (by omega) (by omega)]
    simp [hc, List.take_of_length_le]
  rcases h with ⟨rfl, rfl⟩ | ⟨h0, nm, ex, h1, h2, rfl, ho⟩
  · refine ⟨_, append_nil rfl (by omega) (by omega) hL, rfl, ?_, ?_⟩
    · have : cs = [] := List.eq_nil_of_length_eq_zero (by omega)
      subst this
      simp [push_obj]
    · intro b hb hb2
      simp [push_obj, show b ≠ st.next by omega, show b ≠ st.next + 1 by omega]
  · refine ⟨_, append_grow (xs := cs) (ex := ex) (by simp [push_obj, show nm ≠ st.next by omega, ho]) h0 (by omega) rfl (by omega) (by omega) hL, rfl, ?_, ?_⟩
    · simp [push_obj, set_obj]
    · intro b hb hb2
      simp [push_obj, set_obj, show b ≠ st.next by omega, show b ≠ st.next + 1 by omega, show b ≠ nm by omega]
end Go.Proofs.YteoemmgelalcaaaGreat

