import Derived.Test.YtolgomkmilbkgaaGreatV45
import Derived.Test.YtolgomkmilbkgaaGreatF
import Derived.Test.YtolgomkmilbkgaaGreatA
set_option autoImplicit false
set_option maxRecDepth 100000
set_option linter.unusedSimpArgs false
set_option linter.unusedVariables false
namespace Go.Proofs.YtolgomkmilbkgaaGreat
open Go.Proofs.YtolgomkmilbkgaaGreat.Ev

/-! # Values -/
theorem map_inj {α : Type} {f : α → Value} (hf : ∀ a b, f a = f b → a = b) {l l' : List α} (h : l.map f = l'.map f) : l = l' := by
  induction l generalizing l' with
  | nil => cases l' with | nil => rfl | cons a l' => simp at h
  | cons a l ih => cases l' with
    | nil => simp at h
    | cons b l' =>
      simp only [List.map_cons, List.cons.injEq] at h
      rw [hf _ _ h.1, ih h.2]
theorem flat_inj {α : Type} {f : α → List Value} {c : Nat} (hc : 0 < c) (hl : ∀ a, (f a).length = c) (hf : ∀ a b, f a = f b → a = b) {l l' : List α} (h : l.flatMap f = l'.flatMap f) : l = l' := by
  induction l generalizing l' with
  | nil => cases l' with
    | nil => rfl
    | cons a l' =>
      have := congrArg List.length h
      rw [List.flatMap_cons, List.length_append, hl] at this
      simp at this; omega
  | cons a l ih => cases l' with
    | nil =>
      have := congrArg List.length h
      rw [List.flatMap_cons, List.length_append, hl] at this
      simp at this; omega
    | cons b l' =>
      rw [List.flatMap_cons, List.flatMap_cons] at h
      obtain ⟨h1, h2⟩ := List.append_inj h (by rw [hl, hl])
      rw [hf _ _ h1, ih h2]
theorem flat_len {α : Type} {f : α → List Value} {c : Nat} (hl : ∀ a, (f a).length = c) : ∀ l : List α, (l.flatMap f).length = l.length * c
  | [] => by simp
  | a :: l => by rw [List.flatMap_cons, List.length_append, hl, flat_len hl l, List.length_cons, Nat.succ_mul]; omega
theorem flat_drop {α : Type} {f : α → List Value} {c : Nat} (hl : ∀ a, (f a).length = c) : ∀ {l : List α} {i : Nat} (h : i < l.length), ((l.flatMap f).drop (i * c)).take c = f l[i]
  | [], i, h => by simp at h
  | a :: l, 0, h => by rw [List.flatMap_cons, Nat.zero_mul, List.drop_zero, ← hl a, List.take_left']; rfl; rfl
  | a :: l, i + 1, h => by
    rw [List.flatMap_cons, Nat.succ_mul, Nat.add_comm, ← hl a, ← List.drop_drop, List.drop_left, hl a]
    have := flat_drop hl (l := l) (i := i) (by simpa using h)
    rw [this]; rfl
theorem flat_get {α : Type} {f : α → List Value} {c : Nat} (hl : ∀ a, (f a).length = c) {l : List α} {i j : Nat} (h : i < l.length) (hj : j < c) : (l.flatMap f)[i * c + j]? = (f l[i])[j]? := by
  rw [← flat_drop hl h, List.getElem?_take, if_pos hj, List.getElem?_drop]

structure Mkt where
  price : Int
  fare : Int
  closed : Bool
  lo : Int
  hi : Int
structure Br where
  night : Int
  keep : Int
  days : List Mkt
noncomputable def encI (l : List Int) : Value := fsl l.length (l.map (Value.int .i64))
noncomputable def encD (m : Mkt) : List Value := [I64 m.price, I64 m.fare, .bool m.closed, I64 m.lo, I64 m.hi]
noncomputable def encDs (l : List Mkt) : Value := fsl l.length (l.flatMap encD)
noncomputable def encBl (b : Br) : List Value := [I64 b.night, I64 b.keep, encDs b.days]
noncomputable def encB (b : Br) : Value := .agg ⟨encBl b⟩
noncomputable def encPl (b : Br) (m : Bool) : List Value := [I64 b.night, I64 b.keep, encDs b.days, .bool m]
noncomputable def encP (b : Br) (m : Bool) : Value := .agg ⟨encPl b m⟩
theorem encD_len (m : Mkt) : (encD m).length = 5 := rfl
theorem encI_inj {l l' : List Int} (h : encI l = encI l') : l = l' := map_inj (fun a b h => by simpa using h) (fsl_inj h).2
theorem encD_inj {m m' : Mkt} (h : encD m = encD m') : m = m' := by
  obtain ⟨a, b, c, d, e⟩ := m
  obtain ⟨a', b', c', d', e'⟩ := m'
  simp [encD] at h
  obtain ⟨rfl, rfl, rfl, rfl, rfl⟩ := h
  rfl
theorem encDs_inj {l l' : List Mkt} (h : encDs l = encDs l') : l = l' := flat_inj (c := 5) (by omega) encD_len (fun _ _ => encD_inj) (fsl_inj h).2
theorem encB_inj {b b' : Br} (h : encB b = encB b') : b = b' := by
  obtain ⟨a, c, d⟩ := b
  obtain ⟨a', c', d'⟩ := b'
  simp [encB, encBl] at h
  obtain ⟨rfl, rfl, h⟩ := h
  rw [encDs_inj h]
theorem encP_inj {b b' : Br} {m m' : Bool} (h : encP b m = encP b' m') : b = b' ∧ m = m' := by
  obtain ⟨a, c, d⟩ := b
  obtain ⟨a', c', d'⟩ := b'
  simp [encP, encPl] at h
  obtain ⟨rfl, rfl, h, rfl⟩ := h
  rw [encDs_inj h]; exact ⟨rfl, rfl⟩
theorem encI_pv (l : List Int) : Pv 1 (encI l) := .fsl fun u hu => by obtain ⟨n, _, rfl⟩ := List.mem_map.1 hu; exact .int _ n
theorem encD_pv (m : Mkt) : ∀ u, u ∈ encD m → Pv 0 u := by
  intro u hu
  simp only [encD, List.mem_cons, List.not_mem_nil, or_false] at hu
  rcases hu with rfl | rfl | rfl | rfl | rfl
  · exact .int _ _
  · exact .int _ _
  · exact .bool _
  · exact .int _ _
  · exact .int _ _
theorem encDs_pv0 (l : List Mkt) : ∀ u, u ∈ l.flatMap encD → Pv 0 u := fun u hu => by obtain ⟨m, _, hm⟩ := List.mem_flatMap.1 hu; exact encD_pv m u hm
theorem encDs_pv (l : List Mkt) : Pv 1 (encDs l) := .fsl (encDs_pv0 l)
theorem encB_pv (b : Br) : Pv 2 (encB b) := .agg fun u hu => by
  simp only [encBl, List.mem_cons, List.not_mem_nil, or_false] at hu
  rcases hu with rfl | rfl | rfl
  · exact (Pv.int _ _).mono (by omega)
  · exact (Pv.int _ _).mono (by omega)
  · exact encDs_pv _
theorem encP_pv (b : Br) (m : Bool) : Pv 2 (encP b m) := .agg fun u hu => by
  simp only [encPl, List.mem_cons, List.not_mem_nil, or_false] at hu
  rcases hu with rfl | rfl | rfl | rfl
  · exact (Pv.int _ _).mono (by omega)
  · exact (Pv.int _ _).mono (by omega)
  · exact encDs_pv _
  · exact (Pv.bool _).mono (by omega)
theorem aD_pv (m : Mkt) : Pv 1 (.agg ⟨encD m⟩) := .agg (encD_pv m)

/-! # Words -/
@[simp] theorem len_I (l : List Int) (st : St) : lenK .sl (encI l) st = some (I64 l.length) := rfl
@[simp] theorem len_Ds (l : List Mkt) (st : St) : lenK .sl (encDs l) st = some (I64 l.length) := rfl
noncomputable def pI (l : List Int) (i : Nat) : Value := fpt i (l.map (Value.int .i64))
noncomputable def pD (l : List Mkt) (i j : Nat) : Value := fpt (i * 5 + j) (l.flatMap encD)
@[simp high] theorem idx_I (l : List Int) (i : Nat) : idxS (encI l) i 1 = if i < l.length then some (pI l i) else none := by
  rw [encI, idxS_fsl, Nat.mul_one]; rfl
@[simp high] theorem ld_I (l : List Int) (i : Nat) (st : St) : loadA .one (pI l i) st = reO (l[i]?.map (Value.int .i64)) st := by
  rw [pI, loadA_fpt, partK_one, List.getElem?_map]
@[simp high] theorem idx_D (l : List Mkt) (i : Nat) : idxS (encDs l) i 5 = if i < l.length then some (pD l i 0) else none := by
  rw [encDs, idxS_fsl]; rfl
@[simp high] theorem mov_D (l : List Mkt) (i j k : Nat) : movP (pD l i j) k = some (pD l i (j + k)) := by
  unfold pD; rw [movP_fpt, Nat.add_assoc]
theorem ld_D {l : List Mkt} {i j : Nat} (h : i < l.length) (hj : j < 5) (st : St) : loadA .one (pD l i j) st = reO (encD l[i])[j]? st := by
  rw [pD, loadA_fpt, partK_one, flat_get encD_len h hj]
@[simp high] theorem ld_D0 (l : List Mkt) (i : Nat) (st : St) : loadA .one (pD l i 0) st = reO (l[i]?.map fun m => I64 m.price) st := by
  by_cases h : i < l.length
  · rw [ld_D h (by omega), List.getElem?_eq_getElem h]; rfl
  · rw [List.getElem?_eq_none (by omega), pD, loadA_fpt, partK_one, List.getElem?_eq_none (by rw [flat_len encD_len]; omega)]; rfl
@[simp high] theorem ld_D1 (l : List Mkt) (i : Nat) (st : St) : loadA .one (pD l i 1) st = reO (l[i]?.map fun m => I64 m.fare) st := by
  by_cases h : i < l.length
  · rw [ld_D h (by omega), List.getElem?_eq_getElem h]; rfl
  · rw [List.getElem?_eq_none (by omega), pD, loadA_fpt, partK_one, List.getElem?_eq_none (by rw [flat_len encD_len]; omega)]; rfl
@[simp high] theorem ld_D2 (l : List Mkt) (i : Nat) (st : St) : loadA .one (pD l i 2) st = reO (l[i]?.map fun m => .bool m.closed) st := by
  by_cases h : i < l.length
  · rw [ld_D h (by omega), List.getElem?_eq_getElem h]; rfl
  · rw [List.getElem?_eq_none (by omega), pD, loadA_fpt, partK_one, List.getElem?_eq_none (by rw [flat_len encD_len]; omega)]; rfl
@[simp high] theorem ld_D3 (l : List Mkt) (i : Nat) (st : St) : loadA .one (pD l i 3) st = reO (l[i]?.map fun m => I64 m.lo) st := by
  by_cases h : i < l.length
  · rw [ld_D h (by omega), List.getElem?_eq_getElem h]; rfl
  · rw [List.getElem?_eq_none (by omega), pD, loadA_fpt, partK_one, List.getElem?_eq_none (by rw [flat_len encD_len]; omega)]; rfl
@[simp high] theorem ld_D4 (l : List Mkt) (i : Nat) (st : St) : loadA .one (pD l i 4) st = reO (l[i]?.map fun m => I64 m.hi) st := by
  by_cases h : i < l.length
  · rw [ld_D h (by omega), List.getElem?_eq_getElem h]; rfl
  · rw [List.getElem?_eq_none (by omega), pD, loadA_fpt, partK_one, List.getElem?_eq_none (by rw [flat_len encD_len]; omega)]; rfl
@[simp high] theorem ld_Da (l : List Mkt) (i : Nat) (st : St) : loadA (.agg 5) (pD l i 0) st = reO (l[i]?.map fun m => .agg ⟨encD m⟩) st := by
  rw [pD, loadA_fpt, partK_agg, flat_len encD_len]
  by_cases h : i < l.length
  · rw [if_pos (by omega), List.getElem?_eq_getElem h, Nat.add_zero, flat_drop encD_len h]; rfl
  · rw [if_neg (by omega), List.getElem?_eq_none (by omega)]; rfl
@[simp high] theorem boxN_D (m : Mkt) (st : St) : boxN (.agg ⟨encD m⟩) st = .ok (ptr st.next 0) (st.push (rowOf (encD m) 0 true)) := boxN_agg _ _
@[simp high] theorem boxN_B (b : Br) (st : St) : boxN (encB b) st = .ok (ptr st.next 0) (st.push (rowOf (encBl b) 0 true)) := boxN_agg _ _
@[simp high] theorem boxN_P (b : Br) (m : Bool) (st : St) : boxN (encP b m) st = .ok (ptr st.next 0) (st.push (rowOf (encPl b m) 0 true)) := boxN_agg _ _
@[simp] theorem D_0 (m : Mkt) : (encD m)[0]? = some (I64 m.price) := rfl
@[simp] theorem D_1 (m : Mkt) : (encD m)[1]? = some (I64 m.fare) := rfl
@[simp] theorem D_2 (m : Mkt) : (encD m)[2]? = some (.bool m.closed) := rfl
@[simp] theorem D_3 (m : Mkt) : (encD m)[3]? = some (I64 m.lo) := rfl
@[simp] theorem D_4 (m : Mkt) : (encD m)[4]? = some (I64 m.hi) := rfl
@[simp] theorem B_0 (b : Br) : (encBl b)[0]? = some (I64 b.night) := rfl
@[simp] theorem B_1 (b : Br) : (encBl b)[1]? = some (I64 b.keep) := rfl
@[simp] theorem B_2 (b : Br) : (encBl b)[2]? = some (encDs b.days) := rfl
@[simp] theorem P_0 (b : Br) (m : Bool) : (encPl b m)[0]? = some (I64 b.night) := rfl
@[simp] theorem P_1 (b : Br) (m : Bool) : (encPl b m)[1]? = some (I64 b.keep) := rfl
@[simp] theorem P_2 (b : Br) (m : Bool) : (encPl b m)[2]? = some (encDs b.days) := rfl
@[simp] theorem P_3 (b : Br) (m : Bool) : (encPl b m)[3]? = some (.bool m) := rfl
@[simp high] theorem ldP (b : Br) (m : Bool) (st : St) : ldO (.agg 4) 0 (rowOf (encPl b m) 0 true) st = .ok (encP b m) st := by rw [ldO_agg]; rfl
@[simp high] theorem ldB (b : Br) (m : Bool) (st : St) : ldO (.agg 3) 0 (rowOf (encPl b m) 0 true) st = .ok (encB b) st := by rw [ldO_agg]; rfl
@[simp high] theorem ldBB (b : Br) (st : St) : ldO (.agg 3) 0 (rowOf (encBl b) 0 true) st = .ok (encB b) st := by rw [ldO_agg]; rfl
@[simp high] theorem ldD (m : Mkt) (st : St) : ldO (.agg 5) 0 (rowOf (encD m) 0 true) st = .ok (.agg ⟨encD m⟩) st := by rw [ldO_agg]; rfl
@[simp high] theorem bel_B (N : Nat) (b : Br) : belowV 6 N (encB b) = true := (encB_pv b).below _ _ (by omega)
@[simp high] theorem bel_P (N : Nat) (b : Br) (m : Bool) : belowV 6 N (encP b m) = true := (encP_pv b m).below _ _ (by omega)
@[simp high] theorem bel_I (N : Nat) (l : List Int) : belowV 6 N (encI l) = true := (encI_pv l).below _ _ (by omega)
@[simp high] theorem bel_Ds (N : Nat) (l : List Mkt) : belowV 6 N (encDs l) = true := (encDs_pv l).below _ _ (by omega)
@[simp high] theorem bel_pD (N : Nat) (l : List Mkt) (i j : Nat) : belowV 6 N (pD l i j) = true := (Pv.fpt (encDs_pv0 l)).below _ _ (by omega)
@[simp high] theorem bel_pI (N : Nat) (l : List Int) (i : Nat) : belowV 6 N (pI l i) = true := (Pv.fpt (d := 0) fun u hu => by obtain ⟨n, _, rfl⟩ := List.mem_map.1 hu; exact .int _ n).below _ _ (by omega)
@[simp high] theorem bel_D (N : Nat) (m : Mkt) : belowV 6 N (.agg ⟨encD m⟩) = true := (aD_pv m).below _ _ (by omega)
theorem pv1 {a : Value} (ha : Pv 8 a) : ∀ u, u ∈ [a] → Pv 8 u := by
  intro u hu
  simp only [List.mem_cons, List.not_mem_nil, or_false] at hu
  subst hu; exact ha
theorem pv2 {a b : Value} (ha : Pv 8 a) (hb : Pv 8 b) : ∀ u, u ∈ [a, b] → Pv 8 u := by
  intro u hu
  simp only [List.mem_cons, List.not_mem_nil, or_false] at hu
  rcases hu with rfl | rfl
  · exact ha
  · exact hb
theorem pv3 {a b c : Value} (ha : Pv 8 a) (hb : Pv 8 b) (hc : Pv 8 c) : ∀ u, u ∈ [a, b, c] → Pv 8 u := by
  intro u hu
  simp only [List.mem_cons, List.not_mem_nil, or_false] at hu
  rcases hu with rfl | rfl | rfl
  · exact ha
  · exact hb
  · exact hc
theorem p8I (n : Int) : Pv 8 (I64 n) := (Pv.int _ _).mono (by omega)
theorem p8b (n : Bool) : Pv 8 (.bool n) := (Pv.bool _).mono (by omega)
theorem p8L (l : List Int) : Pv 8 (encI l) := (encI_pv l).mono (by omega)
theorem p8B (b : Br) : Pv 8 (encB b) := (encB_pv b).mono (by omega)
theorem p8P (b : Br) (m : Bool) : Pv 8 (encP b m) := (encP_pv b m).mono (by omega)
theorem p8D (m : Mkt) : Pv 8 (.agg ⟨encD m⟩) := (aD_pv m).mono (by omega)

/-! # isFrom 82, isRight 101, Check 46 -/
def isF (a n b : Int) : Bool := decide (a ≤ n) && decide (n ≤ b)
theorem p82 (a n b : Int) : PurOk Tryz.prog 82 [I64 a, I64 n, I64 b] (.bool (isF a n b)) := by
  refine pur_wp (cs := []) (isP := isP) (keep := false) mixed ?_
  rw [e82]
  simp -implicitDefEqProofs +contextual [isF, bindP_cases, pickK_cases, -Int.not_le, -Int.not_lt]
noncomputable def c82 : Con Tryz.prog := mkCon 82 false (fun x : Int × Int × Int => [I64 x.1, I64 x.2.1, I64 x.2.2]) (fun _ => True) (fun x => .bool (isF x.1 x.2.1 x.2.2)) (fun ⟨_, _, _⟩ ⟨_, _, _⟩ h => by simpa using h) (fun x _ => p82 x.1 x.2.1 x.2.2)
theorem k82 {cs : List (Con Tryz.prog)} (h : cs.find? (fun c => c.f == 82) = some c82) (a n b : Int) (st : St) : pcall (orcL cs) 82 [I64 a, I64 n, I64 b] st = some (.bool (isF a n b)) :=
  pcall_mk h (a, n, b) trivial (pv3 (p8I _) (p8I _) (p8I _)) st
def rightM (m : Mkt) : Bool := isF 0 m.price 1000 && isF 0 m.fare 100000 && isF 0 m.lo m.hi && decide (m.hi ≤ 1000)
theorem p101 (m : Mkt) : PurOk Tryz.prog 101 [.agg ⟨encD m⟩] (.bool (rightM m)) := by
  refine pur_wp (cs := [c82]) (isP := isP) (keep := false) mixed ?_
  have K82 := @k82 [c82] rfl
  rw [e101]
  cases h1 : isF 0 m.price 1000 <;> cases h2 : isF 0 m.fare 100000 <;> cases h3 : isF 0 m.lo m.hi <;> by_cases h4 : m.hi ≤ 1000 <;>
    simp -implicitDefEqProofs [push_obj, K82, rightM, h1, h2, h3, h4]
noncomputable def c101 : Con Tryz.prog := mkCon 101 false (fun x : Mkt => [.agg ⟨encD x⟩]) (fun _ => True) (fun x => .bool (rightM x)) (fun x y h => by simp only [List.cons.injEq, Value.agg.injEq, Array.mk.injEq, and_true] at h; exact encD_inj h) (fun x _ => p101 x)
theorem k101 {cs : List (Con Tryz.prog)} (h : cs.find? (fun c => c.f == 101) = some c101) (m : Mkt) (st : St) : pcall (orcL cs) 101 [.agg ⟨encD m⟩] st = some (.bool (rightM m)) :=
  pcall_mk h m trivial (pv1 (p8D _)) st
def chk (b : Br) : Int := if (isF 0 b.night 1000 && isF 0 b.keep 60) = false then 1 else if 60 < b.days.length then 2 else if b.days.length = 0 then 1 else if b.days.all rightM = true then 0 else 1
theorem all_next {α : Type} {p : α → Bool} {l : List α} {i : Nat} (hi : i < l.length) (h : (l.take i).all p = true) (hx : p l[i] = true) : (l.take (i + 1)).all p = true := by
  rw [List.take_succ_eq_append_getElem hi, List.all_append, h]; simp [hx]
theorem all_not {α : Type} {p : α → Bool} {l : List α} {i : Nat} (hi : i < l.length) (hx : p l[i] = false) : l.all p = false := by
  rw [Bool.eq_false_iff]
  intro h
  have := List.all_eq_true.1 h _ (List.getElem_mem hi)
  rw [hx] at this; cases this
theorem p46 (b : Br) : PurOk Tryz.prog 46 [encB b] (I64 (chk b)) := by
  refine pur_wp (cs := [c82, c101]) (isP := isP) (keep := false) mixed ?_
  have K82 := @k82 [c82, c101] rfl
  have K101 := @k101 [c82, c101] rfl
  rw [e46]
  cases h1 : isF 0 b.night 1000
  · simp -implicitDefEqProofs [push_obj, K82, chk, h1]
  cases h2 : isF 0 b.keep 60
  · simp -implicitDefEqProofs [push_obj, K82, chk, h1, h2]
  by_cases h3 : (60 : Int) < b.days.length
  · simp -implicitDefEqProofs [push_obj, K82, chk, h1, h2, h3, show 60 < b.days.length by omega]
  by_cases h4 : b.days = []
  · simp -implicitDefEqProofs [push_obj, K82, chk, h1, h2, h3, h4]
  simp -implicitDefEqProofs [push_obj, K82, h1, h2, h3, h4]
  have hl : b.days.length ≤ 60 := by omega
  have hc : chk b = if b.days.all rightM = true then 0 else 1 := by simp [chk, h1, h2, h4, show ¬ 60 < b.days.length by omega]
  refine loop_rule (isP := isP) (fun n a st => ∃ (i : Nat) (t : Regs), a = ⟨34, t, []⟩ ∧ gt t 24 = encDs b.days ∧ gt t 25 = I64 b.days.length ∧ gt t 26 = I64 i ∧
    i ≤ b.days.length ∧ n = b.days.length - i ∧ (b.days.take i).all rightM = true) ?_ b.days.length _ _ ⟨0, _, rfl, by simp, by simp, by simp, by simp, by simp, by simp⟩
  rintro n a st ⟨i, t, rfl, g24, g25, g26, hi, rfl, hall⟩
  rw [e46_b0]
  by_cases hlt : i < b.days.length
  · have hw : IntKind.i64.wrap ((i : Int) + 1) = (i : Int) + 1 := wrap64 (by omega)
    have hi2 : (i : Int) < b.days.length := by omega
    cases hx : rightM b.days[i] with
    | true =>
      simp -implicitDefEqProofs [push_obj, set_obj, K101, g24, g25, g26, hlt, hi2, hw, hx, encD_len]
      exact ⟨_, by omega, i + 1, by omega, by omega, rfl, List.all_eq_true.1 (all_next hlt hall hx)⟩
    | false =>
      have : chk b = 1 := by rw [hc, all_not hlt hx]; rfl
      simp -implicitDefEqProofs [push_obj, set_obj, K101, g24, g25, g26, hlt, hi2, hw, hx, encD_len, o46, this]
  · have hi2 : ¬ (i : Int) < b.days.length := by omega
    obtain rfl : i = b.days.length := by omega
    have : chk b = 0 := by rw [hc, if_pos]; simpa using hall
    simp -implicitDefEqProofs [g24, g25, g26, hi2, e46_r0, o46, this]
noncomputable def c46 : Con Tryz.prog := mkCon 46 false (fun x : Br => [encB x]) (fun _ => True) (fun x => I64 (chk x)) (fun x y h => encB_inj (by simpa using h)) (fun x _ => p46 x)
theorem k46 {cs : List (Con Tryz.prog)} (h : cs.find? (fun c => c.f == 46) = some c46) (b : Br) (st : St) : pcall (orcL cs) 46 [encB b] st = some (I64 (chk b)) :=
  pcall_mk h b trivial (pv1 (p8B _)) st

/-! # need 80, canBuy 118, grain 119 -/
def needP (b : Br) (m : Bool) (t : Nat) : Int := match b.days[t]? with | some d => if m then d.hi else d.lo | none => 0
theorem needP_at {b : Br} {m : Bool} {t : Nat} (h : t < b.days.length) : needP b m t = if m then b.days[t].hi else b.days[t].lo := by unfold needP; rw [List.getElem?_eq_getElem h]
theorem p80 (b : Br) (m : Bool) (t : Nat) (h : t < b.days.length) : PurOk Tryz.prog 80 [encP b m, I64 t] (I64 (needP b m t)) := by
  refine pur_wp (cs := []) (isP := isP) (keep := false) mixed ?_
  rw [e80, needP_at h]
  cases m <;> simp -implicitDefEqProofs [push_obj, h]
noncomputable def c80 : Con Tryz.prog := mkCon 80 false (fun x : Br × Bool × Nat => [encP x.1 x.2.1, I64 x.2.2]) (fun x => x.2.2 < x.1.days.length) (fun x => I64 (needP x.1 x.2.1 x.2.2)) (fun ⟨_, _, _⟩ ⟨_, _, _⟩ h => by
  simp only [List.cons.injEq, Value.int.injEq, and_true, true_and] at h; obtain ⟨rfl, rfl⟩ := encP_inj h.1; have := h.2; congr; omega) (fun x h => p80 x.1 x.2.1 x.2.2 h)
theorem k80 {cs : List (Con Tryz.prog)} (h : cs.find? (fun c => c.f == 80) = some c80) (b : Br) (m : Bool) (t : Nat) (ht : t < b.days.length) (st : St) : pcall (orcL cs) 80 [encP b m, I64 t] st = some (I64 (needP b m t)) :=
  pcall_mk h (b, m, t) ht (pv2 (p8P _ _) (p8I _)) st
def canI (b : Br) (i : Int) (t : Nat) : Bool := isF 0 i t && decide ((t : Int) - i ≤ b.keep) && (match b.days[i.toNat]? with | some d => !d.closed | none => false)
theorem p118 (b : Br) (m : Bool) (i : Int) (t : Nat) (h : t < b.days.length) (hl : b.days.length ≤ 1000) : PurOk Tryz.prog 118 [encP b m, I64 i, I64 t] (.bool (canI b i t)) := by
  refine pur_wp (cs := [c82]) (isP := isP) (keep := false) mixed ?_
  have K82 := @k82 [c82] rfl
  rw [e118]
  cases h1 : isF 0 i t
  · simp -implicitDefEqProofs [push_obj, K82, canI, h1]
  obtain ⟨k, rfl⟩ : ∃ k : Nat, i = k := ⟨i.toNat, by simp [isF] at h1; omega⟩
  have hk : k ≤ t := by simp [isF] at h1; omega
  have hk2 : k < b.days.length := by omega
  have hw : IntKind.i64.wrap ((t : Int) - k) = (t : Int) - k := wrap64 (by omega)
  by_cases h2 : (t : Int) - k ≤ b.keep
  · simp -implicitDefEqProofs [push_obj, K82, canI, h1, h2, hw, hk2]
  · simp -implicitDefEqProofs [push_obj, K82, canI, h1, h2, hw, hk2]
noncomputable def c118 : Con Tryz.prog := mkCon 118 false (fun x : Br × Bool × Int × Nat => [encP x.1 x.2.1, I64 x.2.2.1, I64 x.2.2.2]) (fun x => x.2.2.2 < x.1.days.length ∧ x.1.days.length ≤ 1000) (fun x => .bool (canI x.1 x.2.2.1 x.2.2.2)) (fun ⟨_, _, _, _⟩ ⟨_, _, _, _⟩ h => by
  simp only [List.cons.injEq, Value.int.injEq, and_true, true_and] at h; obtain ⟨rfl, rfl⟩ := encP_inj h.1; have := h.2.1; have := h.2.2; subst_vars; congr; omega) (fun x h => p118 x.1 x.2.1 x.2.2.1 x.2.2.2 h.1 h.2)
theorem k118 {cs : List (Con Tryz.prog)} (h : cs.find? (fun c => c.f == 118) = some c118) (b : Br) (m : Bool) (i : Int) (t : Nat) (ht : t < b.days.length) (hl : b.days.length ≤ 1000) (st : St) : pcall (orcL cs) 118 [encP b m, I64 i, I64 t] st = some (.bool (canI b i t)) :=
  pcall_mk h (b, m, i, t) ⟨ht, hl⟩ (pv3 (p8P _ _) (p8I _) (p8I _)) st
def priceP (b : Br) (i : Nat) : Int := match b.days[i]? with | some d => d.price | none => 0
def grainP (b : Br) (m : Bool) (i t : Nat) : Int := needP b m t * (priceP b i + b.night * ((t : Int) - i))
/-- A barn that is right. -/
structure Good (b : Br) : Prop where
  n0 : 0 ≤ b.night
  n1 : b.night ≤ 1000
  k0 : 0 ≤ b.keep
  k1 : b.keep ≤ 60
  len : b.days.length ≤ 60
  pos : 0 < b.days.length
  all : ∀ d, d ∈ b.days → rightM d = true
theorem good_of {b : Br} (h : chk b = 0) : Good b := by
  unfold chk at h
  split at h
  · cases h
  · rename_i h1
    split at h
    · cases h
    · split at h
      · cases h
      · split at h
        · rename_i h4
          simp [isF] at h1
          exact ⟨by omega, by omega, by omega, by omega, by omega, by omega, fun d hd => List.all_eq_true.1 h4 d hd⟩
        · cases h
structure Right (d : Mkt) : Prop where
  p0 : 0 ≤ d.price
  p1 : d.price ≤ 1000
  f0 : 0 ≤ d.fare
  f1 : d.fare ≤ 100000
  l0 : 0 ≤ d.lo
  lh : d.lo ≤ d.hi
  h1 : d.hi ≤ 1000
theorem right_of {d : Mkt} (h : rightM d = true) : Right d := by
  simp [rightM, isF] at h
  exact ⟨by omega, by omega, by omega, by omega, by omega, by omega, by omega⟩
theorem Good.at {b : Br} (g : Good b) {i : Nat} (h : i < b.days.length) : Right b.days[i] := right_of (g.all _ (List.getElem_mem h))
theorem Good.need {b : Br} (g : Good b) (m : Bool) (t : Nat) : 0 ≤ needP b m t ∧ needP b m t ≤ 1000 := by
  unfold needP
  by_cases h : t < b.days.length
  · rw [List.getElem?_eq_getElem h]
    have := g.at h
    obtain ⟨a1, a2, a3, a4, a5, a6, a7⟩ := this
    cases m <;> simp <;> omega
  · rw [List.getElem?_eq_none (by omega)]; simp
theorem Good.price {b : Br} (g : Good b) (i : Nat) : 0 ≤ priceP b i ∧ priceP b i ≤ 1000 := by
  unfold priceP
  by_cases h : i < b.days.length
  · rw [List.getElem?_eq_getElem h]
    exact ⟨(g.at h).p0, (g.at h).p1⟩
  · rw [List.getElem?_eq_none (by omega)]; simp
theorem Good.per {b : Br} (g : Good b) {i t : Nat} (hit : i ≤ t) (ht : t < b.days.length) : 0 ≤ priceP b i + b.night * ((t : Int) - i) ∧ priceP b i + b.night * ((t : Int) - i) ≤ 61000 := by
  have h1 := g.price i
  have h2 : 0 ≤ b.night * ((t : Int) - i) := Int.mul_nonneg g.n0 (by omega)
  have h3 : b.night * ((t : Int) - i) ≤ 1000 * 60 := Int.mul_le_mul g.n1 (by have := g.len; omega) (by omega) (by omega)
  omega
theorem Good.grain {b : Br} (g : Good b) (m : Bool) {i t : Nat} (hit : i ≤ t) (ht : t < b.days.length) : 0 ≤ grainP b m i t ∧ grainP b m i t ≤ 61000000 := by
  have h1 := g.need m t
  have h2 := g.per hit ht
  refine ⟨Int.mul_nonneg h1.1 h2.1, ?_⟩
  have : needP b m t * (priceP b i + b.night * ((t : Int) - i)) ≤ 1000 * 61000 := Int.mul_le_mul h1.2 h2.2 h2.1 (by omega)
  unfold grainP
  omega
theorem p119 (b : Br) (m : Bool) (i t : Nat) (g : Good b) (hit : i ≤ t) (ht : t < b.days.length) : PurOk Tryz.prog 119 [encP b m, I64 i, I64 t] (I64 (grainP b m i t)) := by
  refine pur_wp (cs := [c80]) (isP := isP) (keep := false) mixed ?_
  have K80 := @k80 [c80] rfl b m t ht
  rw [e119]
  have hi : i < b.days.length := by omega
  have hp : priceP b i = b.days[i].price := by unfold priceP; rw [List.getElem?_eq_getElem hi]
  have h1 := g.need m t
  have h2 := g.per hit ht
  have h3 := g.grain m hit ht
  have hl := g.len
  have h0 : 0 ≤ b.night * ((t : Int) - i) := Int.mul_nonneg g.n0 (by omega)
  have hp0 := g.price i
  rw [hp] at h2 hp0
  have w1 : IntKind.i64.wrap ((t : Int) - i) = (t : Int) - i := wrap64 (by omega)
  have w2 : IntKind.i64.wrap (b.night * ((t : Int) - i)) = b.night * ((t : Int) - i) := wrap64 (by omega)
  have w3 : IntKind.i64.wrap (b.days[i].price + b.night * ((t : Int) - i)) = b.days[i].price + b.night * ((t : Int) - i) := wrap64 (by omega)
  unfold grainP at h3 ⊢
  rw [hp] at h3 ⊢
  have w4 : IntKind.i64.wrap (needP b m t * (b.days[i].price + b.night * ((t : Int) - i))) = needP b m t * (b.days[i].price + b.night * ((t : Int) - i)) := wrap64 (by omega)
  simp -implicitDefEqProofs [push_obj, K80, hi, w1, w2, w3, w4]
noncomputable def c119 : Con Tryz.prog := mkCon 119 false (fun x : Br × Bool × Nat × Nat => [encP x.1 x.2.1, I64 x.2.2.1, I64 x.2.2.2]) (fun x => Good x.1 ∧ x.2.2.1 ≤ x.2.2.2 ∧ x.2.2.2 < x.1.days.length) (fun x => I64 (grainP x.1 x.2.1 x.2.2.1 x.2.2.2)) (fun ⟨_, _, _, _⟩ ⟨_, _, _, _⟩ h => by
  simp only [List.cons.injEq, Value.int.injEq, and_true, true_and] at h; obtain ⟨rfl, rfl⟩ := encP_inj h.1; have := h.2.1; have := h.2.2; congr <;> omega) (fun x h => p119 x.1 x.2.1 x.2.2.1 x.2.2.2 h.1 h.2.1 h.2.2)
theorem k119 {cs : List (Con Tryz.prog)} (h : cs.find? (fun c => c.f == 119) = some c119) (b : Br) (m : Bool) (i t : Nat) (g : Good b) (hit : i ≤ t) (ht : t < b.days.length) (st : St) : pcall (orcL cs) 119 [encP b m, I64 i, I64 t] st = some (I64 (grainP b m i t)) :=
  pcall_mk h (b, m, i, t) ⟨g, hit, ht⟩ (pv3 (p8P _ _) (p8I _) (p8I _)) st
end Go.Proofs.YtolgomkmilbkgaaGreat

set_option autoImplicit false
set_option maxRecDepth 100000
set_option linter.unusedSimpArgs false
set_option linter.unusedVariables false
namespace Go.Proofs.YtolgomkmilbkgaaGreat.Ev
open Go
theorem callP_pure {P : Program} {O : Orc} {k : FuncId} {xs bs args : List Value} {st : St} {v : Value} {F : Value → St → Prop} (hfe : feB P k = true) (h : pcall O k (xs ++ args ++ bs) st = some v) (hF : F v st) : CallP P O (.func (.func k) ⟨xs⟩ ⟨bs⟩) args st F := by
  obtain ⟨c, n, fn, hfe⟩ := feB_ok hfe
  refine ⟨1, v, st, fun K' hK => ?_, hF⟩
  obtain ⟨j, rfl⟩ : ∃ j, K' = j + 1 := ⟨K' - 1, by omega⟩
  unfold callV
  simp only [hfe]
  exact callF_known h j
theorem snap_ptr {keep : Bool} {st : St} {d nm o es : Nat} {xs : List Value} {ex : Bool} (ho : st.obj nm = rowOf xs es ex) (hp : ∀ u, u ∈ xs → snapV keep st d u = some u) : snapV keep st (d + 1) (ptr nm o) = some (fpt o xs) := by
  show cellsK (st.obj nm) none (fun dd n _ _ tr => osel (mapO (snapV keep st d) (Bt.sub tr (half dd) 0 n [])) none fun cs => some (fpt o cs)) = _
  rw [ho, rowOf_eq]
  show osel (mapO (snapV keep st d) (Bt.sub (Bt.ofL (dep xs.length) xs) (half (dep xs.length)) 0 xs.length [])) none (fun cs => some (fpt o cs)) = _
  have := sub_all (xs := xs) (off := 0) (n := xs.length) (by omega)
  rw [Nat.zero_add, List.drop_zero, List.take_length] at this
  rw [this, mapO_same hp]; rfl
theorem snap_clo2 {keep : Bool} {st : St} {d : Nat} {k : FuncId} {a b a' b' : Value} (ha : snapV keep st d a = some a') (hb : snapV keep st d b = some b') : snapV keep st (d + 1) (.func (.func k) ⟨[]⟩ ⟨[a, b]⟩) = some (.func (.func k) ⟨[]⟩ ⟨[a', b']⟩) := by
  show osel (mapO (snapV keep st d) []) none (fun as' => osel (mapO (snapV keep st d) [a, b]) none fun bs' => some (Value.func (.func k) ⟨as'⟩ ⟨bs'⟩)) = _
  simp only [mapO, ha, hb]; rfl
theorem Pv.clo {d : Nat} {k : FuncId} {cs : List Value} (h : ∀ u, u ∈ cs → Pv d u) : Pv (d + 1) (.func (.func k) ⟨[]⟩ ⟨cs⟩) := by
  refine ⟨fun e he => ?_, fun keep st e he => ?_, fun N e he => ?_⟩ <;> obtain ⟨e, rfl⟩ : ∃ j, e = j + 1 := ⟨e - 1, by omega⟩
  · show bsel (List.all [] (pureV e)) (cs.all (pureV e)) false = true
    rw [List.all_nil, bsel_true]
    exact List.all_eq_true.2 fun u hu => (h u hu).pure e (by omega)
  · show osel (mapO (snapV keep st e) []) none (fun as' => osel (mapO (snapV keep st e) cs) none fun bs' => some (Value.func (.func k) ⟨as'⟩ ⟨bs'⟩)) = _
    rw [mapO_same (fun u hu => (h u hu).snap keep st e (by omega))]; rfl
  · show bsel (List.all [] (belowV e N)) (cs.all (belowV e N)) false = true
    rw [List.all_nil, bsel_true]
    exact List.all_eq_true.2 fun u hu => (h u hu).below N e (by omega)
end Go.Proofs.YtolgomkmilbkgaaGreat.Ev
namespace Go.Proofs.YtolgomkmilbkgaaGreat
open Go.Proofs.YtolgomkmilbkgaaGreat.Ev

/-! # Compare 129 -/
theorem p149 (n : Int) : PurOk Tryz.prog 149 [I64 n] (.bool false) := by
  refine pur_wp (cs := []) (isP := isP) (keep := false) mixed ?_
  rw [e149]
  simp -implicitDefEqProofs
noncomputable def c149 : Con Tryz.prog := mkCon 149 false (fun x : Int => [I64 x]) (fun _ => True) (fun _ => .bool false) (fun x y h => by simpa using h) (fun x _ => p149 x)
theorem k149 {cs : List (Con Tryz.prog)} (h : cs.find? (fun c => c.f == 149) = some c149) (n : Int) (st : St) : pcall (orcL cs) 149 [I64 n] st = some (.bool false) :=
  pcall_mk h n trivial (pv1 (p8I _)) st
def cmpI (a b : Int) : Int := if a < b then -1 else if b < a then 1 else 0
theorem p129 (a b : Int) : PurOk Tryz.prog 129 [I64 a, I64 b] (I64 (cmpI a b)) := by
  refine pur_wp (cs := [c149]) (isP := isP) (keep := false) mixed ?_
  have K149 := @k149 [c149] rfl
  rw [e129]
  by_cases h1 : a < b
  · simp -implicitDefEqProofs [K149, cmpI, h1]
  · by_cases h2 : b < a
    · simp -implicitDefEqProofs [K149, cmpI, h1, h2]
    · simp -implicitDefEqProofs [K149, cmpI, h1, h2]
noncomputable def c129 : Con Tryz.prog := mkCon 129 false (fun x : Int × Int => [I64 x.1, I64 x.2]) (fun _ => True) (fun x => I64 (cmpI x.1 x.2)) (fun ⟨_, _⟩ ⟨_, _⟩ h => by simpa using h) (fun x _ => p129 x.1 x.2)
theorem k129 {cs : List (Con Tryz.prog)} (h : cs.find? (fun c => c.f == 129) = some c129) (a b : Int) (st : St) : pcall (orcL cs) 129 [I64 a, I64 b] st = some (I64 (cmpI a b)) :=
  pcall_mk h (a, b) trivial (pv2 (p8I _) (p8I _)) st

/-! # sources 144, targets 124 -/
noncomputable def pP (b : Br) (m : Bool) : Value := fpt 0 (encPl b m)
noncomputable def pN (n : Int) : Value := fpt 0 [I64 n]
theorem encPl_pv (b : Br) (m : Bool) : ∀ u, u ∈ encPl b m → Pv 1 u := by
  intro u hu
  simp only [encPl, List.mem_cons, List.not_mem_nil, or_false] at hu
  rcases hu with rfl | rfl | rfl | rfl
  · exact (Pv.int _ _).mono (by omega)
  · exact (Pv.int _ _).mono (by omega)
  · exact encDs_pv _
  · exact (Pv.bool _).mono (by omega)
theorem pP_pv (b : Br) (m : Bool) : Pv 2 (pP b m) := .fpt (encPl_pv b m)
theorem pN_pv (n : Int) : Pv 2 (pN n) := (Pv.fpt (d := 0) fun u hu => by simp at hu; subst hu; exact .int _ _).mono (by omega)
@[simp high] theorem ld_pP (b : Br) (m : Bool) (st : St) : loadA (.agg 4) (pP b m) st = .ok (encP b m) st := rfl
@[simp high] theorem ld_pN (n : Int) (st : St) : loadA .one (pN n) st = .ok (I64 n) st := rfl
@[simp high] theorem mov_pP (b : Br) (m : Bool) (k : Nat) : movP (pP b m) k = some (fpt k (encPl b m)) := by unfold pP; rw [movP_fpt, Nat.zero_add]
noncomputable def srcV (b : Br) (m : Bool) (t : Nat) : Value := .func (.func 163) ⟨[]⟩ ⟨[pN t, pP b m]⟩
noncomputable def tgtV (b : Br) (m : Bool) (i : Nat) : Value := .func (.func 147) ⟨[]⟩ ⟨[pN i, pP b m]⟩
theorem srcV_pv (b : Br) (m : Bool) (t : Nat) : Pv 3 (srcV b m t) := .clo fun u hu => by
  simp only [List.mem_cons, List.not_mem_nil, or_false] at hu
  rcases hu with rfl | rfl
  · exact pN_pv _
  · exact pP_pv _ _
theorem tgtV_pv (b : Br) (m : Bool) (t : Nat) : Pv 3 (tgtV b m t) := .clo fun u hu => by
  simp only [List.mem_cons, List.not_mem_nil, or_false] at hu
  rcases hu with rfl | rfl
  · exact pN_pv _
  · exact pP_pv _ _
theorem p144 (b : Br) (m : Bool) (t : Nat) : PurOk Tryz.prog 144 [encP b m, I64 t] (srcV b m t) := by
  refine pur_wp (cs := []) (isP := isP) (keep := false) mixed ?_
  rw [e144]
  simp -implicitDefEqProofs [push_obj]
  refine snap_clo2 (d := 7) ?_ ?_
  · exact snap_ptr (d := 6) (es := 0) (ex := true) (xs := [I64 t]) (by simp [push_obj]) fun u hu => by simp at hu; subst hu; rfl
  · exact snap_ptr (d := 6) (es := 0) (ex := true) (xs := encPl b m) (by simp [push_obj]) fun u hu => (encPl_pv b m u hu).snap _ _ _ (by omega)
theorem p124 (b : Br) (m : Bool) (t : Nat) : PurOk Tryz.prog 124 [encP b m, I64 t] (tgtV b m t) := by
  refine pur_wp (cs := []) (isP := isP) (keep := false) mixed ?_
  rw [e124]
  simp -implicitDefEqProofs [push_obj]
  refine snap_clo2 (d := 7) ?_ ?_
  · exact snap_ptr (d := 6) (es := 0) (ex := true) (xs := [I64 t]) (by simp [push_obj]) fun u hu => by simp at hu; subst hu; rfl
  · exact snap_ptr (d := 6) (es := 0) (ex := true) (xs := encPl b m) (by simp [push_obj]) fun u hu => (encPl_pv b m u hu).snap _ _ _ (by omega)
theorem pt_inj : ∀ x y : Br × Bool × Nat, [encP x.1 x.2.1, I64 x.2.2] = [encP y.1 y.2.1, I64 y.2.2] → x = y := fun ⟨_, _, _⟩ ⟨_, _, _⟩ h => by
  simp only [List.cons.injEq, Value.int.injEq, and_true, true_and] at h; obtain ⟨rfl, rfl⟩ := encP_inj h.1; have := h.2; congr; omega
noncomputable def c144 : Con Tryz.prog := mkCon 144 false (fun x : Br × Bool × Nat => [encP x.1 x.2.1, I64 x.2.2]) (fun _ => True) (fun x => srcV x.1 x.2.1 x.2.2) pt_inj (fun x _ => p144 x.1 x.2.1 x.2.2)
theorem k144 {cs : List (Con Tryz.prog)} (h : cs.find? (fun c => c.f == 144) = some c144) (b : Br) (m : Bool) (t : Nat) (st : St) : pcall (orcL cs) 144 [encP b m, I64 t] st = some (srcV b m t) :=
  pcall_mk h (b, m, t) trivial (pv2 (p8P _ _) (p8I _)) st
noncomputable def c124 : Con Tryz.prog := mkCon 124 false (fun x : Br × Bool × Nat => [encP x.1 x.2.1, I64 x.2.2]) (fun _ => True) (fun x => tgtV x.1 x.2.1 x.2.2) pt_inj (fun x _ => p124 x.1 x.2.1 x.2.2)
theorem k124 {cs : List (Con Tryz.prog)} (h : cs.find? (fun c => c.f == 124) = some c124) (b : Br) (m : Bool) (t : Nat) (st : St) : pcall (orcL cs) 124 [encP b m, I64 t] st = some (tgtV b m t) :=
  pcall_mk h (b, m, t) trivial (pv2 (p8P _ _) (p8I _)) st

/-- The sources of a day from i on. -/
def srcL (b : Br) (t i n : Nat) : List (List Value) := ((List.range' i n).filter fun (i : Nat) => canI b (i : Int) t).map fun (i : Nat) => [I64 (i : Int)]
theorem yields163 {cs : List (Con Tryz.prog)} (hc : cs.find? (fun c => c.f == 118) = some c118) (hk : (orcL cs).pur 163 = none) (b : Br) (m : Bool) (t : Nat) (ht : t < b.days.length) (hl : b.days.length ≤ 1000) :
    YieldsL Tryz.prog (orcL cs) 163 [] [pN t, pP b m] (srcL b t 0 (t + 1)) := by
  refine yields_of (isP := isP) (fun _ _ _ => rfl) hk fun l J R st hJ hs hend => ?_
  have K118 := fun i st => k118 hc b m i t ht hl st
  show wpF Tryz.prog (orcL cs) isP 163 [yv l, pN t, pP b m] st _
  rw [e163]
  have hw : IntKind.i64.wrap ((t : Int) + 1) = (t : Int) + 1 := wrap64 (by omega)
  simp -implicitDefEqProofs [hw]
  refine loop_rule (isP := isP) (fun q a s => ∃ (i : Nat) (r : Regs), a = ⟨21, r, []⟩ ∧ gt r 0 = yv l ∧ gt r 1 = pN t ∧ gt r 2 = pP b m ∧ gt r 6 = I64 ((t : Int) + 1) ∧ gt r 7 = I64 i ∧
    i ≤ t + 1 ∧ q = t + 1 - i ∧ J (srcL b t i (t + 1 - i)) s) ?_ (t + 1) _ _ ⟨0, _, rfl, by simp, by simp, by simp, by simp, by simp, by omega, by omega, hJ⟩
  rintro q a s ⟨i, r, rfl, g0, g1, g2, g6, g7, hi, rfl, hJ⟩
  rw [e163_b0]
  by_cases hlt : i < t + 1
  · have hw2 : IntKind.i64.wrap ((i : Int) + 1) = (i : Int) + 1 := wrap64 (by omega)
    have hi2 : (i : Int) < (t : Int) + 1 := by omega
    have hn : t + 1 - i = (t + 1 - (i + 1)) + 1 := by omega
    cases hx : canI b i t with
    | false =>
      have hJ2 : J (srcL b t (i + 1) (t + 1 - (i + 1))) s := by
        have : srcL b t i (t + 1 - i) = srcL b t (i + 1) (t + 1 - (i + 1)) := by unfold srcL; rw [hn, List.range'_succ, List.filter_cons, hx]; rfl
        rw [← this]; exact hJ
      simp -implicitDefEqProofs [g0, g1, g2, g6, g7, hi2, K118, hx, hw2]
      exact ⟨_, by omega, i + 1, by omega, by omega, rfl, hJ2⟩
    | true =>
      have hJ2 : J ([I64 i] :: srcL b t (i + 1) (t + 1 - (i + 1))) s := by
        have : srcL b t i (t + 1 - i) = [I64 i] :: srcL b t (i + 1) (t + 1 - (i + 1)) := by unfold srcL; rw [hn, List.range'_succ, List.filter_cons, hx]; rfl
        rw [← this]; exact hJ
      simp -implicitDefEqProofs [g0, g1, g2, g6, g7, hi2, K118, hx]
      refine callP_yield hs hJ2 (fun s' h => ?_) (fun s' h => ?_)
      · simp -implicitDefEqProofs [g0, g1, g2, g6, g7, hw2]
        exact ⟨_, by omega, i + 1, by omega, by omega, rfl, h⟩
      · simp -implicitDefEqProofs [o163]
        exact h
  · have hi2 : ¬ (i : Int) < (t : Int) + 1 := by omega
    obtain rfl : i = t + 1 := by omega
    have hJ2 : J [] s := by
      have : srcL b t (t + 1) (t + 1 - (t + 1)) = [] := by rw [Nat.sub_self]; rfl
      rw [← this]; exact hJ
    simp -implicitDefEqProofs [g6, g7, hi2, on163]
    exact hend s hJ2
end Go.Proofs.YtolgomkmilbkgaaGreat

set_option autoImplicit false
set_option maxRecDepth 100000
set_option linter.unusedSimpArgs false
set_option linter.unusedVariables false
namespace Go.Proofs.YtolgomkmilbkgaaGreat
open Go.Proofs.YtolgomkmilbkgaaGreat.Ev

/-! # targets$1 147 -/
def tgtL (b : Br) (i t n : Nat) : List (List Value) := ((List.range' t n).takeWhile fun (t : Nat) => canI b (i : Int) t).map fun (t : Nat) => [I64 (t : Int)]
theorem yields147 {cs : List (Con Tryz.prog)} (hc : cs.find? (fun c => c.f == 118) = some c118) (hk : (orcL cs).pur 147 = none) (b : Br) (m : Bool) (i : Nat) (hi : i < b.days.length) (hl : b.days.length ≤ 1000) :
    YieldsL Tryz.prog (orcL cs) 147 [] [pN i, pP b m] (tgtL b i i (b.days.length - i)) := by
  refine yields_of (isP := isP) (fun _ _ _ => rfl) hk fun l J R st hJ hs hend => ?_
  have K118 := fun t ht st => k118 hc b m i t ht hl st
  show wpF Tryz.prog (orcL cs) isP 147 [yv l, pN i, pP b m] st _
  rw [e147]
  simp -implicitDefEqProofs
  refine loop_rule (isP := isP) (fun q a s => ∃ (t : Nat) (r : Regs), a = ⟨24, r, []⟩ ∧ gt r 0 = yv l ∧ gt r 1 = pN i ∧ gt r 2 = pP b m ∧ gt r 4 = I64 t ∧
    t ≤ b.days.length ∧ q = b.days.length - t ∧ J (tgtL b i t (b.days.length - t)) s) ?_ (b.days.length - i) _ _ ⟨i, _, rfl, by simp, by simp, by simp, by simp, by omega, by omega, hJ⟩
  rintro q a s ⟨t, r, rfl, g0, g1, g2, g4, ht, rfl, hJ⟩
  rw [e147_b0]
  have hP2 : ∀ st, loadA .one (fpt 2 (encPl b m)) st = .ok (encDs b.days) st := fun st => rfl
  by_cases hlt : t < b.days.length
  · have hw2 : IntKind.i64.wrap ((t : Int) + 1) = (t : Int) + 1 := wrap64 (by omega)
    have hi2 : (t : Int) < b.days.length := by omega
    have hn : b.days.length - t = (b.days.length - (t + 1)) + 1 := by omega
    cases hx : canI b i t with
    | false =>
      have hJ2 : J [] s := by
        have : tgtL b i t (b.days.length - t) = [] := by unfold tgtL; rw [hn, List.range'_succ, List.takeWhile_cons, hx]; rfl
        rw [← this]; exact hJ
      simp -implicitDefEqProofs [g0, g1, g2, g4, hi2, K118 t hlt, hx, hP2, on147]
      exact hend s hJ2
    | true =>
      have hJ2 : J ([I64 t] :: tgtL b i (t + 1) (b.days.length - (t + 1))) s := by
        have : tgtL b i t (b.days.length - t) = [I64 t] :: tgtL b i (t + 1) (b.days.length - (t + 1)) := by unfold tgtL; rw [hn, List.range'_succ, List.takeWhile_cons, hx]; rfl
        rw [← this]; exact hJ
      simp -implicitDefEqProofs [g0, g1, g2, g4, hi2, K118 t hlt, hx, hP2]
      refine callP_yield hs hJ2 (fun s' h => ?_) (fun s' h => ?_)
      · simp -implicitDefEqProofs [g0, g1, g2, g4, hw2]
        exact ⟨_, by omega, t + 1, by omega, by omega, rfl, h⟩
      · simp -implicitDefEqProofs [o147]
        exact h
  · have hi2 : ¬ (t : Int) < b.days.length := by omega
    obtain rfl : t = b.days.length := by omega
    have hJ2 : J [] s := by
      have : tgtL b i b.days.length (b.days.length - b.days.length) = [] := by rw [Nat.sub_self]; rfl
      rw [← this]; exact hJ
    simp -implicitDefEqProofs [g0, g1, g2, g4, hi2, hP2, on147]
    exact hend s hJ2

/-! # least 128 -/
/-- One more that is compared. -/
def lstep (cmp : Nat → Nat → Int) (q : Nat × Bool) (i : Nat) : Nat × Bool := if q.2 = false ∨ cmp i q.1 < 0 then (i, true) else q
def LI (xs : List Nat) (cmp : Nat → Nat → Int) (C : Value) (ys : List (List Value)) (s : St) : Prop :=
  ∃ (g : Nat) (is : Bool) (zs : List Nat), ys = zs.map (fun (i : Nat) => [I64 (i : Int)]) ∧ s.obj 0 = rowOf [C] 0 true ∧ s.obj 1 = rowOf [I64 (g : Int)] 0 true ∧ s.obj 2 = rowOf [.bool is] 0 true ∧ s.obj 3 = .deferred ∧ 5 ≤ s.next ∧
    (∀ z, z ∈ zs → z ∈ xs) ∧ (is = true → g ∈ xs) ∧ zs.foldl (lstep cmp) (g, is) = xs.foldl (lstep cmp) (0, false)
theorem snap_tup {st : St} {vs : List Value} (h : ∀ u, u ∈ vs → Pv 7 u) : snapV false st snapD (.tuple ⟨vs⟩) = some (.tuple ⟨vs⟩) := (Pv.tuple h).snap _ _ _ (by unfold snapD; omega)
theorem p7I (n : Int) : Pv 7 (I64 n) := (Pv.int _ _).mono (by omega)
theorem p7b (n : Bool) : Pv 7 (.bool n) := (Pv.bool _).mono (by omega)
theorem pv2' {d : Nat} {a b : Value} (ha : Pv d a) (hb : Pv d b) : ∀ u, u ∈ [a, b] → Pv d u := by
  intro u hu
  simp only [List.mem_cons, List.not_mem_nil, or_false] at hu
  rcases hu with rfl | rfl
  · exact ha
  · exact hb
theorem p128 {cs : List (Con Tryz.prog)} {k kc : FuncId} {f0 c0 cb : List Value} {xs : List Nat} {cmp : Nat → Nat → Int} (hfe : feB Tryz.prog k = true) (hyi : YieldsL Tryz.prog (orcL cs) k f0 c0 (xs.map fun (i : Nat) => [I64 (i : Int)]))
    (hcmp : ∀ i j, i ∈ xs → j ∈ xs → ∀ st (F : Value → St → Prop), F (I64 (cmp i j)) st → CallP Tryz.prog (orcL cs) (.func (.func kc) ⟨[]⟩ ⟨cb⟩) [I64 i, I64 j] st F) :
    PurOk Tryz.prog 128 [.func (.func k) ⟨f0⟩ ⟨c0⟩, .func (.func kc) ⟨[]⟩ ⟨cb⟩] (.tuple ⟨[I64 ((xs.foldl (lstep cmp) (0, false)).1 : Nat), .bool (xs.foldl (lstep cmp) (0, false)).2]⟩) := by
  refine pur_wp (cs := cs) (isP := isP) (keep := false) mixed ?_
  rw [e128]
  simp -implicitDefEqProofs [push_obj, set_obj]
  refine range_none (isP := isP) (k := k) (first := f0) (cap := c0) rfl (by show gt _ 9 = _; simp) hfe hyi
    (LI xs cmp (.func (.func kc) ⟨[]⟩ ⟨cb⟩)) ?_ ?_ ?_ ?_
  · rintro ys s s' e1 e2 ⟨g, is, zs, h1, h2, h3, h4, h5, h6, h7, h8, h9⟩
    have e2 : ∀ b, b ≠ 4 → s'.obj b = s.obj b := by simpa using e2
    exact ⟨g, is, zs, h1, by rw [e2 0 (by omega), h2], by rw [e2 1 (by omega), h3], by rw [e2 2 (by omega), h4], by rw [e2 3 (by omega), h5], by omega, h7, h8, h9⟩
  · intro s e1 e2 e3
    simp at e1 e2
    refine ⟨0, false, xs, rfl, ?_, ?_, ?_, e2, by omega, fun z h => h, fun h => (by cases h), rfl⟩
    · rw [e3 0 (by simp)]; simp [push_obj, set_obj]
    · rw [e3 1 (by simp)]; simp [push_obj, set_obj]
    · rw [e3 2 (by simp)]; simp [push_obj, set_obj]
  · rintro x rest s ⟨g, is, zs, h1, h2, h3, h4, h5, h6, h7, h8, h9⟩ hl
    obtain ⟨z, zs, rfl, rfl, rfl⟩ : ∃ z zs', zs = z :: zs' ∧ x = [I64 z] ∧ rest = zs'.map (fun (i : Nat) => [I64 (i : Int)]) := by
      cases zs with
      | nil => simp at h1
      | cons z zs => simp at h1; exact ⟨z, zs, rfl, h1.1, h1.2⟩
    refine ⟨_, rfl, ?_⟩
    rw [e128_b0]
    refine ⟨rfl, rfl, fun s1' e1 e2 hl1 => ?_⟩
    have e2 : ∀ b, b ≠ 4 → s1'.obj b = s.obj b := by simpa using e2
    have o0 := (e2 0 (by omega)).trans h2
    have o1 := (e2 1 (by omega)).trans h3
    have o2 := (e2 2 (by omega)).trans h4
    have o3 := (e2 3 (by omega)).trans h5
    rw [e128_b1]
    have hzx : z ∈ xs := h7 z (by simp)
    cases is with
    | false =>
      simp -implicitDefEqProofs [o0, o1, o2, set_obj]
      refine ⟨z, true, zs, rfl, by simp [set_obj, o0], by simp [set_obj], by simp [set_obj], by simp [set_obj, o3], by rw [set_next, set_next]; omega, fun z' h => h7 z' (by simp [h]), fun _ => hzx, ?_⟩
      rw [← h9]; simp [lstep]
    | true =>
      simp -implicitDefEqProofs [o0, o1, o2, set_obj]
      refine hcmp z g hzx (h8 rfl) _ _ ?_
      by_cases hneg : cmp z g < 0
      · simp -implicitDefEqProofs [o0, o1, o2, set_obj, hneg]
        refine ⟨z, true, zs, rfl, by simp [set_obj, o0], by simp [set_obj], by simp [set_obj], by simp [set_obj, o3], by rw [set_next, set_next]; omega, fun z' h => h7 z' (by simp [h]), fun _ => hzx, ?_⟩
        rw [← h9]; simp [lstep, hneg]
      · simp -implicitDefEqProofs [o0, o1, o2, set_obj, hneg]
        refine ⟨g, true, zs, rfl, o0, o1, o2, o3, by omega, fun z' h => h7 z' (by simp [h]), fun _ => h8 rfl, ?_⟩
        rw [← h9]; simp [lstep, hneg]
  · rintro s ⟨g, is, zs, h1, h2, h3, h4, h5, h6, h7, h8, h9⟩
    obtain rfl : zs = [] := by simpa using h1.symm
    simp -implicitDefEqProofs [e128_r0, h3, h4, od128, show 1 < s.next by omega, show 2 < s.next by omega]
    rw [leaveK_cons (by simpa using h5)]
    simp -implicitDefEqProofs [← h9]
    exact snap_tup (pv2' (p7I _) (p7b _))
end Go.Proofs.YtolgomkmilbkgaaGreat

set_option autoImplicit false
set_option maxRecDepth 100000
set_option linter.unusedSimpArgs false
set_option linter.unusedVariables false
namespace Go.Proofs.YtolgomkmilbkgaaGreat
open Go.Proofs.YtolgomkmilbkgaaGreat.Ev
theorem up146 : ((List.range 61).all fun n => Go.Proofs.YtolgomkmilbkgaaGreat.Ev.endsIn (callB Tryz.prog (evCode Tryz.prog (orcK []) 1000) 146 [.int .u64 1, .int .u64 n] ⟨heap0, 0⟩) (.tuple ⟨[.int .u64 0, .int .u64 n]⟩)) = true := by kernel_rfl
noncomputable def c146 : Con Tryz.prog := mkCon 146 false (fun n : Nat => [.int .u64 1, .int .u64 n]) (fun n => n ≤ 60) (fun n => .tuple ⟨[.int .u64 0, .int .u64 n]⟩) (fun x y h => by simp at h; omega) (fun n h => pur_upto (N := 61) (f := 146) (args := fun n => [.int .u64 1, .int .u64 n]) (pv := fun n => .tuple ⟨[.int .u64 0, .int .u64 n]⟩) mixed up146 (by omega))
theorem k146 {cs : List (Con Tryz.prog)} (h : cs.find? (fun c => c.f == 146) = some c146) (n : Nat) (hn : n ≤ 60) (st : St) : pcall (orcL cs) 146 [.int .u64 1, .int .u64 n] st = some (.tuple ⟨[.int .u64 0, .int .u64 n]⟩) :=
  pcall_mk h n hn (pv2 ((Pv.int _ _).mono (by omega)) ((Pv.int _ _).mono (by omega))) st

/-! # slices.Repeat 143 -/
theorem r143 {cs : List (Con Tryz.prog)} (hc : cs.find? (fun c => c.f == 146) = some c146) (hk : (orcL cs).pur 143 = none) {a0 : Value} {xs : List Value} {n : Nat} {st : St} (hn : 0 < n) (hn2 : n ≤ 60) (hx : xs.length = 3) (hl : lenA a0 = some 1) (hlK : ∀ st, lenK .sl a0 st = some (I64 1))
    (hL : ∀ st', st.next ≤ st'.next → (∀ b, b < st.next → st'.obj b = st.obj b) → listA st' 3 a0 1 = some xs) {F : Value → St → Prop}
    (hF : ∀ st', st'.next = st.next + 1 → st'.obj st.next = rowOf (rp xs n) 3 true → (∀ b, b < st.next → st'.obj b = st.obj b) → F (.slice (some ⟨st.next, 0, none⟩) n n) st') :
    CallP Tryz.prog (orcL cs) (.func (.func 143) #[] #[]) [a0, I64 n] st F := by
  refine callP_wp (isP := isP) (fun _ _ _ => rfl) hk (by kernel_rfl) ?_
  have K146 := fun st => k146 hc n hn2 st
  have hw64 : IntKind.i64.wrap (n : Int) = (n : Int) := wrap64 (by omega)
  have hmk := fun (z : List Value) (st : St) => makeSlice_row (k := 3) (n := n) (z := z) (st := st) (by omega)
  rw [e143]
  have hneg : ¬ (n : Int) < 0 := by omega
  have hcv1 : ∀ st, convK (.int .u64) (I64 1) st = some (.int .u64 1) := fun st => rfl
  have hcv2 : ∀ st, convK (.int .u64) (I64 n) st = some (.int .u64 n) := fun st => by
    show some (Value.int .u64 (wrapF .u64 n)) = _
    rw [wrapF_eq]; congr; simp [IntKind.wrap, IntKind.bits, IntKind.signed]; omega
  have hcv3 : ∀ st, convK (.int .i64) (.int .u64 n) st = some (I64 n) := fun st => by
    show some (Value.int .i64 (wrapF .i64 n)) = _
    rw [wrapF_eq, hw64]
  have hbig : ¬ (9223372036854775807 : Int) < n := by omega
  simp -implicitDefEqProofs [hneg, hlK, hcv1, hcv2, K146, hcv3, hbig, hmk]
  rw [copy_row (k := 3) (m := 1) (sl := 1) (new := xs) (ys := rp [(.int .i64 (0)), (.int .i64 (0)), (.int .i64 (0))] n) (es := 3) (ex := true) (by rw [push_obj, if_pos rfl]) hl (by omega) (by omega) (hL _ (by simp) fun b hb => by rw [push_obj, if_neg (by omega)]) (by omega) (by rw [rp_len (k := 3) rfl]; omega)]
  simp -implicitDefEqProofs
  refine loop_rule (isP := isP) (fun q a s => ∃ (w : Nat) (t : Regs), a = ⟨48, t, []⟩ ∧ gt t 7 = .slice (some ⟨st.next, 0, none⟩) n n ∧ gt t 8 = I64 w ∧ 0 < w ∧ w ≤ n ∧ q = n - w ∧ s.next = st.next + 1 ∧
    s.obj st.next = rowOf (rp xs w ++ rp [(.int .i64 (0)), (.int .i64 (0)), (.int .i64 (0))] (n - w)) 3 true ∧ (∀ b, b < st.next → s.obj b = st.obj b)) ?_ (n - 1) _ _ ⟨1, _, rfl, by simp, by simp, by omega, by omega, by omega, by simp, ?_, fun b hb => ?_⟩
  · rintro q a s ⟨w, t, rfl, g7, g8, h0, h1, rfl, hs, ho, hb⟩
    rw [e143_b0]
    have hwl : (rp xs w).length = w * 3 := rp_len hx w
    have hzl : (rp [(.int .i64 (0)), (.int .i64 (0)), (.int .i64 (0))] (n - w)).length = (n - w) * 3 := rp_len rfl _
    by_cases hlt : w < n
    · have hlt2 : (w : Int) < n := by omega
      have hsl1 := slice_from (k := 3) (n := n) (c := n) ho h0 h1 (Nat.le_refl n) (by omega)
      have hsl2 := slice_to (k := 3) (n := n) (c := n) (w := w) ho h1
      obtain ⟨m, hm⟩ : ∃ m, m = min w (n - w) := ⟨_, rfl⟩
      have hlist : listA s 3 (.slice (some ⟨st.next, 0, none⟩) w n) m = some (rp xs m) := by
        rw [listA_at (n := m) ho (by omega) (by rw [List.length_append, hwl, hzl]; omega), List.drop_zero, List.take_append_of_le_length (by omega)]
        rw [show w = m + (w - m) by omega, rp_add, List.take_left' (rp_len hx m)]
      have hcp := copy_row (k := 3) (nm := st.next) (off := w * 3) (dl := n - w) (c := n - w) (m := m) (sl := w) (x := .slice (some ⟨st.next, 0, none⟩) w n) ho rfl hm (by omega) hlist (rp_len hx m) (by rw [List.length_append, hwl, hzl]; omega)
      have hw2 : IntKind.i64.wrap ((w : Int) + m) = ((w + m : Nat) : Int) := by rw [wrap64 (by omega)]; push_cast; rfl
      simp -implicitDefEqProofs [g7, g8, hlt2, hsl1, hsl2, hcp, hw2, show st.next < s.next by omega]
      refine ⟨n - (w + m), by omega, w + m, by omega, by omega, by omega, by omega, hs, ?_, fun b hb2 => ?_⟩
      · rw [set_obj, if_pos rfl]
        congr 1
        rw [rp_add, List.append_assoc]
        congr 1
        · rw [List.take_left' hwl]
        · congr 1
          rw [show w * 3 + m * 3 = (rp xs w).length + m * 3 by rw [hwl], List.drop_length_add_append, show n - w = m + (n - (w + m)) by omega, rp_add, List.drop_left' (by rw [rp_len (k := 3) rfl])]
      · rw [set_obj, if_neg (by omega)]; exact hb b hb2
    · have hlt2 : ¬ (w : Int) < n := by omega
      obtain rfl : w = n := by omega
      simp -implicitDefEqProofs [g7, g8, hlt2, e143_r0, o143]
      refine hF s hs ?_ hb
      rw [ho, Nat.sub_self]; simp [rp]
  · rw [set_obj, if_pos rfl]
    congr 1
    have hsp : rp [(.int .i64 (0)), (.int .i64 (0)), (.int .i64 (0))] n = rp [(.int .i64 (0)), (.int .i64 (0)), (.int .i64 (0))] 1 ++ rp [(.int .i64 (0)), (.int .i64 (0)), (.int .i64 (0))] (n - 1) := by rw [← rp_add, show 1 + (n - 1) = n by omega]
    rw [hsp]
    simp [rp]
  · rw [set_obj, if_neg (by omega), push_obj, if_neg (by omega)]


/-! # slices.Repeat 117 -/
theorem r117 {cs : List (Con Tryz.prog)} (hc : cs.find? (fun c => c.f == 146) = some c146) (hk : (orcL cs).pur 117 = none) {a0 : Value} {xs : List Value} {n : Nat} {st : St} (hn : 0 < n) (hn2 : n ≤ 60) (hx : xs.length = 1) (hl : lenA a0 = some 1) (hlK : ∀ st, lenK .sl a0 st = some (I64 1))
    (hL : ∀ st', st.next ≤ st'.next → (∀ b, b < st.next → st'.obj b = st.obj b) → listA st' 1 a0 1 = some xs) {F : Value → St → Prop}
    (hF : ∀ st', st'.next = st.next + 1 → st'.obj st.next = rowOf (rp xs n) 1 true → (∀ b, b < st.next → st'.obj b = st.obj b) → F (.slice (some ⟨st.next, 0, none⟩) n n) st') :
    CallP Tryz.prog (orcL cs) (.func (.func 117) #[] #[]) [a0, I64 n] st F := by
  refine callP_wp (isP := isP) (fun _ _ _ => rfl) hk (by kernel_rfl) ?_
  have K146 := fun st => k146 hc n hn2 st
  have hw64 : IntKind.i64.wrap (n : Int) = (n : Int) := wrap64 (by omega)
  have hmk := fun (z : List Value) (st : St) => makeSlice_row (k := 1) (n := n) (z := z) (st := st) (by omega)
  rw [e117]
  have hneg : ¬ (n : Int) < 0 := by omega
  have hcv1 : ∀ st, convK (.int .u64) (I64 1) st = some (.int .u64 1) := fun st => rfl
  have hcv2 : ∀ st, convK (.int .u64) (I64 n) st = some (.int .u64 n) := fun st => by
    show some (Value.int .u64 (wrapF .u64 n)) = _
    rw [wrapF_eq]; congr; simp [IntKind.wrap, IntKind.bits, IntKind.signed]; omega
  have hcv3 : ∀ st, convK (.int .i64) (.int .u64 n) st = some (I64 n) := fun st => by
    show some (Value.int .i64 (wrapF .i64 n)) = _
    rw [wrapF_eq, hw64]
  have hbig : ¬ (9223372036854775807 : Int) < n := by omega
  simp -implicitDefEqProofs [hneg, hlK, hcv1, hcv2, K146, hcv3, hbig, hmk]
  rw [copy_row (k := 1) (m := 1) (sl := 1) (new := xs) (ys := rp [(.int .i64 (0))] n) (es := 1) (ex := true) (by rw [push_obj, if_pos rfl]) hl (by omega) (by omega) (hL _ (by simp) fun b hb => by rw [push_obj, if_neg (by omega)]) (by omega) (by rw [rp_len (k := 1) rfl]; omega)]
  simp -implicitDefEqProofs
  refine loop_rule (isP := isP) (fun q a s => ∃ (w : Nat) (t : Regs), a = ⟨48, t, []⟩ ∧ gt t 7 = .slice (some ⟨st.next, 0, none⟩) n n ∧ gt t 8 = I64 w ∧ 0 < w ∧ w ≤ n ∧ q = n - w ∧ s.next = st.next + 1 ∧
    s.obj st.next = rowOf (rp xs w ++ rp [(.int .i64 (0))] (n - w)) 1 true ∧ (∀ b, b < st.next → s.obj b = st.obj b)) ?_ (n - 1) _ _ ⟨1, _, rfl, by simp, by simp, by omega, by omega, by omega, by simp, ?_, fun b hb => ?_⟩
  · rintro q a s ⟨w, t, rfl, g7, g8, h0, h1, rfl, hs, ho, hb⟩
    rw [e117_b0]
    have hwl : (rp xs w).length = w * 1 := rp_len hx w
    have hzl : (rp [(.int .i64 (0))] (n - w)).length = (n - w) * 1 := rp_len rfl _
    by_cases hlt : w < n
    · have hlt2 : (w : Int) < n := by omega
      have hsl1 := slice_from (k := 1) (n := n) (c := n) ho h0 h1 (Nat.le_refl n) (by omega)
      have hsl2 := slice_to (k := 1) (n := n) (c := n) (w := w) ho h1
      obtain ⟨m, hm⟩ : ∃ m, m = min w (n - w) := ⟨_, rfl⟩
      have hlist : listA s 1 (.slice (some ⟨st.next, 0, none⟩) w n) m = some (rp xs m) := by
        rw [listA_at (n := m) ho (by omega) (by rw [List.length_append, hwl, hzl]; omega), List.drop_zero, List.take_append_of_le_length (by omega)]
        rw [show w = m + (w - m) by omega, rp_add, List.take_left' (rp_len hx m)]
      have hcp := copy_row (k := 1) (nm := st.next) (off := w * 1) (dl := n - w) (c := n - w) (m := m) (sl := w) (x := .slice (some ⟨st.next, 0, none⟩) w n) ho rfl hm (by omega) hlist (rp_len hx m) (by rw [List.length_append, hwl, hzl]; omega)
      simp only [Nat.mul_one] at hsl1 hcp hwl
      have hw2 : IntKind.i64.wrap ((w : Int) + m) = ((w + m : Nat) : Int) := by rw [wrap64 (by omega)]; push_cast; rfl
      simp -implicitDefEqProofs [g7, g8, hlt2, hsl1, hsl2, hcp, hw2, show st.next < s.next by omega]
      refine ⟨n - (w + m), by omega, w + m, by omega, by omega, by omega, by omega, hs, ?_, fun b hb2 => ?_⟩
      · rw [set_obj, if_pos rfl]
        congr 1
        rw [rp_add, List.append_assoc]
        congr 1
        · rw [List.take_left' hwl]
        · congr 1
          rw [show w + m = (rp xs w).length + m by rw [hwl], List.drop_length_add_append, show n - w = m + (n - (w + m)) by omega, rp_add, List.drop_left' (by rw [rp_len (k := 1) rfl]; omega)]; rw [hwl]
      · rw [set_obj, if_neg (by omega)]; exact hb b hb2
    · have hlt2 : ¬ (w : Int) < n := by omega
      obtain rfl : w = n := by omega
      simp -implicitDefEqProofs [g7, g8, hlt2, e117_r0, o117]
      refine hF s hs ?_ hb
      rw [ho, Nat.sub_self]; simp [rp]
  · rw [set_obj, if_pos rfl]
    congr 1
    have hsp : rp [(.int .i64 (0))] n = rp [(.int .i64 (0))] 1 ++ rp [(.int .i64 (0))] (n - 1) := by rw [← rp_add, show 1 + (n - 1) = n by omega]
    rw [hsp]
    simp [rp]
  · rw [set_obj, if_neg (by omega), push_obj, if_neg (by omega)]

end Go.Proofs.YtolgomkmilbkgaaGreat

set_option autoImplicit false
set_option maxRecDepth 100000
set_option linter.unusedSimpArgs false
set_option linter.unusedVariables false
namespace Go.Proofs.YtolgomkmilbkgaaGreat
open Go.Proofs.YtolgomkmilbkgaaGreat.Ev

theorem rg_next (p : Nat → Bool) (i : Nat) : (List.range (i + 1)).all p = ((List.range i).all p && p i) := by
  rw [List.range_succ, List.all_append]; simp
def nth (l : List Int) (t : Nat) : Int := l.getD t 0
theorem nth_at {l : List Int} {i : Nat} (h : i < l.length) : nth l i = l[i] := by unfold nth; rw [List.getD_eq_getElem?_getD, List.getElem?_eq_getElem h]; rfl
def AllTo (p : Nat → Bool) (n : Nat) : Prop := ∀ t, t < n → p t = true
theorem AllTo.zero (p : Nat → Bool) : AllTo p 0 := fun t h => by omega
theorem AllTo.next {p : Nat → Bool} {n : Nat} (h : AllTo p n) (hn : p n = true) : AllTo p (n + 1) := fun t ht => by
  rcases Nat.lt_or_ge t n with h' | h'
  · exact h t h'
  · obtain rfl : t = n := by omega
    exact hn
theorem AllTo.all {p : Nat → Bool} {n : Nat} (h : AllTo p n) : (List.range n).all p = true := List.all_eq_true.2 fun t ht => h t (List.mem_range.1 ht)
theorem AllTo.of {p : Nat → Bool} {n : Nat} (h : (List.range n).all p = true) : AllTo p n := fun t ht => List.all_eq_true.1 h t (List.mem_range.2 ht)
theorem rg_not {p : Nat → Bool} {i n : Nat} (h : i < n) (hx : p i = false) : (List.range n).all p = false := by
  rw [Bool.eq_false_iff]
  intro h2
  have := List.all_eq_true.1 h2 i (List.mem_range.2 h)
  rw [hx] at this; cases this

/-! # isWay 72 -/
def okT (b : Br) (m : Bool) (l : List Int) (t : Nat) : Bool := if needP b m t = 0 then decide (nth l t = -1) else canI b (nth l t) t
def isWayB (b : Br) (m : Bool) (l : List Int) : Bool := decide (l.length = b.days.length) && (List.range b.days.length).all (okT b m l)
theorem p72 (b : Br) (m : Bool) (l : List Int) (g : Good b) : PurOk Tryz.prog 72 [encP b m, encI l] (.bool (isWayB b m l)) := by
  refine pur_wp (cs := [c80, c118]) (isP := isP) (keep := false) mixed ?_
  have K80 := @k80 [c80, c118] rfl b m
  have K118 := @k118 [c80, c118] rfl b m
  have hl1000 : b.days.length ≤ 1000 := by have := g.len; omega
  rw [e72]
  by_cases hl : l.length = b.days.length
  case neg =>
    have : isWayB b m l = false := by simp [isWayB, hl]
    have hl2 : ¬ (l.length : Int) = b.days.length := by omega
    simp -implicitDefEqProofs [push_obj, hl2, this]
  have hl2 : (l.length : Int) = b.days.length := by omega
  simp -implicitDefEqProofs [push_obj, hl2]
  have hc : isWayB b m l = (List.range b.days.length).all (okT b m l) := by simp [isWayB, hl]
  refine loop_rule (isP := isP) (fun n a st => ∃ (i : Nat) (t : Regs), a = ⟨43, t, []⟩ ∧ gt t 2 = ptr 0 0 ∧ st.obj 0 = rowOf (encPl b m) 0 true ∧ gt t 14 = encI l ∧ gt t 15 = I64 b.days.length ∧ gt t 16 = I64 i ∧
    i ≤ b.days.length ∧ n = b.days.length - i ∧ AllTo (okT b m l) i) ?_ b.days.length _ _ ⟨0, _, rfl, by simp, by simp [push_obj], by simp, by simp, by simp, by simp, by simp, .zero _⟩
  rintro n a st ⟨i, t, rfl, g2, o0, g14, g15, g16, hi, rfl, hall⟩
  rw [e72_b0]
  by_cases hlt : i < b.days.length
  · have hw : IntKind.i64.wrap ((i : Int) + 1) = (i : Int) + 1 := wrap64 (by omega)
    have hi2 : (i : Int) < b.days.length := by omega
    have hil : i < l.length := by omega
    have hgd : nth l i = l[i] := nth_at hil
    have hn0 := (g.need m i).1
    have K80i := K80 i hlt
    have K118i := fun j => K118 j i hlt hl1000
    by_cases h0 : needP b m i = 0
    · by_cases h1 : l[i] = -1
      · have hx : okT b m l i = true := by unfold okT; rw [if_pos h0, hgd, h1]; rfl
        simp -implicitDefEqProofs [g2, g14, g15, g16, o0, hi2, hil, hw, K80i, h0, h1]
        exact ⟨_, by omega, i + 1, by omega, by omega, rfl, hall.next hx⟩
      · have hx : okT b m l i = false := by unfold okT; rw [if_pos h0, hgd]; simp [h1]
        have : isWayB b m l = false := by rw [hc, rg_not hlt hx]
        simp -implicitDefEqProofs [g2, g14, g15, g16, o0, hi2, hil, hw, K80i, h0, h1, o72, this]
    · have h0p : 0 < needP b m i := by omega
      cases h1 : canI b l[i] i with
      | true =>
        have hx : okT b m l i = true := by unfold okT; rw [if_neg h0, hgd, h1]
        simp -implicitDefEqProofs [g2, g14, g15, g16, o0, hi2, hil, hw, K80i, K118i, h0, h0p, h1]
        exact ⟨_, by omega, i + 1, by omega, by omega, rfl, hall.next hx⟩
      | false =>
        have hx : okT b m l i = false := by unfold okT; rw [if_neg h0, hgd, h1]
        have : isWayB b m l = false := by rw [hc, rg_not hlt hx]
        simp -implicitDefEqProofs [g2, g14, g15, g16, o0, hi2, hil, hw, K80i, K118i, h0, h0p, h1, o72, this]
  · have hi2 : ¬ (i : Int) < b.days.length := by omega
    obtain rfl : i = b.days.length := by omega
    have : isWayB b m l = true := by rw [hc, hall.all]
    simp -implicitDefEqProofs [g14, g15, g16, hi2, e72_r0, o72, this]
theorem bi_inj : ∀ x y : Br × Bool × List Int, [encP x.1 x.2.1, encI x.2.2] = [encP y.1 y.2.1, encI y.2.2] → x = y := fun ⟨_, _, _⟩ ⟨_, _, _⟩ h => by
  simp only [List.cons.injEq, and_true, true_and] at h; obtain ⟨rfl, rfl⟩ := encP_inj h.1; rw [encI_inj h.2]
noncomputable def c72 : Con Tryz.prog := mkCon 72 false (fun x : Br × Bool × List Int => [encP x.1 x.2.1, encI x.2.2]) (fun x => Good x.1) (fun x => .bool (isWayB x.1 x.2.1 x.2.2)) bi_inj (fun x h => p72 x.1 x.2.1 x.2.2 h)
theorem k72 {cs : List (Con Tryz.prog)} (h : cs.find? (fun c => c.f == 72) = some c72) (b : Br) (m : Bool) (l : List Int) (g : Good b) (st : St) : pcall (orcL cs) 72 [encP b m, encI l] st = some (.bool (isWayB b m l)) :=
  pcall_mk h (b, m, l) g (pv2 (p8P _ _) (p8L _)) st

/-! # arePrices 120 -/
def okP (b : Br) (m : Bool) (l : List Int) (t : Nat) : Bool := isF (-1099511627776) (nth l t) 1099511627776 && (decide (needP b m t ≠ 0) || decide (nth l t = 0))
def arePB (b : Br) (m : Bool) (l : List Int) (cost : Int) : Bool := decide (l.length = b.days.length) && (List.range b.days.length).all (okP b m l) && decide (Gr.S (fun t => nth l t) b.days.length = cost)
theorem p120 (b : Br) (m : Bool) (l : List Int) (cost : Int) (g : Good b) : PurOk Tryz.prog 120 [encP b m, encI l, I64 cost] (.bool (arePB b m l cost)) := by
  refine pur_wp (cs := [c80, c82]) (isP := isP) (keep := false) mixed ?_
  have K80 := @k80 [c80, c82] rfl b m
  have K82 := @k82 [c80, c82] rfl
  rw [e120]
  by_cases hl : l.length = b.days.length
  case neg =>
    have : arePB b m l cost = false := by simp [arePB, hl]
    have hl2 : ¬ (l.length : Int) = b.days.length := by omega
    simp -implicitDefEqProofs [push_obj, hl2, this]
  have hl2 : (l.length : Int) = b.days.length := by omega
  simp -implicitDefEqProofs [push_obj, hl2]
  have hc : arePB b m l cost = ((List.range b.days.length).all (okP b m l) && decide (Gr.S (fun t => nth l t) b.days.length = cost)) := by simp [arePB, hl]
  have hlen := g.len
  refine loop_rule (isP := isP) (fun n a st => ∃ (i : Nat) (t : Regs), a = ⟨44, t, []⟩ ∧ gt t 2 = I64 cost ∧ gt t 3 = ptr 0 0 ∧ st.obj 0 = rowOf (encPl b m) 0 true ∧ gt t 17 = encI l ∧ gt t 18 = I64 b.days.length ∧ gt t 19 = I64 i ∧ gt t 7 = I64 (Gr.S (fun t => nth l t) i) ∧
    i ≤ b.days.length ∧ n = b.days.length - i ∧ AllTo (okP b m l) i ∧ -(1099511627776 * (i : Int)) ≤ Gr.S (fun t => nth l t) i ∧ Gr.S (fun t => nth l t) i ≤ 1099511627776 * (i : Int)) ?_ b.days.length _ _
    ⟨0, _, rfl, by simp, by simp, by simp [push_obj], by simp, by simp, by simp, by simp [Gr.S], by simp, by simp, .zero _, by simp [Gr.S], by simp [Gr.S]⟩
  rintro n a st ⟨i, t, rfl, g2, g3, o0, g17, g18, g19, g7, hi, rfl, hall, hb1, hb2⟩
  rw [e120_b0]
  by_cases hlt : i < b.days.length
  · have hw : IntKind.i64.wrap ((i : Int) + 1) = (i : Int) + 1 := wrap64 (by omega)
    have hi2 : (i : Int) < b.days.length := by omega
    have hil : i < l.length := by omega
    have hgd : nth l i = l[i] := nth_at hil
    have K80i := K80 i hlt
    have hS : Gr.S (fun t => nth l t) (i + 1) = Gr.S (fun t => nth l t) i + l[i] := by show _ + nth l i = _; rw [hgd]
    cases h1 : isF (-1099511627776) l[i] 1099511627776 with
    | false =>
      have hx : okP b m l i = false := by unfold okP; rw [hgd, h1]; rfl
      have : arePB b m l cost = false := by rw [hc, rg_not hlt hx]; rfl
      simp -implicitDefEqProofs [g2, g3, g17, g18, g19, g7, o0, hi2, hil, hw, K80i, K82, h1, o120, this]
    | true =>
      have hr : -1099511627776 ≤ l[i] ∧ l[i] ≤ 1099511627776 := by simpa [isF] using h1
      have hw2 : IntKind.i64.wrap (Gr.S (fun t => nth l t) i + l[i]) = Gr.S (fun t => nth l t) (i + 1) := by rw [wrap64 (by omega), hS]
      have go : ∀ hx : okP b m l i = true, ∃ m', m' < b.days.length - i ∧ ∃ j, (i : Int) + 1 = ((j : Nat) : Int) ∧ Gr.S (fun t => nth l t) (i + 1) = Gr.S (fun t => nth l t) j ∧ j ≤ b.days.length ∧ m' = b.days.length - j ∧ AllTo (okP b m l) j ∧
          -(1099511627776 * (j : Int)) ≤ Gr.S (fun t => nth l t) j ∧ Gr.S (fun t => nth l t) j ≤ 1099511627776 * (j : Int) := fun hx => ⟨_, by omega, i + 1, by omega, rfl, by omega, rfl, hall.next hx, by omega, by omega⟩
      by_cases h0 : needP b m i = 0
      · by_cases h2 : l[i] = 0
        · have hx : okP b m l i = true := by unfold okP; rw [hgd, h1, h2]; simp
          have hw2' : IntKind.i64.wrap (Gr.S (fun t => nth l t) i) = Gr.S (fun t => nth l t) (i + 1) := by rw [← hw2, h2, Int.add_zero]
          rw [h2] at h1
          simp -implicitDefEqProofs [g2, g3, g17, g18, g19, g7, o0, hi2, hil, hw, K80i, K82, h0, h1, h2, hw2']
          exact go hx
        · have hx : okP b m l i = false := by unfold okP; rw [hgd, h1, h0]; simp [h2]
          have : arePB b m l cost = false := by rw [hc, rg_not hlt hx]; rfl
          simp -implicitDefEqProofs [g2, g3, g17, g18, g19, g7, o0, hi2, hil, hw, K80i, K82, h0, h1, h2, o120, this]
      · have hx : okP b m l i = true := by unfold okP; rw [hgd, h1]; simp [h0]
        simp -implicitDefEqProofs [g2, g3, g17, g18, g19, g7, o0, hi2, hil, hw, K80i, K82, h0, h1, hw2]
        exact go hx
  · have hi2 : ¬ (i : Int) < b.days.length := by omega
    obtain rfl : i = b.days.length := by omega
    have : arePB b m l cost = decide (Gr.S (fun t => nth l t) b.days.length = cost) := by rw [hc, hall.all]; rfl
    simp -implicitDefEqProofs [g2, g17, g18, g19, g7, hi2, e120_r0, o120, this]
theorem bic_inj : ∀ x y : Br × Bool × List Int × Int, [encP x.1 x.2.1, encI x.2.2.1, I64 x.2.2.2] = [encP y.1 y.2.1, encI y.2.2.1, I64 y.2.2.2] → x = y := fun ⟨_, _, _, _⟩ ⟨_, _, _, _⟩ h => by
  simp only [List.cons.injEq, Value.int.injEq, and_true, true_and] at h; obtain ⟨rfl, rfl⟩ := encP_inj h.1; rw [encI_inj h.2.1, h.2.2]
noncomputable def c120 : Con Tryz.prog := mkCon 120 false (fun x : Br × Bool × List Int × Int => [encP x.1 x.2.1, encI x.2.2.1, I64 x.2.2.2]) (fun x => Good x.1) (fun x => .bool (arePB x.1 x.2.1 x.2.2.1 x.2.2.2)) bic_inj (fun x h => p120 x.1 x.2.1 x.2.2.1 x.2.2.2 h)
theorem k120 {cs : List (Con Tryz.prog)} (h : cs.find? (fun c => c.f == 120) = some c120) (b : Br) (m : Bool) (l : List Int) (cost : Int) (g : Good b) (st : St) : pcall (orcL cs) 120 [encP b m, encI l, I64 cost] st = some (.bool (arePB b m l cost)) :=
  pcall_mk h (b, m, l, cost) g (pv3 (p8P _ _) (p8L _) (p8I _)) st
end Go.Proofs.YtolgomkmilbkgaaGreat

