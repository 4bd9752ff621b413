import Derived.Test.YtolgomkmilbkgaaGreatD
set_option autoImplicit false
set_option maxRecDepth 100000
set_option linter.unusedSimpArgs false
set_option linter.unusedVariables false
namespace Go.Proofs.YtolgomkmilbkgaaGreat
open Go.Proofs.YtolgomkmilbkgaaGreat.Ev
noncomputable def c116 : Con Tryz.prog := mkCon 116 false (fun x : Br × Bool => [encP x.1 x.2]) (fun x => Good x.1) (fun x => resC x.1 x.2) (fun ⟨_, _⟩ ⟨_, _⟩ h => by
  simp only [List.cons.injEq, and_true] at h; obtain ⟨rfl, rfl⟩ := encP_inj h; rfl) (fun x h => p116 x.1 x.2 h)
theorem k116 {cs : List (Con Tryz.prog)} (h : cs.find? (fun c => c.f == 116) = some c116) (b : Br) (m : Bool) (g : Good b) (st : St) : pcall (orcL cs) 116 [encP b m] st = some (resC b m) :=
  pcall_mk h (b, m) g (pv1 (p8P _ _)) st

/-! # found 70 -/
def zB : Br := ⟨0, 0, []⟩
/-- The first error, or that there is no way. -/
def errF (b : Br) (m : Bool) : Int := if chk b = 0 then (if Gr.run (barn b m) b.days.length = none then 5 else 0) else chk b
/-- The courses, if there are any. -/
def csF (b : Br) (m : Bool) : List Gr.Cs := match Gr.run (barn b m) b.days.length with | some r => r.bs | none => []
noncomputable def foundV (b : Br) (m : Bool) : Value := if errF b m = 0 then .tuple ⟨[encP b m, encCs (csF b m), I64 0]⟩ else .tuple ⟨[encP zB false, encCs [], I64 (errF b m)]⟩
theorem snap_tup3 {keep : Bool} {st : St} {a b c a' b' c' : Value} (ha : snapV keep st 7 a = some a') (hb : snapV keep st 7 b = some b') (hc : snapV keep st 7 c = some c') : snapV keep st snapD (.tuple ⟨[a, b, c]⟩) = some (.tuple ⟨[a', b', c']⟩) := by
  show osel (mapO (snapV keep st 7) [a, b, c]) none (fun cs => some (Value.tuple ⟨cs⟩)) = _
  simp only [mapO, ha, hb, hc]; rfl
theorem snap_zP (st : St) : snapV false st 7 (.agg ⟨[I64 0, I64 0, .slice none 0 0, .bool false]⟩) = some (encP zB false) := rfl
theorem snap_zC (st : St) : snapV false st 7 (.slice none 0 0) = some (encCs []) := rfl
theorem p70 (b : Br) (m : Bool) : PurOk Tryz.prog 70 [encB b, .bool m] (foundV b m) := by
  refine pur_wp (cs := [c46, c116]) (isP := isP) (keep := false) mixed ?_
  have K46 := fun st => @k46 [c46, c116] rfl b st
  have hz1 : buildA (.str [(.int .i64 (0)), (.int .i64 (0)), (.slice none 0 0), (.bool false)] [(0, 3), (3, 1)]) [] = some (.agg ⟨[I64 0, I64 0, .slice none 0 0, .bool false]⟩) := rfl
  rw [e70]
  by_cases hc : chk b = 0
  · have g := good_of hc
    have K116 := fun st => @k116 [c46, c116] rfl b m g st
    cases hr : Gr.run (barn b m) b.days.length with
    | none =>
      have he : errF b m = 5 := by unfold errF; rw [if_pos hc, if_pos hr]
      have hres : resC b m = .tuple ⟨[encCs [], .bool false]⟩ := by unfold resC; rw [hr]
      have : foundV b m = .tuple ⟨[encP zB false, encCs [], I64 5]⟩ := by unfold foundV; rw [he, if_neg (by omega)]
      rw [this]
      simp -implicitDefEqProofs [push_obj, set_obj, K46, K116, hc, hres, hz1]
      exact snap_tup3 (snap_zP _) (snap_zC _) rfl
    | some r =>
      have he : errF b m = 0 := by unfold errF; rw [if_pos hc, if_neg (by rw [hr]; simp)]
      have hres : resC b m = .tuple ⟨[encCs r.bs, .bool true]⟩ := by unfold resC; rw [hr]
      have : foundV b m = .tuple ⟨[encP b m, encCs r.bs, I64 0]⟩ := by unfold foundV csF; rw [he, if_pos rfl, hr]
      rw [this]
      simp -implicitDefEqProofs [push_obj, set_obj, K46, K116, hc, hres, hz1]
      exact snap_tup3 ((encP_pv _ _).snap _ _ _ (by omega)) ((encCs_pv _).snap _ _ _ (by omega)) rfl
  · have he : errF b m = chk b := by unfold errF; rw [if_neg hc]
    have : foundV b m = .tuple ⟨[encP zB false, encCs [], I64 (chk b)]⟩ := by unfold foundV; rw [he, if_neg hc]
    rw [this]
    simp -implicitDefEqProofs [push_obj, set_obj, K46, hc, hz1]
    exact snap_tup3 (snap_zP _) (snap_zC _) rfl
noncomputable def c70 : Con Tryz.prog := mkCon 70 false (fun x : Br × Bool => [encB x.1, .bool x.2]) (fun _ => True) (fun x => foundV x.1 x.2) (fun ⟨_, _⟩ ⟨_, _⟩ h => by
  simp only [List.cons.injEq, Value.bool.injEq, and_true] at h; rw [encB_inj h.1, h.2]) (fun x _ => p70 x.1 x.2)
theorem k70 {cs : List (Con Tryz.prog)} (h : cs.find? (fun c => c.f == 70) = some c70) (b : Br) (m : Bool) (st : St) : pcall (orcL cs) 70 [encB b, .bool m] st = some (foundV b m) :=
  pcall_mk h (b, m) trivial (pv2 (p8B _) (p8b _)) st
noncomputable def c71 : Con Tryz.prog := mkCon 71 false (fun x : Br × Bool × List Gr.Cs => [encP x.1 x.2.1, encCs x.2.2]) (fun x => Good x.1 ∧ x.2.2.length = x.1.days.length + 1 ∧ ∀ n, 0 < n → n ≤ x.1.days.length → (x.2.2.getD n default).first < n) (fun x => encI (bL x.1 x.2.1 x.2.2))
  (fun ⟨_, _, _⟩ ⟨_, _, _⟩ h => by
    simp only [List.cons.injEq, and_true] at h; obtain ⟨rfl, rfl⟩ := encP_inj h.1; rw [encCs_inj h.2]) (fun x h => p71 x.1 x.2.1 x.2.2 h.1 h.2.1 h.2.2)
theorem k71 {cs : List (Con Tryz.prog)} (h : cs.find? (fun c => c.f == 71) = some c71) (b : Br) (m : Bool) (bs : List Gr.Cs) (g : Good b) (hl : bs.length = b.days.length + 1) (hf : ∀ n, 0 < n → n ≤ b.days.length → (bs.getD n default).first < n) (st : St) : pcall (orcL cs) 71 [encP b m, encCs bs] st = some (encI (bL b m bs)) :=
  pcall_mk h (b, m, bs) ⟨g, hl, hf⟩ (pv2 (p8P _ _) (p8C _)) st

/-! # Best 19 -/
theorem first_lt {B : Gr.Barn} {M : Int} {N : Nat} {r : Gr.Run} (R : Gr.RunOk B M N r) : ∀ n, 0 < n → n ≤ N → (r.bs.getD n default).first < n := fun n h0 hn => by
  obtain ⟨q, rfl⟩ : ∃ q, n = q + 1 := ⟨n - 1, by omega⟩
  obtain ⟨h1, h2⟩ := R.bs q (by omega)
  by_cases hz : B.need q = 0
  · rw [h1 hz]; show q < q + 1; omega
  · obtain ⟨i, s, h3, h4, _⟩ := h2 hz
    rw [h3]; show s < q + 1; omega
def prL (bs : List Gr.Cs) (n : Nat) : List Int := (List.range n).map fun t => (bs.getD (t + 1) default).cost - (bs.getD t default).cost
def bestL (b : Br) (m : Bool) : Lt := if errF b m = 0 then ⟨bL b m (csF b m), ((csF b m).getD b.days.length default).cost, prL (csF b m) b.days.length⟩ else ⟨[], 0, []⟩
theorem snap_agg3 {keep : Bool} {st : St} {d : Nat} {a b c a' b' c' : Value} (ha : snapV keep st d a = some a') (hb : snapV keep st d b = some b') (hc : snapV keep st d c = some c') : snapV keep st (d + 1) (.agg ⟨[a, b, c]⟩) = some (.agg ⟨[a', b', c']⟩) := by
  show osel (mapO (snapV keep st d) [a, b, c]) none (fun cs => some (Value.agg ⟨cs⟩)) = _
  simp only [mapO, ha, hb, hc]; rfl
theorem snap_zC6 (st : St) : snapV false st 6 (.slice none 0 0) = some (encI []) := rfl
theorem prL_len (bs : List Gr.Cs) (n : Nat) : (prL bs n).length = n := by simp [prL]
theorem prL_next (bs : List Gr.Cs) (n : Nat) : prL bs (n + 1) = prL bs n ++ [(bs.getD (n + 1) default).cost - (bs.getD n default).cost] := by unfold prL; rw [List.range_succ, List.map_append]; rfl
/-- What the memory of Best holds. -/
def BI (b : Br) (bo : List Int) (co : Int) (bs : List Gr.Cs) (t : Nat) (s : St) : Prop := (∃ u v w, s.obj 1 = rowOf [u, v, w] 0 true) ∧ 4 ≤ s.next ∧ ∃ pn, s.obj 3 = rowOf [encI bo, I64 co, ov pn t] 0 true ∧ Owns s pn t 1 ((prL bs t).map (Value.int .i64)) ∧ (0 < t → 4 ≤ pn ∧ pn < s.next)
theorem p19 (b : Br) (m : Bool) : PurOk Tryz.prog 19 [encB b, .bool m] (.tuple ⟨[encL (bestL b m), I64 (errF b m)]⟩) := by
  refine pur_wp (cs := [c70, c71]) (isP := isP) (keep := false) mixed ?_
  have K70 := fun st => @k70 [c70, c71] rfl b m st
  have hzP : ∀ (nm : Nat) (st : St) (x : Br) (y : Bool), storeN (.agg 4) (ptr nm 0) (encP x y) st = stOk 4 0 (encPl x y) nm (st.obj nm) st := fun _ _ _ _ => rfl
  have hzL : buildA (.str [(.slice none 0 0), (.int .i64 (0)), (.slice none 0 0)] [(0, 1), (1, 1), (2, 1)]) [] = some (.agg ⟨[.slice none 0 0, I64 0, .slice none 0 0]⟩) := rfl
  rw [e19]
  by_cases he : errF b m = 0
  · obtain ⟨hc, r, hr⟩ : chk b = 0 ∧ ∃ r, Gr.run (barn b m) b.days.length = some r := by
      unfold errF at he
      by_cases hc : chk b = 0
      · rw [if_pos hc] at he
        cases hr : Gr.run (barn b m) b.days.length with
        | none => rw [hr, if_pos rfl] at he; omega
        | some r => exact ⟨hc, r, rfl⟩
      · rw [if_neg hc] at he; exact absurd he hc
    have g := good_of hc
    have hlen := g.len
    have hpos := g.pos
    have R := Gr.run_ok (barn_ok g m) (barn_bnd g m) _ r (Nat.le_refl _) hr
    have hcs : csF b m = r.bs := by unfold csF; rw [hr]
    have hfv : foundV b m = .tuple ⟨[encP b m, encCs r.bs, I64 0]⟩ := by unfold foundV; rw [if_pos he, hcs]
    have K71 := fun st => @k71 [c70, c71] rfl b m r.bs g R.len (first_lt R) st
    have hbest : bestL b m = ⟨bL b m r.bs, (r.bs.getD b.days.length default).cost, prL r.bs b.days.length⟩ := by unfold bestL; rw [if_pos he, hcs]
    rw [hbest]
    obtain ⟨bo, hbo⟩ : ∃ bo, bo = bL b m r.bs := ⟨_, rfl⟩
    obtain ⟨co, hco⟩ : ∃ co, co = (r.bs.getD b.days.length default).cost := ⟨_, rfl⟩
    rw [← hbo, ← hco]
    rw [← hbo] at K71
    have hNl : b.days.length < r.bs.length := by rw [R.len]; omega
    have ldN : ∀ st', loadA .one (pC r.bs b.days.length 0) st' = .ok (I64 co) st' := fun st' => by rw [ld_C0 hNl, hco]
    have hbl : buildA (.str [(.slice none 0 0), (.int .i64 (0)), (.slice none 0 0)] [(0, 1), (1, 1), (2, 1)]) [(0, encI bo), (1, I64 co)] = some (.agg ⟨[encI bo, I64 co, .slice none 0 0]⟩) := rfl
    have hbelL : ∀ N : Nat, belowV 6 N (.agg ⟨[encI bo, I64 co, .slice none 0 0]⟩) = true := fun N => by
      have h1 : belowV 5 N (encI bo) = true := (encI_pv bo).below _ _ (by omega)
      have h2 : belowV 5 N (I64 co) = true := rfl
      have h3 : belowV 5 N (.slice none 0 0) = true := rfl
      show ([encI bo, I64 co, .slice none 0 0].all (belowV 5 N)) = true
      simp [h1, h2, h3]
    simp -implicitDefEqProofs [-List.getD_eq_getElem?_getD, push_obj, set_obj, K70, hfv, he, K71, hNl, ldN, hbl, hbelL]
    have hwb : ∀ t, t ≤ b.days.length → 0 ≤ (r.bs.getD t default).cost ∧ (r.bs.getD t default).cost ≤ 61100000 * 61 := fun t ht => by
      have := R.bnd t ht
      have hD : r.D t = (r.bs.getD t default).cost := rfl
      rw [hD] at this
      omega
    refine loop_rule (isP := isP) (fun q a s => ∃ (t : Nat) (u : Regs), a = ⟨60, u, []⟩ ∧ gt u 4 = ptr 1 0 ∧ gt u 7 = encCs r.bs ∧ gt u 9 = ptr 3 0 ∧ gt u 37 = I64 b.days.length ∧ gt u 38 = I64 t ∧ t ≤ b.days.length ∧ q = b.days.length - t ∧ BI b bo co r.bs t s) ?_ b.days.length _ _
      ⟨0, _, rfl, by simp, by simp, by simp, by simp, by simp, by simp, by simp, ⟨.slice none 0 0, I64 0, .slice none 0 0, by simp [push_obj, set_obj]⟩, by simp, 0, by simp [push_obj, set_obj], ⟨rfl, fun h => by omega⟩, fun h => by omega⟩
    rintro q a s ⟨t, u, rfl, g4, g7, g9, g37, g38, ht, rfl, ⟨y1, y2, y3, o1⟩, hn4, pn, o3, hown, hpn⟩
    rw [e19_b0]
    by_cases hlt : t < b.days.length
    · have hlt' : (t : Int) < b.days.length := by omega
      have hwt : IntKind.i64.wrap ((t : Int) + 1) = (t : Int) + 1 := wrap64 (by omega)
      have b1 := hwb t (by omega)
      have b2 := hwb (t + 1) (by omega)
      have ld1 : ∀ st', loadA .one (pC r.bs t 0) st' = .ok (I64 (r.bs.getD t default).cost) st' := fun st' => ld_C0 (by rw [R.len]; omega) st'
      have ld2 : ∀ st', loadA .one (pC r.bs (t + 1) 0) st' = .ok (I64 (r.bs.getD (t + 1) default).cost) st' := fun st' => ld_C0 (by rw [R.len]; omega) st'
      obtain ⟨x1, hx1⟩ : ∃ x, x = (r.bs.getD t default).cost := ⟨_, rfl⟩
      obtain ⟨x2, hx2⟩ : ∃ x, x = (r.bs.getD (t + 1) default).cost := ⟨_, rfl⟩
      rw [← hx1] at ld1 b1
      rw [← hx2] at ld2 b2
      have hwd : IntKind.i64.wrap (x2 - x1) = x2 - x1 := wrap64 (by omega)
      have hi1 : t + 1 < r.bs.length := by rw [R.len]; omega
      have hi0 : t < r.bs.length := by omega
      have n3 : 3 < s.next := by omega
      have n3' : ¬ s.next = 3 := by omega
      have hbs : ∀ (x : Int) (st : St), buildSliceA (.mk 1 [(.int .i64 (0))] true) 1 [(0, I64 x)] st = .ok (.slice (some ⟨st.next, 0, none⟩) 1 1) (st.push (rowOf [I64 x] 1 true)) := fun x st => buildSlice_row rfl (by omega)
      have hpb : t = 0 ∨ pn < s.next + 1 := by rcases Nat.eq_zero_or_pos t with h | h; exact .inl h; exact .inr (by have := hpn h; omega)
      simp -implicitDefEqProofs [-List.getD_eq_getElem?_getD, g4, g7, g9, g37, g38, hlt', hwt, o3, hi0, hi1, ld1, ld2, hwd, hbs, n3, push_obj]
      refine bindP_app (new := [I64 (x2 - x1)]) (hown.same (by simp) fun h => by simp [push_obj, show ¬ pn = s.next by have := hpn h; omega]) rfl (by omega) (by omega) ?_ rfl ?_
      · rw [listA_row (xs := [I64 (x2 - x1)]) (es := 1) (ex := true) (by simp [push_obj]) (by omega) (by simp)]; rfl
      intro s3 f1 f2 f3
      simp at f1 f3
      have hne : ∀ k, k < 4 → 0 < t → ¬ k = pn := fun k hk h => by have := hpn h; omega
      have p1 : s3.obj 1 = rowOf [y1, y2, y3] 0 true := by rw [f3 1 (by omega) (fun h => hne 1 (by omega) h)]; simp [push_obj, show ¬ 1 = s.next by omega, o1]
      have p3 : s3.obj 3 = rowOf [encI bo, I64 co, ov pn t] 0 true := by rw [f3 3 (by omega) (fun h => hne 3 (by omega) h)]; simp [push_obj, show ¬ 3 = s.next by omega, o3]
      have hpbd : (decide (t = 0) || decide (pn < s.next + 1)) = true := by rcases hpb with h | h <;> simp [h]
      simp -implicitDefEqProofs [f1, p3, hpbd, show 3 < s.next + 1 + 1 by omega, show 3 < s.next + 1 by omega, set_obj, hwt]
      simp at f2
      refine ⟨_, by omega, t + 1, by omega, by omega, rfl, ⟨y1, y2, y3, by simp [set_obj, p1]⟩, by simp [f1]; omega, s.next + 1, by simp [set_obj], ?_, fun _ => ⟨by omega, by simp [f1]⟩⟩
      rw [prL_next, List.map_append, ← hx1, ← hx2]
      exact Owns.same (st := s3) (by simpa using f2) (by simp) fun _ => by rw [set_obj, if_neg (by omega)]
    · have hlt' : ¬ (t : Int) < b.days.length := by omega
      obtain rfl : t = b.days.length := by omega
      simp -implicitDefEqProofs [g4, g9, g37, g38, hlt', e19_r0, o19, o3, o1, set_obj]
      have hown' : Owns (s.setObj 1 (rowOf [encI bo, I64 co, ov pn b.days.length] 0 true)) pn b.days.length 1 ((prL r.bs b.days.length).map (Value.int .i64)) := hown.same (by simp) fun h => by rw [set_obj, if_neg (by have := hpn h; omega)]
      have hs := snap_own (keep := false) (d := 5) hown' (fun u hu => by obtain ⟨n, _, rfl⟩ := List.mem_map.1 hu; rfl) rfl
      have hcs : encI (prL r.bs b.days.length) = fsl b.days.length ((prL r.bs b.days.length).map (Value.int .i64)) := by unfold encI; rw [prL_len]
      rw [← hcs] at hs
      exact snap_tup2 (snap_agg3 ((encI_pv bo).snap _ _ _ (by omega)) rfl hs) rfl
  · have : foundV b m = .tuple ⟨[encP zB false, encCs [], I64 (errF b m)]⟩ := by unfold foundV; rw [if_neg he]
    have hb : bestL b m = ⟨[], 0, []⟩ := by unfold bestL; rw [if_neg he]
    rw [hb]
    simp -implicitDefEqProofs [push_obj, set_obj, K70, this, he, hzL]
    exact snap_tup2 (snap_agg3 (snap_zC6 _) rfl (snap_zC6 _)) rfl
noncomputable def c19 : Con Tryz.prog := mkCon 19 false (fun x : Br × Bool => [encB x.1, .bool x.2]) (fun _ => True) (fun x => .tuple ⟨[encL (bestL x.1 x.2), I64 (errF x.1 x.2)]⟩) (fun ⟨_, _⟩ ⟨_, _⟩ h => by
  simp only [List.cons.injEq, Value.bool.injEq, and_true] at h; rw [encB_inj h.1, h.2]) (fun x _ => p19 x.1 x.2)
theorem k19 {cs : List (Con Tryz.prog)} (h : cs.find? (fun c => c.f == 19) = some c19) (b : Br) (m : Bool) (st : St) : pcall (orcL cs) 19 [encB b, .bool m] st = some (.tuple ⟨[encL (bestL b m), I64 (errF b m)]⟩) :=
  pcall_mk h (b, m) trivial (pv2 (p8B _) (p8b _)) st
end Go.Proofs.YtolgomkmilbkgaaGreat

set_option autoImplicit false
set_option maxRecDepth 100000
set_option linter.unusedSimpArgs false
set_option linter.unusedVariables false
namespace Go.Proofs.YtolgomkmilbkgaaGreat
open Go.Proofs.YtolgomkmilbkgaaGreat.Ev

/-! # What is true of Best -/
theorem take_range {p : Nat → Bool} : ∀ (n a : Nat), ∃ k, k ≤ n ∧ (List.range' a n).takeWhile p = List.range' a k ∧ (∀ t, t < k → p (a + t) = true) ∧ (k < n → p (a + k) = false)
  | 0, a => ⟨0, by omega, rfl, fun t h => by omega, fun h => by omega⟩
  | n + 1, a => by
    rw [List.range'_succ, List.takeWhile_cons]
    cases hp : p a with
    | false => exact ⟨0, by omega, rfl, fun t h => by omega, fun _ => hp⟩
    | true =>
      obtain ⟨k, h1, h2, h3, h4⟩ := take_range (p := p) n (a + 1)
      refine ⟨k + 1, by omega, by rw [List.range'_succ, h2]; rfl, fun t ht => ?_, fun h => ?_⟩
      · cases t with
        | zero => exact hp
        | succ t => have := h3 t (by omega); rwa [show a + (t + 1) = a + 1 + t by omega]
      · have := h4 (by omega); rwa [show a + (k + 1) = a + 1 + k by omega]
theorem can_iff {b : Br} {m : Bool} {i t : Nat} (ht : t < b.days.length) : (barn b m).can i t = true ↔ canI b i t = true := by
  show (canI b i t && decide (t < b.days.length)) = true ↔ _
  rw [decide_eq_true ht, Bool.and_true]
/-- Prices that nothing undercuts. -/
theorem und_all {b : Br} {m : Bool} {l : List Int} {i : Nat} (g : Good b) (h : undB b m i l = false) : ∀ s t, s ≤ t → t < b.days.length → (∀ v, s ≤ v → v ≤ t → (barn b m).can i v = true) → Gr.T (fun v => nth l v - (barn b m).g i v) s (t + 1) ≤ (barn b m).fare i := by
  intro s t hst ht hc
  obtain ⟨k, h1, h2, h3, h4⟩ := take_range (p := fun t => canI b (i : Int) t) (b.days.length - i) i
  unfold undB tgtN at h
  rw [h2] at h
  have his := (barn_ok g m).le i s (hc s (by omega) hst)
  have hk : t < i + k := by
    rcases Nat.lt_or_ge t (i + k) with h' | h'
    · exact h'
    · exfalso
      have := h4 (by omega)
      have hmid := (barn_ok g m).mid i t (i + k) (hc t hst (by omega)) (by omega) (by omega)
      rw [can_iff (by omega)] at hmid
      rw [hmid] at this; cases this
  have := (Gr.und_false h).2 (s - i) (t - i) (by omega) (by omega)
  rw [show i + (s - i) = s by omega, show i + (t - i) + 1 = t + 1 by omega] at this
  exact this
/-- What is proved costs no more than any way. -/
theorem proof_low {b : Br} {m : Bool} {l : List Int} {cost : Int} (g : Good b) (h : proofB b m l cost = true) {w : Nat → Option Nat} (hw : Gr.Way (barn b m) w b.days.length) : cost ≤ Gr.cost (barn b m) w b.days.length := by
  unfold proofB at h
  rw [Bool.and_eq_true] at h
  obtain ⟨h1, h2⟩ := h
  obtain ⟨_, _, hz, hS⟩ := are_of h1
  have h2 := AllTo.of h2
  have := Gr.lower (barn_ok g m) _ (Gr.low_of (barn_ok g m) (p := nth l) hz fun i s t hst ht hc => ?_) w hw
  · rw [← hS]; exact this
  · have his := (barn_ok g m).le i s (hc s (by omega) hst)
    have hi := h2 i (by omega)
    exact und_all g (by simpa using hi) s t hst ht hc
theorem wOf_lW {w : Nat → Option Nat} {N t : Nat} (h : t < N) : wOf (lW w N) t = w t := by
  unfold wOf
  rw [nth_lW h]
  cases hw : w t with
  | none => rfl
  | some i => show (if (i : Int) < 0 then none else some (i : Int).toNat) = some i; rw [if_neg (by omega)]; simp
theorem isWay_lW {b : Br} {m : Bool} {w : Nat → Option Nat} (hw : Gr.Way (barn b m) w b.days.length) : isWayB b m (lW w b.days.length) = true := by
  unfold isWayB
  rw [lW_len, decide_eq_true rfl, Bool.true_and]
  refine AllTo.all fun t ht => ?_
  obtain ⟨h1, h2⟩ := hw t ht
  unfold okT
  rw [nth_lW ht]
  by_cases h0 : needP b m t = 0
  · rw [if_pos h0, h1 h0]; rfl
  · rw [if_neg h0]
    obtain ⟨i, hi, hc⟩ := h2 h0
    rw [hi]
    exact (can_iff ht).1 hc
section
variable {b : Br} {m : Bool} {r : Gr.Run} (g : Good b) (hr : Gr.run (barn b m) b.days.length = some r)
include g hr
theorem best_run : Gr.RunOk (barn b m) 61100000 b.days.length r := Gr.run_ok (barn_ok g m) (barn_bnd g m) _ r (Nat.le_refl _) hr
theorem best_way : isWayB b m (bL b m r.bs) = true := isWay_lW (Gr.back_cost (barn_ok g m) (best_run g hr)).1
theorem best_cost : costP b m (bL b m r.bs) = r.D b.days.length := by
  unfold costP
  have h : ∀ t, t < b.days.length → wOf (bL b m r.bs) t = Gr.back (barn b m) r.bs b.days.length b.days.length (fun _ => none) t := fun t ht => wOf_lW ht
  rw [Gr.cost_congr h]
  exact (Gr.back_cost (barn_ok g m) (best_run g hr)).2
theorem best_least {l : List Int} (hl : isWayB b m l = true) : r.D b.days.length ≤ costP b m l := Gr.lower (barn_ok g m) _ (best_run g hr).low _ (way_of g hl).2.1
omit g hr in
theorem nth_pr {t : Nat} (ht : t < b.days.length) : nth (prL r.bs b.days.length) t = r.D (t + 1) - r.D t := by
  rw [nth_at (by rw [prL_len]; exact ht)]; unfold prL; simp; rfl
theorem sum_pr : ∀ n, n ≤ b.days.length → Gr.S (fun t => nth (prL r.bs b.days.length) t) n = r.D n
  | 0, _ => by
    have := (best_run g hr).bnd 0 (by omega)
    show 0 = r.D 0
    omega
  | n + 1, h => by
    show Gr.S (fun t => nth (prL r.bs b.days.length) t) n + nth (prL r.bs b.days.length) n = _
    rw [sum_pr n (by omega), nth_pr (by omega)]; omega
theorem best_proof : proofB b m (prL r.bs b.days.length) (r.D b.days.length) = true := by
  have R := best_run g hr
  have hlen := g.len
  have hnth : ∀ t, t < b.days.length → nth (prL r.bs b.days.length) t = r.D (t + 1) - r.D t := fun t ht => nth_pr ht
  unfold proofB
  rw [Bool.and_eq_true]
  constructor
  · unfold arePB
    rw [prL_len, decide_eq_true rfl, Bool.true_and, Bool.and_eq_true]
    refine ⟨AllTo.all fun t ht => ?_, decide_eq_true (sum_pr g hr _ (Nat.le_refl _))⟩
    unfold okP isF
    rw [hnth t ht]
    have b1 := R.bnd t (by omega)
    have b2 := R.bnd (t + 1) (by omega)
    have hmo := R.mono t ht
    have e1 : decide (-1099511627776 ≤ r.D (t + 1) - r.D t) = true := decide_eq_true (by omega)
    have e2 : decide (r.D (t + 1) - r.D t ≤ 1099511627776) = true := decide_eq_true (by omega)
    rw [e1, e2, Bool.true_and, Bool.true_and]
    by_cases h0 : needP b m t = 0
    · have := (R.bs t ht).1 h0
      have hD : r.D (t + 1) = r.D t := by unfold Gr.Run.D at this ⊢; rw [this]
      rw [hD]; simp
    · simp [h0]
  · refine AllTo.all fun i hi => ?_
    have : undB b m i (prL r.bs b.days.length) = false := by
      obtain ⟨k, h1, h2, h3, h4⟩ := take_range (p := fun t => canI b (i : Int) t) (b.days.length - i) i
      unfold undB tgtN
      rw [h2]
      have key : ∀ s t, s ≤ t → t < k → Gr.T (fun v => nth (prL r.bs b.days.length) v - grainP b m i v) (i + s) (i + t + 1) ≤ fareP b i := fun s t hst ht => by
        have h5 := Gr.low_run (barn_ok g m) R.low (i := i) (t - s + 1) (i + s) (by omega) fun v q1 q2 => by
          rw [can_iff (by omega)]
          have := h3 (v - i) (by omega)
          rwa [show i + (v - i) = v by omega] at this
        rw [show i + s + (t - s + 1) = i + t + 1 by omega] at h5
        have e1 := Gr.T_sub (fun v => nth (prL r.bs b.days.length) v) (fun v => grainP b m i v) (i + s) (i + t + 1) (by omega)
        have e2 : Gr.T (fun v => nth (prL r.bs b.days.length) v) (i + s) (i + t + 1) = r.D (i + t + 1) - r.D (i + s) := by
          rw [Gr.T_congr (by omega) fun v q1 q2 => hnth v (by omega)]
          exact Gr.T_diff r.D (i + s) _ (by omega)
        have e3 : Gr.T ((barn b m).g i) (i + s) (i + t + 1) = Gr.T (fun v => grainP b m i v) (i + s) (i + t + 1) := rfl
        have e4 : (barn b m).fare i = fareP b i := rfl
        rw [e3, e4] at h5
        omega
      refine Gr.und_of (fun t ht => ?_) key
      have := key 0 t (by omega) ht
      rw [Nat.add_zero] at this
      omega
    show (!undB b m i (prL r.bs b.days.length)) = true
    rw [this]; rfl
end
theorem err_some {b : Br} {m : Bool} (he : errF b m = 0) : Good b ∧ chk b = 0 ∧ ∃ r, Gr.run (barn b m) b.days.length = some r ∧ csF b m = r.bs := by
  unfold errF at he
  by_cases hc : chk b = 0
  · rw [if_pos hc] at he
    cases hr : Gr.run (barn b m) b.days.length with
    | none => rw [hr, if_pos rfl] at he; omega
    | some r => exact ⟨good_of hc, hc, r, rfl, by unfold csF; rw [hr]⟩
  · rw [if_neg hc] at he; exact absurd he hc
theorem best_checks {b : Br} {m : Bool} (he : errF b m = 0) : costN b m (bestL b m).bought = (bestL b m).cost ∧ costE b m (bestL b m).bought = 0 ∧ chkBest b m (bestL b m) = 0 := by
  obtain ⟨g, hc, r, hr, hcs⟩ := err_some he
  have hb : bestL b m = ⟨bL b m r.bs, r.D b.days.length, prL r.bs b.days.length⟩ := by unfold bestL; rw [if_pos he, hcs]; rfl
  rw [hb]
  have h1 := best_way g hr
  have h2 := best_cost g hr
  have h3 := best_proof g hr
  refine ⟨?_, ?_, ?_⟩
  · unfold costN; rw [if_pos ⟨hc, h1⟩, h2]
  · unfold costE; rw [if_pos hc, if_pos h1]
  · unfold chkBest; rw [if_pos hc, if_pos ⟨h1, h2.symm, h3⟩]
theorem best_min {b : Br} {m : Bool} (he : errF b m = 0) {l : List Int} (hl : costE b m l = 0) : (bestL b m).cost ≤ costN b m l := by
  obtain ⟨g, hc, r, hr, hcs⟩ := err_some he
  have hb : bestL b m = ⟨bL b m r.bs, r.D b.days.length, prL r.bs b.days.length⟩ := by unfold bestL; rw [if_pos he, hcs]; rfl
  rw [hb]
  unfold costE at hl
  rw [if_pos hc] at hl
  by_cases hw : isWayB b m l = true
  · unfold costN; rw [if_pos ⟨hc, hw⟩]; exact best_least g hr hw
  · rw [if_neg hw] at hl; omega
theorem check_same {b : Br} {m : Bool} (he : errF b m = 0) {x : Lt} (hx : chkBest b m x = 0) : x.cost = (bestL b m).cost := by
  obtain ⟨g, hc, r, hr, hcs⟩ := err_some he
  have hb : bestL b m = ⟨bL b m r.bs, r.D b.days.length, prL r.bs b.days.length⟩ := by unfold bestL; rw [if_pos he, hcs]; rfl
  rw [hb]
  unfold chkBest at hx
  rw [if_pos hc] at hx
  by_cases h : isWayB b m x.bought = true ∧ x.cost = costP b m x.bought ∧ proofB b m x.prices x.cost = true
  · obtain ⟨h1, h2, h3⟩ := h
    have q1 := best_least g hr h1
    have q2 := proof_low g h3 (way_of g (best_way g hr)).2.1
    have q3 := best_cost g hr
    unfold costP at q3
    show x.cost = r.D b.days.length
    omega
  · rw [if_neg h] at hx; omega
theorem check_none {b : Br} {m : Bool} (he : errF b m ≠ 0) (x : Lt) : chkBest b m x ≠ 0 := by
  unfold chkBest
  by_cases hc : chk b = 0
  · rw [if_pos hc]
    have hr : Gr.run (barn b m) b.days.length = none := by
      unfold errF at he
      rw [if_pos hc] at he
      by_cases hr : Gr.run (barn b m) b.days.length = none
      · exact hr
      · rw [if_neg hr] at he; exact absurd rfl he
    rw [if_neg]
    · omega
    · rintro ⟨h1, _⟩
      exact Gr.no_way (barn_ok (good_of hc) m) hr (Nat.le_refl _) _ (way_of (good_of hc) h1).2.1
  · rw [if_neg hc]; exact hc
end Go.Proofs.YtolgomkmilbkgaaGreat

set_option autoImplicit false
set_option maxRecDepth 100000
set_option linter.unusedSimpArgs false
set_option linter.unusedVariables false
namespace Go.Proofs.YtolgomkmilbkgaaGreat
open Go.Proofs.YtolgomkmilbkgaaGreat.Ev
noncomputable def c18 (hh : PurOk Tryz.prog 18 [] (.bool true)) : Con Tryz.prog := mkCon 18 false (fun _ : Unit => []) (fun _ => True) (fun _ => .bool true) (fun _ _ _ => rfl) (fun _ _ => hh)
theorem k18 {cs : List (Con Tryz.prog)} {hh : PurOk Tryz.prog 18 [] (.bool true)} (h : cs.find? (fun c => c.f == 18) = some (c18 hh)) (st : St) : pcall (orcL cs) 18 [] st = some (.bool true) :=
  pcall_mk h () trivial (fun u hu => by simp at hu) st
@[simp high] theorem boxL_st (x : Lt) (nm : Nat) (u v w : Value) (st : St) : stOk 3 0 (encLl x) nm (rowOf [u, v, w] 0 true) st = .ok junk (st.setObj nm (rowOf (encLl x) 0 true)) := by
  rw [stOk_row]; simp [encLl]
@[simp high] theorem st_L (x : Lt) (nm : Nat) (st : St) : storeN (.agg 3) (ptr nm 0) (encL x) st = stOk 3 0 (encLl x) nm (st.obj nm) st := rfl
theorem o3 (F : Value → St → Prop) (t : Regs) (s : St) : outK Tryz.prog Tryz.f3 F .ret ⟨107, t, []⟩ s = (bindP (.ok (gt t 8) s) F) := by kernel_rfl
theorem p3 (hh : PurOk Tryz.prog 18 [] (.bool true)) (b : Br) (m : Bool) (l : List Int) (x : Lt) : PurOk Tryz.prog 3 [encB b, .bool m, encI l, encL x] (.bool true) := by
  refine pur_wp (cs := [c16, c17, c18 hh, c19, c20, c21]) (isP := isP) (keep := false) mixed ?_
  have K16 := fun st => @k16 [c16, c17, c18 hh, c19, c20, c21] rfl b st
  have K17 := @k17 [c16, c17, c18 hh, c19, c20, c21] rfl
  have K18 := @k18 [c16, c17, c18 hh, c19, c20, c21] hh rfl
  have K19 := fun st => @k19 [c16, c17, c18 hh, c19, c20, c21] rfl b m st
  have K20 := @k20 [c16, c17, c18 hh, c19, c20, c21] rfl b m
  have K21 := @k21 [c16, c17, c18 hh, c19, c20, c21] rfl b m
  have K20x := fun st => K20 x st
  have K21l := fun st => K21 l st
  rw [e3]
  cases hf : fewB b with
  | false => simp -implicitDefEqProofs [push_obj, set_obj, K16, K18, hf]
  | true =>
  by_cases h1 : l.length ≤ 80
  case neg => simp -implicitDefEqProofs [push_obj, set_obj, K16, K17, K18, hf, h1]
  by_cases h2 : x.bought.length ≤ 80
  case neg => simp -implicitDefEqProofs [push_obj, set_obj, K16, K17, K18, hf, h1, h2]
  by_cases h3 : x.prices.length ≤ 80
  case neg => simp -implicitDefEqProofs [push_obj, set_obj, K16, K17, K18, hf, h1, h2, h3]
  by_cases he : errF b m = 0
  · obtain ⟨q1, q2, q3⟩ := best_checks he
    have K20b := fun st => K20 (bestL b m) st
    have K21b := fun st => K21 (bestL b m).bought st
    rw [q3] at K20b
    rw [q1, q2] at K21b
    by_cases h4 : costE b m l = 0
    · have h5 := best_min he h4
      by_cases h6 : chkBest b m x = 0
      · have h7 := check_same he h6
        simp -implicitDefEqProofs [push_obj, set_obj, K16, K17, K18, K19, K20x, K20b, K21l, K21b, hf, h1, h2, h3, he, h4, h5, h6, h7, e3_c0, o3]
      · simp -implicitDefEqProofs [push_obj, set_obj, K16, K17, K18, K19, K20x, K20b, K21l, K21b, hf, h1, h2, h3, he, h4, h5, h6, e3_c0, o3]
    · by_cases h6 : chkBest b m x = 0
      · have h7 := check_same he h6
        simp -implicitDefEqProofs [push_obj, set_obj, K16, K17, K18, K19, K20x, K20b, K21l, K21b, hf, h1, h2, h3, he, h4, h6, h7, e3_c0, o3]
      · simp -implicitDefEqProofs [push_obj, set_obj, K16, K17, K18, K19, K20x, K20b, K21l, K21b, hf, h1, h2, h3, he, h4, h6, e3_c0, o3]
  · have hn := check_none he x
    simp -implicitDefEqProofs [push_obj, set_obj, K16, K17, K18, K19, K20x, hf, h1, h2, h3, he, hn]
end Go.Proofs.YtolgomkmilbkgaaGreat

