import Derived.Test.YtolgomkmilbkgaaGreatC
set_option autoImplicit false
set_option maxRecDepth 100000
set_option linter.unusedSimpArgs false
set_option linter.unusedVariables false
namespace Go.Proofs.YtolgomkmilbkgaaGreat
open Go.Proofs.YtolgomkmilbkgaaGreat.Ev

/-! # courses 116 -/
theorem barn_bnd {b : Br} (g : Good b) (m : Bool) : Gr.Bnd (barn b m) 61100000 b.days.length where
  g0 i t h := by
    show 0 ≤ needP b m t * (priceP b i + b.night * ((t : Int) - i))
    have h1 := g.need m t
    have h2 := g.price i
    have h3 : 0 ≤ b.night * ((t : Int) - i) := Int.mul_nonneg g.n0 (by omega)
    exact Int.mul_nonneg h1.1 (by omega)
  le i t h ht := by
    have h1 := g.fare i
    have h2 := g.grain m h ht
    show fareP b i + grainP b m i t ≤ 61100000
    omega
  small := by
    have := g.len
    unfold Gr.never
    omega
  M0 := by omega
theorem run_none_mono {B : Gr.Barn} {t : Nat} (h : Gr.run B t = none) : ∀ k, Gr.run B (t + k) = none
  | 0 => h
  | k + 1 => by
    show Gr.run B (t + k + 1) = none
    unfold Gr.run
    rw [run_none_mono h k]
theorem snap_tup2 {keep : Bool} {st : St} {a b a' b' : Value} (ha : snapV keep st 7 a = some a') (hb : snapV keep st 7 b = some b') : snapV keep st snapD (.tuple ⟨[a, b]⟩) = some (.tuple ⟨[a', b']⟩) := by
  show osel (mapO (snapV keep st 7) [a, b]) none (fun cs => some (Value.tuple ⟨cs⟩)) = _
  simp only [mapO, ha, hb]; rfl
theorem leaveK_all {F : St → Prop} : ∀ {ds : List Nat} {s : St}, (∀ x, x ∈ ds → s.obj x = .deferred) → ds.Nodup → (∀ s', s'.next = s.next → (∀ y, ¬ y ∈ ds → s'.obj y = s.obj y) → F s') → leaveK ds s F
  | [], s, _, _, hF => hF s rfl fun _ _ => rfl
  | d :: ds, s, h, hn, hF => by
    rw [List.nodup_cons] at hn
    rw [leaveK_cons (h d (by simp))]
    refine leaveK_all (fun x hx => ?_) hn.2 fun s' e1 e2 => hF s' (by rw [e1, set_next]) fun y hy => ?_
    · rw [set_obj, if_neg fun e => hn.1 (by rw [← e]; exact hx)]; exact h x (by simp [hx])
    · have h1 : ¬ y = d := fun e => hy (by simp [e])
      have h2 : ¬ y ∈ ds := fun e => hy (by simp [e])
      rw [e2 y h2, set_obj, if_neg h1]
/-- The ranges that are behind. -/
def DS (ds : List Nat) (s : St) : Prop := (∀ x, x ∈ ds → s.obj x = .deferred ∧ 6 ≤ x ∧ x < s.next) ∧ ds.Nodup
theorem DS.same {ds : List Nat} {s s' : St} (h : DS ds s) (hn : s.next ≤ s'.next) (ho : ∀ x, x ∈ ds → 6 ≤ x → x < s.next → s.obj x = .deferred → s'.obj x = s.obj x) : DS ds s' :=
  ⟨fun x hx => by obtain ⟨h1, h2, h3⟩ := h.1 x hx; exact ⟨(ho x hx h2 h3 h1).trans h1, h2, by omega⟩, h.2⟩
theorem own_notDef {s : St} {bn n k x : Nat} {xs : List Value} (h : Owns s bn n k xs) (h0 : 0 < n) (hx : s.obj x = .deferred) : ¬ x = bn := fun e => by
  obtain ⟨_, ex, h2⟩ := h.row h0
  rw [e, h2, rowOf_eq] at hx; cases hx
def mid (b : Br) (m : Bool) (t : Nat) (d : Int) (E : Nat → Gr.Cs) (zs : List Nat) : Nat → Gr.Cs := fun k => if canI b k t = true ∧ ¬ k ∈ zs then Gr.upd (barn b m) t d E k else E k
theorem mid_step {b : Br} {m : Bool} {t : Nat} {d : Int} {E : Nat → Gr.Cs} {z : Nat} {zs : List Nat} (hz : canI b z t = true) (hn : ¬ z ∈ zs) : up (mid b m t d E (z :: zs)) z (Gr.upd (barn b m) t d E z) = mid b m t d E zs := by
  funext k
  unfold up
  by_cases hk : k = z
  · subst hk; rw [if_pos rfl]; unfold mid; rw [if_pos ⟨hz, hn⟩]
  · rw [if_neg hk]
    show (if canI b k t = true ∧ ¬ k ∈ z :: zs then _ else _) = if canI b k t = true ∧ ¬ k ∈ zs then _ else _
    have : (canI b k t = true ∧ ¬ k ∈ z :: zs) ↔ (canI b k t = true ∧ ¬ k ∈ zs) := by simp [hk]
    by_cases h : canI b k t = true ∧ ¬ k ∈ zs
    · rw [if_pos h, if_pos (this.2 h)]
    · rw [if_neg h, if_neg fun e => h (this.1 e)]
theorem mid_at {b : Br} {m : Bool} {t : Nat} {d : Int} {E : Nat → Gr.Cs} {z : Nat} {zs : List Nat} : mid b m t d E (z :: zs) z = E z := by unfold mid; rw [if_neg fun e => e.2 (by simp)]
theorem mid_all {b : Br} {m : Bool} {t : Nat} {d : Int} {E : Nat → Gr.Cs} : mid b m t d E (srcN b t) = E := by
  funext k
  unfold mid
  rw [if_neg]
  rintro ⟨h1, h2⟩
  refine h2 ?_
  unfold srcN
  rw [List.mem_filter, List.mem_range]
  have := canI_le h1
  exact ⟨by omega, h1⟩
theorem mid_nil {b : Br} {m : Bool} {t : Nat} (ht : t < b.days.length) {d : Int} {E : Nat → Gr.Cs} : mid b m t d E [] = Gr.step (barn b m) t d E := by
  funext k
  show (if canI b k t = true ∧ ¬ k ∈ [] then _ else _) = if (canI b k t && decide (t < b.days.length)) = true then _ else _
  rw [decide_eq_true ht, Bool.and_true]
  by_cases h : canI b k t = true
  · rw [if_pos ⟨h, by simp⟩, if_pos h]
  · rw [if_neg fun e => h e.1, if_neg h]
theorem up_up (E : Nat → Gr.Cs) (i : Nat) (c c' : Gr.Cs) : up (up E i c) i c' = up E i c' := by
  funext k; unfold up; split <;> rfl
theorem up_at (E : Nat → Gr.Cs) (i : Nat) (c : Gr.Cs) : up E i c i = c := by unfold up; rw [if_pos rfl]
/-- Within a day's range. -/
def JI (b : Br) (m : Bool) (t : Nat) (d : Int) (r : Gr.Run) (bn dn : Nat) (ds : List Nat) (ys : List (List Value)) (s : St) : Prop :=
  ∃ zs : List Nat, ys = zs.map (fun (i : Nat) => [I64 (i : Int)]) ∧ zs.Nodup ∧ (∀ z, z ∈ zs → z ∈ srcN b t) ∧ s.obj 0 = rowOf (encPl b m) 0 true ∧ s.obj 2 = rowOf [ov bn (t + 1)] 0 true ∧
    s.obj 5 = rowOf [.slice (some ⟨4, 0, none⟩) b.days.length b.days.length] 0 true ∧ s.obj 4 = rowOf (cE (mid b m t d r.E zs) b.days.length) 3 true ∧ Owns s bn (t + 1) 3 (r.bs.flatMap encC) ∧ s.obj dn = rowOf [I64 (t : Int)] 0 true ∧
    s.obj (dn + 1) = .deferred ∧ dn + 3 ≤ s.next ∧ DS ds s ∧ ∀ x, x ∈ ds → x < dn
/-- What the memory of courses holds. -/
def KI (b : Br) (m : Bool) (t : Nat) (r : Gr.Run) (ds : List Nat) (s : St) : Prop :=
  DS ds s ∧ s.obj 0 = rowOf (encPl b m) 0 true ∧ s.obj 5 = rowOf [.slice (some ⟨4, 0, none⟩) b.days.length b.days.length] 0 true ∧ s.obj 4 = rowOf (cE r.E b.days.length) 3 true ∧ 6 ≤ s.next ∧ (∀ i, 0 ≤ (r.E i).cost ∧ (r.E i).cost ≤ 1099511627776 + 61100000 * (t : Int)) ∧
    ∃ bn, s.obj 2 = rowOf [ov bn (t + 1)] 0 true ∧ Owns s bn (t + 1) 3 (r.bs.flatMap encC) ∧ (bn = 1 ∨ 6 ≤ bn) ∧ bn < s.next
noncomputable def resC (b : Br) (m : Bool) : Value := match Gr.run (barn b m) b.days.length with | some r => .tuple ⟨[encCs r.bs, .bool true]⟩ | none => .tuple ⟨[encCs [], .bool false]⟩
theorem p116 (b : Br) (m : Bool) (g : Good b) : PurOk Tryz.prog 116 [encP b m] (resC b m) := by
  refine pur_wp (cs := [c80, c119, c144, c118, c128, c146]) (isP := isP) (keep := false) mixed ?_
  have K80 := @k80 [c80, c119, c144, c118, c128, c146] rfl b m
  have K144 := @k144 [c80, c119, c144, c118, c128, c146] rfl b m
  have K119 := @k119 [c80, c119, c144, c118, c128, c146] rfl b m
  have hlen := g.len
  have hpos := g.pos
  have hz1 : buildA (.str [(.int .i64 (0)), (.int .i64 (0)), (.int .i64 (0))] [(0, 1), (1, 1), (2, 1)]) [] = some (.agg ⟨[I64 0, I64 0, I64 0]⟩) := rfl
  have hz2 : buildA (.str [(.int .i64 (0)), (.int .i64 (0)), (.int .i64 (0))] [(0, 1), (1, 1), (2, 1)]) [(0, (.int .i64 (1099511627776)))] = some (.agg ⟨[I64 1099511627776, I64 0, I64 0]⟩) := rfl
  have hb1 : ∀ (x y z : Int) (st : St), buildSliceA (.mk 3 [(.int .i64 (0)), (.int .i64 (0)), (.int .i64 (0))] true) 1 [(0, .agg ⟨[I64 x, I64 y, I64 z]⟩)] st = .ok (.slice (some ⟨st.next, 0, none⟩) 1 1) (st.push (rowOf [I64 x, I64 y, I64 z] 3 true)) := fun x y z st => buildSlice_row rfl (by omega)
  rw [e116]
  simp -implicitDefEqProofs [push_obj, set_obj, hz1, hz2, hb1]
  refine r143 (xs := [I64 1099511627776, I64 0, I64 0]) rfl rfl hpos hlen rfl rfl (fun _ => rfl) ?_ ?_
  · intro st' e1 e2
    simp at e1 e2
    rw [listA_row (xs := [I64 1099511627776, I64 0, I64 0]) (es := 3) (ex := true) (by rw [e2 3 (by omega)]; simp [push_obj, set_obj]) (by omega) (by simp)]
    rfl
  intro st' e1 e2 e3
  simp at e1 e2 e3
  have o0 : st'.obj 0 = rowOf (encPl b m) 0 true := by rw [e3 0 (by omega)]; simp [push_obj, set_obj]
  have o1 : st'.obj 1 = rowOf [I64 0, I64 0, I64 0] 3 true := by rw [e3 1 (by omega)]; simp [push_obj, set_obj]
  have o2 : st'.obj 2 = rowOf [.slice (some ⟨1, 0, none⟩) 1 1] 0 true := by rw [e3 2 (by omega)]; simp [push_obj, set_obj]
  rw [← cE_never] at e2
  simp -implicitDefEqProofs [o0, e1, push_obj, set_obj]
  refine loop_rule (isP := isP) (fun q a s => ∃ (t : Nat) (r : Gr.Run) (u : Regs) (ds : List Nat), a = ⟨103, u, ds⟩ ∧ gt u 1 = ptr 0 0 ∧ gt u 2 = .slice none 0 0 ∧ gt u 3 = .bool false ∧ gt u 4 = ptr 2 0 ∧ gt u 5 = ptr 5 0 ∧ gt u 23 = I64 b.days.length ∧ gt u 24 = I64 t ∧
    t ≤ b.days.length ∧ q = b.days.length - t ∧ Gr.run (barn b m) t = some r ∧ KI b m t r ds s) ?_ b.days.length _ _
    ⟨0, _, _, [], rfl, by simp, by simp, by simp, by simp, by simp, by simp, by simp, by omega, by omega, rfl, ⟨fun x hx => by simp at hx, List.nodup_nil⟩, by simp [push_obj, set_obj, o0, e1], by simp [push_obj, set_obj, e1], by simp [push_obj, set_obj, e1, e2], by simp [e1], fun i => by show 0 ≤ Gr.never ∧ Gr.never ≤ _; unfold Gr.never; omega, 1, by simp [push_obj, set_obj, e1, o2, ov_pos],
      ⟨rfl, fun _ => ⟨by simp [e1], true, by simp [push_obj, set_obj, e1, o1]; rfl⟩⟩, .inl rfl, by simp [e1]⟩
  rintro q a s ⟨t, r, u, ds, rfl, g1, g2, g3, g4, g5, g23, g24, ht, rfl, hrun, hds, o0, o5, o4, hn6, hbE, bn, o2, hown, hbn, hbl⟩
  have R := Gr.run_ok (barn_ok g m) (barn_bnd g m) t r ht hrun
  have hDb := R.bnd t (by omega)
  obtain ⟨d, hd⟩ : ∃ d, d = (r.bs.getD t default).cost := ⟨_, rfl⟩
  have hdD : r.D t = d := hd.symm
  rw [hdD] at hDb
  have hrl : t < r.bs.length := by rw [R.len]; omega
  have hld : ∀ st', ldO .one (t * 3) (s.obj bn) st' = .ok (I64 d) st' := fun st' => by
    rw [hown.ld (by omega), ldO_one]
    have := flat_get (f := encC) encC_len hrl (j := 0) (by omega)
    rw [Nat.add_zero] at this
    rw [this, hd, getD_at hrl]; rfl
  have hbne : ∀ k, ¬ bn = s.next + k := fun k => by omega
  have hbne0 : ¬ bn = s.next := by omega
  have hsz : ∀ i, i < 6 → ∀ k, ¬ i = s.next + k := fun i hi k => by omega
  rw [e116_b0]
  by_cases hlt : t < b.days.length
  · have hlt' : (t : Int) < b.days.length := by omega
    have hwt : IntKind.i64.wrap ((t : Int) + 1) = (t : Int) + 1 := wrap64 (by omega)
    have hK80 := K80 t hlt
    have n0 : ¬ 0 = s.next := by omega
    have n2 : ¬ 2 = s.next := by omega
    have n4 : ¬ 4 = s.next := by omega
    have n5 : ¬ 5 = s.next := by omega
    have q2 : 2 < s.next + 1 := by omega
    have q2' : 2 < s.next + 1 + 1 := by omega
    have bnn : bn < s.next + 1 := by omega
    have bnn2 : bn < s.next + 1 + 1 := by omega
    have hbel : ∀ (N : Nat) (x y z : Int), belowV 6 N (.agg ⟨[I64 x, I64 y, I64 z]⟩) = true := fun _ _ _ _ => rfl
    by_cases hneed : needP b m t = 0
    · have hbd : buildA (.str [(.int .i64 (0)), (.int .i64 (0)), (.int .i64 (0))] [(0, 1), (1, 1), (2, 1)]) [(0, I64 d), (2, I64 (t : Int))] = some (.agg ⟨[I64 d, I64 0, I64 (t : Int)]⟩) := rfl
      simp -implicitDefEqProofs [g1, g2, g3, g4, g5, g23, g24, hlt, hlt', hwt, o0, o2, o4, o5, push_obj, set_obj, n0, n2, n4, n5, hbne, hbne0, hK80, hneed, hld, hbd, hb1, q2, q2', bnn, bnn2, hbel]
      refine bindP_app (new := encC ⟨d, 0, t⟩) (hown.same (by simp; omega) fun _ => by simp [push_obj, set_obj, hbne, hbne0]) rfl (by omega) (by omega) ?_ rfl ?_
      · rw [listA_row (xs := encC ⟨d, 0, t⟩) (es := 3) (ex := true) (by simp [push_obj]; rfl) (by omega) (by simp [encC])]; rfl
      intro s3 f1 f2 f3
      simp at f1 f3
      have p0 : s3.obj 0 = rowOf (encPl b m) 0 true := by rw [f3 0 (by omega) (by omega)]; simp [push_obj, set_obj, n0, o0]
      have p2 : s3.obj 2 = rowOf [ov bn (t + 1)] 0 true := by rw [f3 2 (by omega) (by omega)]; simp [push_obj, set_obj, n2, o2]; intro h; omega
      have p4 : s3.obj 4 = rowOf (cE r.E b.days.length) 3 true := by rw [f3 4 (by omega) (by omega)]; simp [push_obj, set_obj, n4, o4]; intro h; omega
      have p5 : s3.obj 5 = rowOf [.slice (some ⟨4, 0, none⟩) b.days.length b.days.length] 0 true := by rw [f3 5 (by omega) (by omega)]; simp [push_obj, set_obj, n5, o5]; intro h; omega
      simp -implicitDefEqProofs [f1, p2, bnn2, q2', set_obj]
      simp at f2
      have hrun' : Gr.run (barn b m) (t + 1) = some ⟨r.bs ++ [⟨d, 0, t⟩], r.E⟩ := by
        conv => lhs; unfold Gr.run
        rw [hrun]
        show (if (barn b m).need t = 0 then _ else _) = _
        rw [if_pos (show (barn b m).need t = 0 from hneed), hd]
      refine ⟨_, ?_, t + 1, ⟨r.bs ++ [⟨d, 0, t⟩], r.E⟩, _, ds, ⟨rfl, rfl⟩, by simp [g1], by simp [g2], by simp [g3], by simp [g4], by simp [g5], by simp [g23], by simp, by omega, rfl, hrun', ?_, by simp [set_obj, p0], by simp [set_obj, p5], by simp [set_obj, p4], by simp [f1]; omega, fun i => ?_, s.next + 1 + 1, by simp [set_obj], ?_, .inr (by omega), by simp [f1]⟩
      · omega
      · refine hds.same (by simp [f1]; omega) fun x _ h1 h2 h3 => ?_
        rw [set_obj, if_neg (by omega), f3 x (by omega) (own_notDef hown (by omega) h3)]
        simp [push_obj, set_obj, show ¬ x = s.next by omega, show ¬ x = s.next + 1 by omega]
      · have := hbE i; push_cast; omega
      · rw [List.flatMap_append]
        exact Owns.same (st := s3) (by simpa using f2) (by simp) fun _ => by rw [set_obj, if_neg (by omega)]
    · simp -implicitDefEqProofs [g1, g2, g3, g4, g5, g23, g24, hlt, hlt', hwt, o0, o2, o4, o5, push_obj, set_obj, n0, n2, n4, n5, hbne, hbne0, hK80, hneed, K144]
      refine range_none (isP := isP) (k := 163) (first := []) (cap := [pN t, pP b m]) rfl (by show gt _ 43 = _; simp; rfl) (by kernel_rfl) (yields163 rfl rfl b m t hlt (by omega)) (JI b m t d r bn s.next ds) ?_ ?_ ?_ ?_
      · rintro ys s1 s2 e1 e2 ⟨zs, h1, h2, h3, h4, h5, h6, h7, h8, h9, h10, h11, h12, h13⟩
        have e2 : ∀ b, b ≠ s.next + 2 → s2.obj b = s1.obj b := by simpa using e2
        exact ⟨zs, h1, h2, h3, by rw [e2 0 (by omega), h4], by rw [e2 2 (by omega), h5], by rw [e2 5 (by omega), h6], by rw [e2 4 (by omega), h7], h8.same (by omega) fun _ => e2 bn (by omega), by rw [e2 _ (by omega), h9], by rw [e2 _ (by omega), h10], by omega,
          h12.same (by omega) fun x hx _ _ _ => e2 x (by have := h13 x hx; omega), h13⟩
      · intro s1 e1 e2 e3
        simp at e1 e2
        have e3 : ∀ b, b < s.next + 1 → s1.obj b = if b = s.next then rowOf [I64 (t : Int)] 0 true else s.obj b := fun x hx => by
          rw [e3 x (by simpa using hx)]
          by_cases h : x = s.next
          · simp [push_obj, set_obj, h]
          · simp [push_obj, set_obj, h]
        have o0' : s1.obj 0 = rowOf (encPl b m) 0 true := by rw [e3 0 (by omega), if_neg n0, o0]
        have o2' : s1.obj 2 = rowOf [ov bn (t + 1)] 0 true := by rw [e3 2 (by omega), if_neg n2, o2]
        have o4' : s1.obj 4 = rowOf (cE r.E b.days.length) 3 true := by rw [e3 4 (by omega), if_neg n4, o4]
        have o5' : s1.obj 5 = rowOf [.slice (some ⟨4, 0, none⟩) b.days.length b.days.length] 0 true := by rw [e3 5 (by omega), if_neg n5, o5]
        refine ⟨srcN b t, srcL_eq b t, ?_, fun z h => h, o0', o2', o5', by rw [mid_all]; exact o4', hown.same (by omega) fun _ => by rw [e3 bn (by omega), if_neg hbne0], by rw [e3 _ (by omega), if_pos rfl], e2, by omega,
          hds.same (by omega) fun x _ q1 q2 q3 => by rw [e3 x (by omega), if_neg (by omega)], fun x hx => (hds.1 x hx).2.2⟩
        unfold srcN
        exact List.nodup_range.filter _
      · rintro x rest s1 ⟨zs, h1, h2, h3, h4, h5, h6, h7, h8, h9, h10, h11, h12, h13⟩ hlp
        obtain ⟨z, zs, rfl, rfl, rfl⟩ : ∃ z zs', zs = z :: zs' ∧ x = [I64 z] ∧ rest = zs'.map (fun (i : Nat) => [I64 (i : Int)]) := by
          cases zs with
          | nil => simp at h1
          | cons z zs => simp at h1; exact ⟨z, zs, rfl, h1.1, h1.2⟩
        refine ⟨_, rfl, ?_⟩
        rw [e116_b1]
        refine ⟨rfl, rfl, fun s2 e1 e2 hl1 => ?_⟩
        have e2 : ∀ b, b ≠ s.next + 2 → s2.obj b = s1.obj b := by simpa using e2
        have o0 := (e2 0 (by omega)).trans h4
        have o2 := (e2 2 (by omega)).trans h5
        have o5 := (e2 5 (by omega)).trans h6
        have o4 := (e2 4 (by omega)).trans h7
        have od := (e2 s.next (by omega)).trans h9
        have od1 := (e2 (s.next + 1) (by omega)).trans h10
        have hown2 : Owns s2 bn (t + 1) 3 (r.bs.flatMap encC) := h8.same (by omega) fun _ => e2 bn (by omega)
        have hds2 : DS ds s2 := h12.same (by omega) fun x hx _ _ _ => e2 x (by have := h13 x hx; omega)
        rw [List.nodup_cons] at h2
        have hz := srcN_mem (h3 z (by simp))
        have hzN : z < b.days.length := by omega
        have hM := mid_at (b := b) (m := m) (t := t) (d := d) (E := r.E) (z := z) (zs := zs)
        have hstep := mid_step (m := m) (d := d) (E := r.E) hz.1 h2.1
        obtain ⟨M, hMd⟩ : ∃ M, M = mid b m t d r.E (z :: zs) := ⟨_, rfl⟩
        rw [← hMd] at hM hstep o4
        have hld2 : ∀ st', ldO .one (t * 3) (s2.obj bn) st' = .ok (I64 d) st' := fun st' => by
          rw [hown2.ld (by omega), ldO_one]
          have := flat_get (f := encC) encC_len hrl (j := 0) (by omega)
          rw [Nat.add_zero] at this
          rw [this, hd, getD_at hrl]; rfl
        have hfr := g.fare z
        have hfe := fareP_at hzN
        have hgr := g.grain m hz.2 hlt
        have hEb := hbE z
        have K119z := K119 z t g hz.2 hlt
        have w1 : IntKind.i64.wrap (d + fareP b z) = d + fareP b z := wrap64 (by omega)
        have w2 : IntKind.i64.wrap (d + fareP b z + grainP b m z t) = d + fareP b z + grainP b m z t := wrap64 (by omega)
        have w3 : IntKind.i64.wrap ((r.E z).cost + grainP b m z t) = (r.E z).cost + grainP b m z t := wrap64 (by omega)
        have ldz : ∀ st', ldO .one (z * 3) (rowOf (cE M b.days.length) 3 true) st' = .ok (I64 (r.E z).cost) st' := fun st' => by rw [ld_cE hzN, hM]
        have hset : ∀ x, (cE M b.days.length).set (z * 3) (I64 x) = cE (up M z ⟨x, (r.E z).day, (r.E z).first⟩) b.days.length := fun x => by rw [cE_one hzN, hM]
        have nx0 : 0 < s2.next := by omega
        have nx2 : 2 < s2.next := by omega
        have nx4 : 4 < s2.next := by omega
        have nx5 : 5 < s2.next := by omega
        have nxd : s.next < s2.next := by omega
        have nxb : bn < s2.next := by omega
        have fin2 : ∀ c, Gr.upd (barn b m) t d r.E z = c → ∀ s4 : St, s4.next = s2.next → s4.obj 4 = rowOf (cE (up M z c) b.days.length) 3 true → (∀ x, ¬ x = 4 → s4.obj x = s2.obj x) → JI b m t d r bn s.next ds (zs.map fun (i : Nat) => [I64 (i : Int)]) s4 := fun c hc s4 k1 k2 k3 => by
          rw [hc] at hstep
          rw [hstep] at k2
          exact ⟨zs, rfl, h2.2, fun z' h => h3 z' (by simp [h]), by rw [k3 0 (by omega), o0], by rw [k3 2 (by omega), o2], by rw [k3 5 (by omega), o5], k2, hown2.same (by omega) fun _ => k3 bn (by omega), by rw [k3 _ (by omega), od], by rw [k3 _ (by omega), od1], by omega,
            hds2.same (by omega) fun x _ q1 _ _ => k3 x (by omega), h13⟩
        have hfm : (barn b m).fare z = fareP b z := rfl
        have hgm : (barn b m).g z t = grainP b m z t := rfl
        rw [e116_b2]
        by_cases hlt2 : d + fareP b z < (r.E z).cost
        · have hupd : Gr.upd (barn b m) t d r.E z = ⟨d + fareP b z + grainP b m z t, z, t⟩ := by unfold Gr.upd; rw [hfm, hgm, if_pos hlt2, if_pos hlt2, if_pos hlt2]
          have hbd2 : buildA (.str [(.int .i64 (0)), (.int .i64 (0)), (.int .i64 (0))] [(0, 1), (1, 1), (2, 1)]) [(0, I64 (d + fareP b z)), (1, I64 (z : Int)), (2, I64 (t : Int))] = some (.agg ⟨encC ⟨d + fareP b z, z, t⟩⟩) := rfl
          have hst2 : ∀ st', stOk 3 (z * 3) (encC ⟨d + fareP b z, z, t⟩) 4 (rowOf (cE M b.days.length) 3 true) st' = .ok junk (st'.setObj 4 (rowOf (cE (up M z ⟨d + fareP b z, z, t⟩) b.days.length) 3 true)) := fun st' => by
            rw [stOk_row, if_pos ⟨rfl, by rw [cE_len]; omega⟩, cE_agg hzN]
          have ldz2 : ∀ st', ldO .one (z * 3) (rowOf (cE (up M z ⟨d + fareP b z, z, t⟩) b.days.length) 3 true) st' = .ok (I64 (d + fareP b z)) st' := fun st' => by rw [ld_cE hzN, up_at]
          have hset2 : ∀ x, (cE (up M z ⟨d + fareP b z, z, t⟩) b.days.length).set (z * 3) (I64 x) = cE (up M z ⟨x, z, t⟩) b.days.length := fun x => by rw [cE_one hzN, up_at, up_up]
          simp -implicitDefEqProofs [-stOk_row, g1, g4, g5, o0, o2, o5, o4, od, hld2, hlt, hzN, hfe.symm, w1, w2, hlt2, ldz, K119z, set_obj, hbd2, hst2, ldz2, hset2, nx0, nx2, nx4, nx5, nxd, nxb, show ¬ s.next = 4 by omega, show ¬ s.next = 2 by omega]
          exact fin2 _ hupd _ (by simp) (by simp [set_obj]) fun x hx => by simp [set_obj, hx]
        · simp -implicitDefEqProofs [-stOk_row, g1, g4, g5, o0, o2, o5, o4, od, hld2, hlt, hzN, hfe.symm, w1, w3, hlt2, ldz, K119z, set_obj, hset, nx0, nx2, nx4, nx5, nxd, nxb]
          have hupd : Gr.upd (barn b m) t d r.E z = ⟨(r.E z).cost + grainP b m z t, (r.E z).day, (r.E z).first⟩ := by unfold Gr.upd; rw [hfm, hgm, if_neg hlt2, if_neg hlt2, if_neg hlt2]
          refine ⟨fun h => by omega, fin2 _ hupd _ (by simp) (by simp [set_obj]) fun x hx => by simp [set_obj, hx]⟩
      · rintro s1 ⟨zs, h1, h2, h3, o0, o2, o5, o4, hown1, od, od1, hn1, hds1, hdd⟩
        obtain rfl : zs = [] := by simpa using h1.symm
        rw [mid_nil hlt] at o4
        have K128 := k128 (cs := [c80, c119, c144, c118, c128, c146]) rfl b m t (Gr.step (barn b m) t d r.E) hlt g (nm := 5) (nm' := 4) (st := s1) (by omega) o5 o4
        have hds3 : DS ((s.next + 1) :: ds) s1 := by
          refine ⟨fun x hx => ?_, List.nodup_cons.2 ⟨fun h => by have := hdd _ h; omega, hds1.2⟩⟩
          rcases List.mem_cons.1 hx with rfl | hx
          · exact ⟨od1, by omega, by omega⟩
          · exact hds1.1 x hx
        have hnlt : ∀ i, i ∈ srcN b t → i < b.days.length := fun i hi => by have := (srcN_mem hi).2; omega
        have hlv := leastV_lE (E := Gr.step (barn b m) t d r.E) hnlt
        have hsr := srcs_eq (m := m) hlt
        cases hp : Gr.pickL (Gr.step (barn b m) t d r.E) (srcN b t) with
        | none =>
          rw [hp] at hlv
          have hlsv : lsV (lE (Gr.step (barn b m) t d r.E) b.days.length) (srcN b t) = .tuple ⟨[I64 0, .bool false]⟩ := by unfold lsV; rw [hlv]; rfl
          rw [hlsv] at K128
          have hrun' : Gr.run (barn b m) (t + 1) = none := by
            conv => lhs; unfold Gr.run
            rw [hrun]
            show (if (barn b m).need t = 0 then _ else _) = _
            rw [if_neg (show ¬ (barn b m).need t = 0 from hneed), ← hd, hsr, hp]
          have : resC b m = .tuple ⟨[encCs [], .bool false]⟩ := by
            have := run_none_mono hrun' (b.days.length - (t + 1))
            unfold resC
            rw [show b.days.length = t + 1 + (b.days.length - (t + 1)) by omega, this]
          simp -implicitDefEqProofs [e116_r2, g1, g2, g3, g4, g5, o0, od, K144, K128, od116]
          refine leaveK_all (fun x hx => (hds3.1 x hx).1) hds3.2 fun s' f1 f2 => ?_
          rw [this]
          have hs1 : snapV false s' 7 (.slice none 0 0) = some (encCs []) := rfl
          have hs2 : snapV false s' 7 (.bool false) = some (.bool false) := rfl
          exact snap_tup2 hs1 hs2
        | some i =>
          rw [hp] at hlv
          have hlsv : lsV (lE (Gr.step (barn b m) t d r.E) b.days.length) (srcN b t) = .tuple ⟨[I64 (i : Int), .bool true]⟩ := by unfold lsV; rw [hlv]
          rw [hlsv] at K128
          have hrun' : Gr.run (barn b m) (t + 1) = some ⟨r.bs ++ [Gr.step (barn b m) t d r.E i], Gr.step (barn b m) t d r.E⟩ := by
            conv => lhs; unfold Gr.run
            rw [hrun]
            show (if (barn b m).need t = 0 then _ else _) = _
            rw [if_neg (show ¬ (barn b m).need t = 0 from hneed), ← hd, hsr, hp]
          have hiN := hnlt i (Gr.pick_mem hp).1
          obtain ⟨c, hc⟩ : ∃ c, c = Gr.step (barn b m) t d r.E i := ⟨_, rfl⟩
          have ldi : ∀ st', ldO (.agg 3) (i * 3) (rowOf (cE (Gr.step (barn b m) t d r.E) b.days.length) 3 true) st' = .ok (.agg ⟨encC c⟩) st' := fun st' => by rw [ld_cEa hiN, hc]
          have hbelc : ∀ N : Nat, belowV 6 N (.agg ⟨encC c⟩) = true := fun _ => rfl
          have hb2 : ∀ st', buildSliceA (.mk 3 [(.int .i64 (0)), (.int .i64 (0)), (.int .i64 (0))] true) 1 [(0, .agg ⟨encC c⟩)] st' = .ok (.slice (some ⟨st'.next, 0, none⟩) 1 1) (st'.push (rowOf (encC c) 3 true)) := fun st' => buildSlice_row rfl (by omega)
          simp -implicitDefEqProofs [e116_r2, e116_r1, g1, g2, g3, g4, g5, g24, o0, o2, o4, o5, od, K144, K128, hiN, ldi, hb2, hwt, show 2 < s1.next by omega, show 4 < s1.next by omega, show 5 < s1.next by omega, hbelc, show bn < s1.next + 1 by omega]
          refine bindP_app (new := encC c) (hown1.same (by simp) fun _ => by simp [push_obj, show ¬ bn = s1.next by omega]) rfl (by omega) (by omega) ?_ rfl ?_
          · rw [listA_row (xs := encC c) (es := 3) (ex := true) (by simp [push_obj]) (by omega) (by simp [encC])]; rfl
          intro s3 f1 f2 f3
          simp at f1 f3
          have p0 : s3.obj 0 = rowOf (encPl b m) 0 true := by rw [f3 0 (by omega) (by omega)]; simp [push_obj, show ¬ 0 = s1.next by omega, o0]
          have p2 : s3.obj 2 = rowOf [ov bn (t + 1)] 0 true := by rw [f3 2 (by omega) (by omega)]; simp [push_obj, show ¬ 2 = s1.next by omega, o2]
          have p4 : s3.obj 4 = rowOf (cE (Gr.step (barn b m) t d r.E) b.days.length) 3 true := by rw [f3 4 (by omega) (by omega)]; simp [push_obj, show ¬ 4 = s1.next by omega, o4]
          have p5 : s3.obj 5 = rowOf [.slice (some ⟨4, 0, none⟩) b.days.length b.days.length] 0 true := by rw [f3 5 (by omega) (by omega)]; simp [push_obj, show ¬ 5 = s1.next by omega, o5]
          simp -implicitDefEqProofs [f1, p2, show bn < s1.next + 1 by omega, show 2 < s1.next + 1 + 1 by omega, show 2 < s1.next + 1 by omega, set_obj]
          simp at f2
          refine ⟨_, ?_, t + 1, _, _, _, ⟨rfl, rfl⟩, by simp [g1], by simp [g2], by simp [g3], by simp [g4], by simp [g5], by simp [g23], by simp, by omega, rfl, hrun', ?_, by simp [set_obj, p0], by simp [set_obj, p5], by simp [set_obj, p4], by simp [f1]; omega, fun k => ?_, s1.next + 1, by simp [set_obj], ?_, .inr (by omega), by simp [f1]⟩
          · omega
          · refine hds3.same (by simp [f1]; omega) fun x _ q1 q2 q3 => ?_
            rw [set_obj, if_neg (by omega), f3 x (by omega) (own_notDef hown1 (by omega) q3)]
            simp [push_obj, show ¬ x = s1.next by omega]
          · have hEk := hbE k
            show 0 ≤ (if (canI b k t && decide (t < b.days.length)) = true then Gr.upd (barn b m) t d r.E k else r.E k).cost ∧ (if (canI b k t && decide (t < b.days.length)) = true then Gr.upd (barn b m) t d r.E k else r.E k).cost ≤ 1099511627776 + 61100000 * ((t + 1 : Nat) : Int)
            by_cases hck : canI b k t = true
            · have hkt := (canI_le hck).2
              have hgk := g.grain m (show k ≤ t by omega) hlt
              have hfk := g.fare k
              have hfm : (barn b m).fare k = fareP b k := rfl
              have hgm : (barn b m).g k t = grainP b m k t := rfl
              rw [hck, decide_eq_true hlt, Bool.and_true, if_pos rfl]
              show 0 ≤ (if d + (barn b m).fare k < (r.E k).cost then d + (barn b m).fare k else (r.E k).cost) + (barn b m).g k t ∧ (if d + (barn b m).fare k < (r.E k).cost then d + (barn b m).fare k else (r.E k).cost) + (barn b m).g k t ≤ _
              rw [hfm, hgm]
              split <;> omega
            · rw [Bool.eq_false_iff.2 hck, Bool.false_and, if_neg (by simp)]; omega
          · rw [List.flatMap_append, ← hc]
            exact Owns.same (st := s3) (by simpa using f2) (by simp) fun _ => by rw [set_obj, if_neg (by omega)]
  · have hlt' : ¬ (t : Int) < b.days.length := by omega
    obtain rfl : t = b.days.length := by omega
    simp -implicitDefEqProofs [g4, g23, g24, e116_r0, od116, o2]
    refine leaveK_all (fun x hx => (hds.1 x hx).1) hds.2 fun s' f1 f2 => ?_
    have hbd : ¬ bn ∈ ds := fun h => own_notDef hown (by omega) (hds.1 bn h).1 rfl
    have hown' := hown.same (st' := s') (by omega) fun _ => f2 bn hbd
    have : resC b m = .tuple ⟨[encCs r.bs, .bool true]⟩ := by unfold resC; rw [hrun]
    rw [this]
    have hs := snap_own (keep := false) (d := 6) hown' (fun u hu => (encCs_pv0 _ u hu).snap _ _ _ (by omega)) rfl
    have hcs : encCs r.bs = fsl (b.days.length + 1) (r.bs.flatMap encC) := by unfold encCs; rw [R.len]
    rw [hcs]
    have hs2 : snapV false s' 7 (.bool true) = some (.bool true) := rfl
    exact snap_tup2 hs hs2
end Go.Proofs.YtolgomkmilbkgaaGreat

