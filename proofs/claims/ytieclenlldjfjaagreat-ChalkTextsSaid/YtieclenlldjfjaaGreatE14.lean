import Derived.Test.YtieclenlldjfjaaGreatE13
set_option autoImplicit false
set_option linter.unusedVariables false
set_option linter.unusedSimpArgs false
namespace Go.Proofs.YtieclenlldjfjaaGreat.Ev
open Go
section
variable {P : Program} {σ : Nm} {st st' : St} {w : World}

/-- A new name for a block that no name has. -/
theorem Rel.named {o : AObj} {k : Blk} (h : Rel σ st w) (hlt : st.next < 65536) (hb : k.b < w.heap.size) (hfree : ∀ x kx, Alive st x → σ x = some kx → kx.b ≠ k.b)
    (ho : ∀ τ, Sub σ τ → τ st.next = some k → OR τ k w o) :
    ∃ σ', σ' st.next = some k ∧ Rel σ' ⟨putAt st.next st.heap o, st.next + 1⟩ w ∧ Sub σ σ' ∧ (∀ x, x ≠ st.next → σ' x = σ x) ∧ (∀ x, Alive ⟨putAt st.next st.heap o, st.next + 1⟩ x → x ≠ st.next → Alive st x) := by
  let σ' : Nm := fun nm => if nm = st.next then some k else σ nm
  have hs : Sub σ σ' := fun nm kk e => by
    show (if nm = st.next then some k else σ nm) = some kk
    rw [if_neg (fun e' => by subst e'; rw [(h.fresh _ (Nat.le_refl _)).1] at e; cases e)]
    exact e
  have hn : σ' st.next = some k := by show (if st.next = st.next then some k else _) = _; rw [if_pos rfl]
  have hobj : ∀ x, x ≠ st.next → St.obj ⟨putAt st.next st.heap o, st.next + 1⟩ x = st.obj x := by
    intro x hx
    rw [St.obj_mk, St.obj_eq, objAt_put hlt, if_neg hx]
  have halive : ∀ x, Alive ⟨putAt st.next st.heap o, st.next + 1⟩ x → x ≠ st.next → Alive st x := by
    intro x hx he; unfold Alive at hx ⊢; rw [hobj x he] at hx; exact hx
  have hσ : ∀ x, x ≠ st.next → σ' x = σ x := fun x hx => by show (if x = st.next then some k else σ x) = σ x; rw [if_neg hx]
  refine ⟨σ', hn, ⟨fun x hx => ?_, fun x y kx ky hx hy h1 h2 h3 => ?_, fun x hx => ?_, fun x kx hx => ?_, hlt⟩, hs, hσ, halive⟩
  · by_cases e : x = st.next
    · subst e
      refine ⟨k, hn, ?_⟩
      rw [St.obj_mk, objAt_put hlt, if_pos rfl]
      exact ho σ' hs hn
    · obtain ⟨kx, h1, h2⟩ := h.obj x (halive x hx e)
      refine ⟨kx, hs _ _ h1, ?_⟩
      rw [hobj x e]
      exact OR.mono hs rfl h2
  · by_cases ex : x = st.next
    · by_cases ey : y = st.next
      · rw [ex, ey]
      · exfalso
        subst ex
        rw [hn] at h1; cases h1
        rw [hσ y ey] at h2
        exact hfree y ky (halive y hy ey) h2 h3.symm
    · by_cases ey : y = st.next
      · exfalso
        subst ey
        rw [hn] at h2; cases h2
        rw [hσ x ex] at h1
        exact hfree x kx (halive x hx ex) h1 h3
      · rw [hσ x ex] at h1; rw [hσ y ey] at h2
        exact h.apart x y kx ky (halive x hx ex) (halive y hy ey) h1 h2 h3
  · have hx' : st.next + 1 ≤ x := hx
    have e : x ≠ st.next := by omega
    exact ⟨by rw [hσ x e]; exact (h.fresh x (by omega)).1, fun hy => (h.fresh x (by omega)).2 (halive x hy e)⟩
  · by_cases e : x = st.next
    · subst e; rw [hn] at hx; cases hx; exact hb
    · rw [hσ x e] at hx
      exact h.bound x kx hx

theorem setObj_next (nm : Nat) (o : AObj) : (st.setObj nm o).next = st.next := by rw [St.setObj_eq]

/-- The block of a name, changed, under a new name. -/
theorem Rel.adopt {w' : World} (h : Rel σ st w) (hlt : st.next < 65536) {nm : Nat} {k k2 : Blk} (ha : Alive st nm) (hk : σ nm = some k) (hb : k2.b = k.b) {o : AObj}
    (hsize : w'.heap.size = w.heap.size) (hoth : ∀ b, b ≠ k.b → w'.heap[b]? = w.heap[b]?) (ho : ∀ τ, Sub σ τ → τ st.next = some k2 → OR τ k2 w' o)
    (ht : w'.tape = w.tape) (hos : w'.os = w.os) (hout : w'.output = w.output) :
    ∃ σ', σ' st.next = some k2 ∧ Rel σ' ⟨putAt (st.setObj nm .dead).next (st.setObj nm .dead).heap o, (st.setObj nm .dead).next + 1⟩ w' ∧
      Ext σ st w σ' ⟨putAt (st.setObj nm .dead).next (st.setObj nm .dead).heap o, (st.setObj nm .dead).next + 1⟩ w' := by
  obtain ⟨r1, x1⟩ := h.upd (o := .dead) ha hk hsize hoth trivial ht hos hout
  have hnm : nm < 65536 := by
    rcases Nat.lt_or_ge nm 65536 with h' | h'
    · exact h'
    · exact absurd (by rw [St.obj_eq]; exact objAt_big h') ha
  have hdead : ¬ Alive (st.setObj nm .dead) nm := by
    intro hx; apply hx; rw [St.setObj_eq, St.obj_mk, objAt_put hnm, if_pos rfl]
  have hal : ∀ x, Alive (st.setObj nm .dead) x → Alive st x := by
    intro x hx
    by_cases e : x = nm
    · subst e; exact ha
    · unfold Alive at hx ⊢; rw [St.setObj_eq, St.obj_mk, objAt_put hnm, if_neg e] at hx; rw [St.obj_eq]; exact hx
  have hbb := h.bound nm k hk
  have hfree : ∀ x kx, Alive (st.setObj nm .dead) x → σ x = some kx → kx.b ≠ k2.b := by
    intro x kx hx h1 he
    have := h.apart x nm kx k (hal x hx) ha h1 hk (he.trans hb)
    subst this
    exact hdead hx
  have hn := setObj_next (st := st) nm .dead
  obtain ⟨σ', s1, s2, s3, s4, s5⟩ := r1.named (o := o) (k := k2) (by rw [hn]; exact hlt) (by rw [hsize, hb]; exact hbb) hfree (fun τ h1 h2 => ho τ h1 (by rw [← hn]; exact h2))
  refine ⟨σ', by rw [← hn]; exact s1, s2, ⟨s3, by show st.next ≤ (st.setObj nm .dead).next + 1; omega, by rw [hsize]; exact Nat.le_refl _, fun b hb' ⟨x, kx, hx, h1, h2⟩ => ?_, fun b _ hno => hoth b fun e => hno ⟨nm, k, ha, hk, e.symm⟩, ht, hos, hout, fun x hx => s4 x (by rw [hn]; omega)⟩⟩
  by_cases e : x = (st.setObj nm .dead).next
  · subst e
    rw [s1] at h1; cases h1
    exact ⟨nm, k, ha, hk, by rw [← hb, h2]⟩
  · rw [s4 x e] at h1
    exact ⟨x, kx, hal x (s5 x hx e), h1, h2⟩

def DoesV (P : Program) (s : Sem Value) (σ : Nm) (st : St) (w : World) (v : Value) (st' : St) : Prop :=
  ∃ σ' w' v', s.run P w = .ok v' w' ∧ VR σ' v v' ∧ Rel σ' st' w' ∧ Ext σ st w σ' st' w'

theorem DoesV.does {s : Sem Value} {v : Value} (h : DoesV P s σ st w v st') : Does P (do pure (.value (← s))) σ st w v st' := by
  obtain ⟨σ', w', v', h1, h2⟩ := h
  exact ⟨σ', w', v', .inl (by rw [Sem.run_bind, h1]; rfl), h2⟩

theorem app_nil_room {t tx ty e : TypeId} {i : TypeInfo} (ht : P.underlying t = some (.slice e)) (hi : P.info? e = some i) (hby : i.bytes ≤ 65536) {k sLen sCap : Nat} (hk : i.size = k) {x : Value} {ys : List Value}
    (hs : App P e k tx x 0 ys w) (hroom : sLen ≤ sCap) :
    (Builtin.append_ #[t, tx] ty #[.slice none sLen sCap, x]).run P w = .ok (.slice none sLen sCap) w := by
  subst hk
  rcases hs with ⟨hk, hlen, hcells⟩ | ⟨kk, k2, z, zv, hx, rfl, hn, hz, hzc, hzl, rfl⟩
  · have hc0 := hcells w.drawn
    have hw : ({ w with drawn := w.drawn } : World) = w := rfl
    rw [hw] at hc0
    rcases hk with ⟨e', hk⟩ | hk <;> simp [Builtin.append_, run_underlying ht, run_underlying hk, sizeOf, typeInfo, hi, hlen, hroom, hc0]
  · have hw' : IntKind.i64.wrap (0 : Int) = (0 : Int) := wrap_small 0 (by omega)
    simp [Builtin.append_, run_underlying ht, run_underlying hx, sizeOf, typeInfo, hi, asInt, asIntOf, hw', hroom]

theorem oldL_ok {k len : Nat} {nm off : Nat} {old : List Value} {kk : Blk} (hkk : σ nm = some kk) (h : oldL st k (some ⟨nm, off, none⟩) len = some old) (hr : Rel σ st w) (cap : Nat) :
    old.length = len * k ∧ (∀ u, u ∈ old → u.oneCell' = true) ∧
    ∃ olds, VRL σ old olds ∧ (∀ d, (Builtin.firstCells k len (.slice (some ⟨kk.b, kk.o + off, none⟩) len cap)).run P { w with drawn := d } = .ok ⟨olds⟩ { w with drawn := d }) := by
  have h : bsel (Nat.beq len 0) (some []) (cellsK (st.obj nm) none fun d m _ _ tr => bsel (Nat.ble (Nat.add off (Nat.mul len k)) m) (some (Bt.sub tr (half d) off (Nat.add off (Nat.mul len k)) [])) none) = some old := h
  cases hb : Nat.beq len 0 with
  | true =>
    rw [hb] at h; cases h
    have := beq_iff.1 hb; subst this
    exact ⟨by simp, by simp, [], .nil, fun d => by simp [Builtin.firstCells, run_load0]⟩
  | false =>
    rw [hb] at h
    obtain ⟨d, m, es, ex, tr, ho, h⟩ := cellsK_ok h (by simp)
    obtain ⟨hm, h⟩ := bsel_ne h (by simp)
    cases h
    have hm : off + len * k ≤ m := ble_iff.1 hm
    obtain ⟨g1, g2, ys, g3, g4⟩ := row_list (P := P) hkk ho hr hm
    exact ⟨g1, g2, ys, g3, fun dr => by simp only [Builtin.firstCells]; exact g4 dr⟩

/-- A new row, behind a draw, with cells more than are known. -/
theorem grown_ok {k need c : Nat} {xs ys zs : List Value} {e : TypeId} {v : Value} (h : allK (rowOf xs k false) (fun nm => .slice (some ⟨nm, 0, none⟩) need need) st = .ok v st') (hr : Rel σ st w)
    (hx : VRL σ xs ys) (h1 : ∀ u, u ∈ xs → u.oneCell' = true) (hc : need ≤ c) (hlen : (ys ++ zs).length = c * k) :
    ∃ σ', VR σ' v (.slice (some ⟨w.heap.size, 0, none⟩) need c) ∧ Rel σ' st' { w with heap := w.heap.push (.cells ⟨ys ++ zs⟩ e) } ∧ Ext σ st w σ' st' { w with heap := w.heap.push (.cells ⟨ys ++ zs⟩ e) } := by
  obtain ⟨rfl, rfl, hlt⟩ := allK_ok h
  have hll : (ys ++ zs).take xs.length = ys := by rw [hx.1, List.take_left]
  obtain ⟨σ', s1, s2, s3⟩ := hr.newRow hlt (c := ys ++ zs) (xs := xs) (by rw [hll]; exact hx) h1 e k false
  exact ⟨σ', .slice st.next 0 need need c _ s1 (Nat.le_refl _) (fun h => by cases h) (fun _ => ⟨hc, by show 0 + 0 + c * k ≤ (ys ++ zs).length; omega⟩), s2, s3⟩

theorem appendK_ok {t tx ty e : TypeId} {i : TypeInfo} (ht : P.underlying t = some (.slice e)) (hi : P.info? e = some i) (hby : i.bytes ≤ 65536) {k len cap n : Nat} (hk : i.size = k) {base : Option Addr} {s' x' v : Value} {new ys z : List Value} {zv : Value}
    (hz : zeroOf P e = some zv) (hzc : zv.cells = ⟨z⟩) (hzl : z.length = k) (ha : App P e k tx x' n ys w) (hn : VRL σ new ys) (h1 : ∀ u, u ∈ new → u.oneCell' = true) (hnl : new.length = n * k)
    (hr : Rel σ st w) (hs : VR σ (.slice base len cap) s') (h : appendK k base len cap (len + n) new st = .ok v st') :
    DoesV P (Builtin.append_ #[t, tx] ty #[s', x']) σ st w v st' := by
  unfold appendK at h
  obtain ⟨hb, h⟩ := bsel_ne h Re.no_ne
  have hb : len + n ≤ 1048576 := ble_iff.1 hb
  generalize hv : Value.slice base len cap = u at hs
  have hge : ∀ W : World, len + n ≤ grownCap W (len + n) cap e := fun W => grownCap_ge W _ _ e
  cases hs with
  | nilslice =>
    cases hv
    cases hbb : Nat.ble (0 + n) 0 with
    | true =>
      rw [hbb] at h
      have hn0 : n = 0 := by have := ble_iff.1 hbb; omega
      subst hn0
      have h : Re.ok (.slice none (0 + 0) 0) st = .ok v st' := h
      cases h
      exact ⟨σ, w, .slice none 0 0, app_nil_room ht hi hby hk ha (Nat.le_refl 0), .nilslice, hr, .refl σ st w⟩
    | false =>
      rw [hbb] at h
      have hn0 : 0 < n := by
        rcases Nat.eq_zero_or_pos n with rfl | h'
        · cases hbb
        · exact h'
      have h : allK (rowOf ([] ++ new) k false) (fun nm => .slice (some ⟨nm, 0, none⟩) (0 + n) (0 + n)) st = .ok v st' := h
      have hg := app_grow (ty := ty) (sLen := 0) (sCap := 0) (n := n) (base := none) (olds := []) ht hi hby hk hz hzc ha (by simp [Builtin.firstCells]) (by omega) hb
      obtain ⟨σ', g1, g2, g3⟩ := grown_ok (w := w.drew) (e := e) (c := grownCap w (0 + n) 0 e) (zs := repL z (grownCap w (0 + n) 0 e - (0 + n))) h hr.drew (ys := [] ++ ys) (by simpa using hn) (by simpa using h1) (grownCap_ge w _ _ e) (by
        have := grownCap_ge w (0 + n) 0 e
        rw [List.nil_append, List.length_append, ← hn.1, hnl, repL_len, hzl, ← Nat.add_mul]
        congr 1; omega)
      exact ⟨σ', _, _, hg, g1, g2, (Ext.drew σ st w).trans g3⟩
  | slice nm off n2 c2 c' kk hkk hle hx1 hx2 =>
    cases hv
    have hcc : cap ≤ c' := by
      cases hex : kk.ex with
      | true => exact Nat.le_of_eq (hx1 hex).symm
      | false => exact (hx2 hex).1
    cases hbb : Nat.ble (len + n) cap with
    | true =>
      rw [hbb] at h
      have hroom : len + n ≤ cap := ble_iff.1 hbb
      have h : cellsK (st.obj nm) .no (fun d m es ex tr =>
          bsel (Nat.ble (Nat.add off (Nat.mul (len + n) k)) m)
            (.ok (.slice (some ⟨nm, off, none⟩) (len + n) cap) (st.setObj nm (.cells d m es ex (Bt.put tr (half d) (Nat.add off (Nat.mul len k)) new)))) .no) = Re.ok v st' := h
      obtain ⟨d, m, es, ex, tr, ho, h⟩ := cellsK_ok h Re.no_ne
      obtain ⟨hm, h⟩ := bsel_ne h Re.no_ne
      have hm : off + (len + n) * k ≤ m := ble_iff.1 hm
      obtain ⟨rfl, rfl⟩ := Re.ok_inj h
      obtain ⟨w', s1, s2, s3⟩ := hr.over (P := P) hkk ho (off := off + len * k) hn h1 (by rw [hnl, Nat.add_assoc, ← Nat.add_mul]; exact hm) (t' := Bt.put tr (half d) (off + len * k) new) (fun hp => ⟨(Bt.put_perf hp).1, rfl⟩)
      refine ⟨σ, w', _, app_room (sCap := c') ht hi hby hk ha (by omega) (w' := w') ?_, .slice nm off (len + n) cap c' kk hkk hroom hx1 hx2, s2, s3⟩
      rw [add_place, Nat.add_assoc]; exact s1
    | false =>
      rw [hbb] at h
      have hno : cap < len + n := by
        rcases Nat.lt_or_ge cap (len + n) with h' | h'
        · exact h'
        · rw [ble_iff.2 h'] at hbb; cases hbb
      have h : osel (oldL st k (some ⟨nm, off, none⟩) len) .no (fun old =>
          cellsK (st.obj nm) .no fun d m es ex tr =>
            bsel (Nat.beq es k) (allK (rowOf (old ++ new) k false) (fun nm => .slice (some ⟨nm, 0, none⟩) (len + n) (len + n)) (st.setObj nm .dead)) .no) = Re.ok v st' := h
      obtain ⟨old, hold, h⟩ := osel_ne h Re.no_ne
      obtain ⟨d, m, es, ex, tr, ho, h⟩ := cellsK_ok h Re.no_ne
      obtain ⟨hes, h⟩ := bsel_ne h Re.no_ne
      have hes := beq_iff.1 hes
      subst hes
      obtain ⟨o1, o2, olds, o3, o4⟩ := oldL_ok (P := P) hkk hold hr c'
      obtain ⟨halive, g1, g2, g3, g4, g0, c, ec, g5, g6, g7, g8⟩ := hr.at hkk ho (by simp)
      have hone : ∀ u, u ∈ old ++ new → u.oneCell' = true := fun u hu => (List.mem_append.1 hu).elim (o2 u) (h1 u)
      by_cases hroom : len + n ≤ c'
      · -- the model does it in place
        have hex : kk.ex = false := by
          cases hex : kk.ex with
          | false => rfl
          | true => have := hx1 hex; omega
        obtain ⟨_, hN⟩ := hx2 hex
        rw [g1] at hN
        obtain ⟨rfl, rfl, hlt⟩ := allK_ok h
        have hmul : (len + n) * es ≤ c' * es := Nat.mul_le_mul_right _ hroom
        have hsum : len * es + n * es = (len + n) * es := by rw [Nat.add_mul]
        have hyl : ys.length = n * es := by rw [← hn.1, hnl]
        have hy1 : ∀ v, v ∈ ys → v.oneCell' = true := by
          intro v hv
          obtain ⟨j, hj⟩ := List.getElem?_of_mem hv
          have hjl : j < new.length := by
            rcases Nat.lt_or_ge j ys.length with h' | h'
            · rw [hn.1]; exact h'
            · rw [List.getElem?_eq_none h'] at hj; cases hj
          rw [← (hn.2 j new[j] v (by simp [hjl]) hj).one]
          exact h1 _ (List.getElem_mem hjl)
        have hst := run_storeCells_at P kk.b (kk.o + off + len * es) ec ys 0 ⟨c⟩ w g5 (by show kk.o + off + len * es + 0 + ys.length ≤ c.length; omega) hy1
        simp only [Nat.add_zero] at hst
        obtain ⟨s1, s2, s3⟩ := setRow_at g5 (c.take (kk.o + off + len * es) ++ ys ++ c.drop (kk.o + off + len * es + ys.length)).toArray
        have hlen : (c.take (kk.o + off + len * es) ++ ys ++ c.drop (kk.o + off + len * es + ys.length)).length = c.length := by
          simp; omega
        have hold2 : olds = (c.drop (kk.o + off)).take (len * es) := by
          have e1 := o4 w.drawn
          have e2 : (Builtin.firstCells es len (.slice (some ⟨kk.b, kk.o + off, none⟩) len c')).run P w = .ok ⟨(c.drop (kk.o + off)).take (len * es)⟩ w := by
            simp only [Builtin.firstCells]
            exact load_seg g5 (by omega)
          have e3 : ({ w with drawn := w.drawn } : World) = w := rfl
          rw [e3, e2] at e1
          simpa using e1.symm
        obtain ⟨σ', t1, t2, t3⟩ := hr.adopt (w' := w.setRow kk.b (c.take (kk.o + off + len * es) ++ ys ++ c.drop (kk.o + off + len * es + ys.length)).toArray) (o := rowOf (old ++ new) es false)
          (by rw [setObj_next] at hlt; exact hlt) halive hkk (k2 := ⟨kk.b, kk.o + off, kk.N, es, false⟩) rfl s3 s2 (fun τ hs1 hs2 => by
            unfold rowOf
            rw [lenL_eq]
            refine ⟨rfl, rfl, (Bt.ofL_perf _ _).1, dep_le _, by rw [ofL_take]; exact hone, _, ec, s1, by rw [hlen]; exact g6, by show kk.o + off + (old ++ new).length ≤ kk.N; rw [List.length_append]; omega, ?_⟩
            rw [ofL_take]
            have e5 : ((c.take (kk.o + off + len * es) ++ ys ++ c.drop (kk.o + off + len * es + ys.length)).drop (kk.o + off)).take (old ++ new).length = olds ++ ys := by
              have c1 : (c.take (kk.o + off + len * es) ++ ys ++ c.drop (kk.o + off + len * es + ys.length)).drop (kk.o + off) = (c.drop (kk.o + off)).take (len * es) ++ ys ++ c.drop (kk.o + off + len * es + ys.length) := by
                rw [List.append_assoc, List.drop_append_of_le_length (by simp; omega), List.drop_take, List.append_assoc]
                congr 2
                omega
              rw [c1, ← hold2, List.take_append_of_le_length (by simp [← o3.1, ← hn.1]), List.take_of_length_le (by simp [← o3.1, ← hn.1])]
            rw [e5]
            exact (o3.append hn).mono hs1) rfl rfl rfl
        refine ⟨σ', _, .slice (some ⟨kk.b, kk.o + off, none⟩) (len + n) c', app_room (sCap := c') ht hi hby hk ha hroom (w' := w.setRow kk.b (c.take (kk.o + off + len * es) ++ ys ++ c.drop (kk.o + off + len * es + ys.length)).toArray) ?_, ?_, t2, t3⟩
        · rw [add_place]; exact hst
        · rw [setObj_next]
          exact .slice st.next 0 (len + n) (len + n) c' ⟨kk.b, kk.o + off, kk.N, es, false⟩ t1 (Nat.le_refl _) (fun h => by cases h) (fun _ => ⟨hroom, by show kk.o + off + 0 + c' * es ≤ kk.N; omega⟩)
      · have hg := app_grow (ty := ty) (sLen := len) (sCap := c') (n := n) (base := some ⟨kk.b, kk.o + off, none⟩) (olds := olds) ht hi hby hk hz hzc ha (o4 _) (by omega) hb
        obtain ⟨r1, x1⟩ := hr.drew.upd (o := .dead) (w' := w.drew) halive hkk rfl (fun b hb => rfl) trivial rfl rfl rfl
        obtain ⟨σ', q1, q2, q3⟩ := grown_ok (w := w.drew) (e := e) (c := grownCap w (len + n) c' e) (zs := repL z (grownCap w (len + n) c' e - (len + n))) h r1 (ys := olds ++ ys) (o3.append hn) hone (grownCap_ge w _ _ e) (by
          have := grownCap_ge w (len + n) c' e
          rw [List.length_append, List.length_append, ← o3.1, o1, ← hn.1, hnl, repL_len, hzl, ← Nat.add_mul, ← Nat.add_mul]
          congr 1; omega)
        exact ⟨σ', _, _, hg, q1, q2, ((Ext.drew σ st w).trans x1).trans q3⟩
  | void a c' =>
    simp only [voidS, Value.slice.injEq] at hv
    obtain ⟨rfl, rfl, rfl⟩ := hv
    have hdead : st.obj voidNm = .dead := by rw [St.obj_eq]; exact objAt_big (by simp [voidNm])
    exfalso
    cases hbb : Nat.ble (0 + n) 0 with
    | true =>
      rw [hbb] at h
      have h : cellsK (st.obj voidNm) Re.no (fun d m es ex tr => bsel (Nat.ble (Nat.add 0 (Nat.mul (0 + n) k)) m) (.ok (.slice (some ⟨voidNm, 0, none⟩) (0 + n) 0) (st.setObj voidNm (.cells d m es ex (Bt.put tr (half d) (Nat.add 0 (Nat.mul 0 k)) new)))) .no) = Re.ok v st' := h
      rw [hdead] at h
      cases h
    | false =>
      rw [hbb] at h
      have h : growK k (some ⟨voidNm, 0, none⟩) 0 (0 + n) new st = Re.ok v st' := h
      unfold growK at h
      obtain ⟨old, hold, h⟩ := osel_ne (x := oldL st k (some ⟨voidNm, 0, none⟩) 0) h Re.no_ne
      have h : cellsK (st.obj voidNm) Re.no (fun d m es ex tr => bsel (Nat.beq es k) (allK (rowOf (old ++ new) k false) (fun nm => .slice (some ⟨nm, 0, none⟩) (0 + n) (0 + n)) (st.setObj voidNm .dead)) .no) = Re.ok v st' := h
      rw [hdead] at h
      cases h
  | _ => cases hv
end
end Go.Proofs.YtieclenlldjfjaaGreat.Ev
