import Derived.Test.YtbhiphjifdnhmaaGreatDoorPI
import Derived.Test.YtbhiphjifdnhmaaGreatDoorPA
import Derived.Deep.QuietTactic
import Derived.BigQuiet
import Derived.Test.YtbhiphjifdnhmaaGreatDoorPD
import Derived.Test.YtbhiphjifdnhmaaGreatDoorK18
set_option linter.unusedSimpArgs false
set_option linter.unusedVariables false
/- The reference: put, rests. -/
namespace Go.Proofs.YtbhiphjifdnhmaaGreatDoor
open Go.RowKit Go.Maps
theorem ahead_step {α : Type} {lt : α → α → Bool} {s : α} : ∀ (l : List α) (k : Nat) (x : α), k ≤ ahead lt l s → l[k]? = some x → lt x s = true → k + 1 ≤ ahead lt l s
 | [], k, x, h, hx, _ => by simp at hx
 | y :: l, 0, x, h, hx, hl => by
  simp only [List.getElem?_cons_zero, Option.some.injEq] at hx
  subst hx
  simp [ahead, hl]
 | y :: l, k + 1, x, h, hx, hl => by
  simp only [List.getElem?_cons_succ] at hx
  unfold ahead at h ⊢
  rw [List.takeWhile_cons] at h ⊢
  cases hy : lt y s
  ·rw [hy] at h; simp at h
  ·rw [hy] at h
   simp only [if_true, List.length_cons] at h ⊢
   have := ahead_step (s := s) l k x (by unfold ahead; omega) hx hl
   unfold ahead at this
   omega
theorem ahead_stop {α : Type} {lt : α → α → Bool} {s : α} : ∀ (l : List α) (k : Nat), k ≤ ahead lt l s → (∀ x, l[k]? = some x → lt x s = false) → k = ahead lt l s
 | [], k, h, _ => by simp [ahead] at h ⊢; omega
 | y :: l, 0, h, hx => by
  have := hx y rfl
  simp [ahead, this]
 | y :: l, k + 1, h, hx => by
  unfold ahead at h ⊢
  rw [List.takeWhile_cons] at h ⊢
  cases hy : lt y s
  ·rw [hy] at h; simp at h
  ·rw [hy] at h
   simp only [if_true, List.length_cons] at h ⊢
   have := ahead_stop (s := s) l k (by unfold ahead; omega) (fun x q => hx x (by simpa using q))
   unfold ahead at this
   omega
theorem ahead_le {α : Type} {lt : α → α → Bool} {s : α} (l : List α) : ahead lt l s ≤ l.length := by
 unfold ahead
 exact (List.takeWhile_sublist _).length_le
/-- 'append([]string{}, m...)': all that was there stays -/
theorem OwnQ.append0 {w : World} {base : Nat} {A : Option Addr} {c : Nat} {l : List ByteArray} (h : OwnQ w base A c l) (hl0 : l = []) (hc0 : c = 0) {A2 : Option Addr} {c2 : Nat} {m : List ByteArray} (hS : Strs w w.heap.size A2 m) (hlen : l.length + m.length ≤ 1000000) (hbase : base ≤ w.heap.size) (ty : TypeId) :
  ∃ A' c' w', (Builtin.append_ #[64, 64] ty #[.slice A l.length c, .slice A2 m.length c2]).run Tryz.prog w = .ok (.slice A' (l ++ m).length c') w' ∧ OwnQ w' base A' c' (l ++ m) ∧ Below w.heap.size w w' := by
 obtain ⟨i, z, hi, hz, hzs, h1, h2⟩ := st_parts
 have hsrc := src_strs (c := c2) hS
 obtain ⟨k1, k2, k3⟩ := h
 by_cases hm : m = []
 ·subst hm
  have hr := run_append_nothing (P := Tryz.prog) w 64 64 ty 9 i Tryz.underlying64 hi A l.length c k1 _ (by rw [h1]; exact hsrc)
  refine ⟨A, c, w, ?_, ?_, Below.refl _ _⟩
  ·rw [List.append_nil]; exact hr
  ·rw [List.append_nil]; exact ⟨k1, k2, k3⟩
 ·have hmp : 0 < m.length := List.length_pos_iff.2 hm
  by_cases hroom : l.length + m.length ≤ c
  ·exact absurd hroom (by omega)
  ·have hold : (Builtin.firstCells i.size l.length (.slice A l.length c)).run Tryz.prog w.drew = .ok (l.map Value.string).toArray w.drew := by
    rw [h1]
    rcases k3 with ⟨rfl, rfl, rfl⟩ | ⟨g, o, rfl, hg, hlt, hc, hf⟩
    ·exact run_firstCells_none w.drew 1 0 0 0
    ·refine run_firstCells_some w.drew 1 l.length ⟨g, o, none⟩ l.length c (l.map Value.string) (by simp) (fun j u hj => ?_)
     rw [List.getElem?_map] at hj
     cases hx : l[j]? with
     | none => rw [hx] at hj; cases hj
     | some x =>
      rw [hx] at hj
      cases hj
      rw [Addr.add_mid]
      exact hc j x hx
   have hr := run_append_grow_src (P := Tryz.prog) w 64 64 ty 9 i z Tryz.underlying64 hi hz A l.length c (l.map Value.string) hold _ m.length (m.map Value.string) (by rw [h1]; exact hsrc) (by omega) (by omega) (by rw [h2]; exact growslice_fits (by omega) (by omega))
   have hge := grownCap_ge w (l.length + m.length) c 9
   have hcm : grownCap w (l.length + m.length) c 9 ≤ maxLen := grownCap_le_maxLen w (l.length + m.length) c 9 (by simp only [maxLen]; omega)
   generalize grownCap w (l.length + m.length) c 9 = C at hr hge hcm
   obtain ⟨cur, hcur⟩ : ∃ cur, cur = (l.map Value.string ++ m.map Value.string).toArray ++ Builtin.zeroCells z.cells (C - (l.length + m.length)) := ⟨_, rfl⟩
   rw [← hcur] at hr
   have hsz : cur.size = C := by
    rw [hcur]
    simp only [Array.size_append, List.size_toArray, size_zeroCells, hzs, List.length_append, List.length_map]
    omega
   have hB : (w.drew.alloc (.cells cur 9)).heap[w.heap.size]? = some (.cells cur 9 (0, 0)) := heap_alloc_new w.drew _
   refine ⟨some ⟨w.heap.size, 0, none⟩, C, w.drew.alloc (.cells cur 9), by rw [List.length_append]; exact hr, ⟨by rw [List.length_append]; exact hge, hcm, .inr ⟨w.heap.size, 0, rfl, hbase, by simp, fun j x hx => ?_, fun j hj => ?_⟩⟩, (Below.refl w.heap.size w).drew.alloc (Nat.le_refl _) _⟩
   ·rw [cell_of_row _ _ _ cur 9 (0, 0) hB, hcur, Nat.zero_add]
    have hj : j < (l ++ m).length := (List.getElem?_eq_some_iff.1 hx).1
    rw [List.length_append] at hj
    rw [Array.getElem?_append_left (by simp; omega), List.getElem?_toArray, ← List.map_append, List.getElem?_map, hx]
    rfl
   ·rw [cell_of_row _ _ _ cur 9 (0, 0) hB, frozen_of_row _ _ _ cur 9 hB, Array.getElem?_eq_getElem (by omega)]
    exact ⟨rfl, rfl⟩
/-- an append to a row of one's own, as a step of a drawn region -/
theorem wp_appQ {o : Oper} {a : Act} {K : Act → World → Prop} {Q : Exit → Act → World → Prop} {w : World} (s x : Operand)
  (ho : o.op = .call { callee := .builtin .append, args := #[s, x], argTypes := #[64, 64] }) {base : Nat} {A : Option Addr} {c : Nat} {l : List ByteArray} (hown : OwnQ w base A c l) {A2 : Option Addr} {c2 : Nat} {m : List ByteArray} (hS : Strs w w.heap.size A2 m)
  (hs : a.eval s = .slice A l.length c) (hx : a.eval x = .slice A2 m.length c2) (hl : l.length + m.length ≤ 1000000) (hbase : base ≤ w.heap.size)
  (h : ∀ A' c' w', OwnQ w' base A' c' (l ++ m) → Below base w w' → K (a.put o.dst (.slice A' (l ++ m).length c')) w') : Oper.wp Tryz.prog o a w K Q := by
 obtain ⟨A', c', w', hr, q1, q2⟩ := hown.append hS (c2 := c2) hl hbase o.type
 unfold Oper.wp execOp
 simp only [ho, resolve, invoke, builtin, Sem.run_bind, Sem.run_pure, Result.andThen_ok, List.map_toArray, List.map_cons, List.map_nil, hs, hx, hr]
 exact h A' c' w' q1 q2
theorem run_build0S (w : World) : (Instr.buildSlice 64 0 #[]).run Tryz.prog w = .ok (.slice (some ⟨w.heap.size, 0, none⟩) 0 0) (w.alloc (.cells #[] 9)) := by
 simp [go_sem]
theorem run_build1S (s : ByteArray) (w : World) : (Instr.buildSlice 64 1 #[(0, .string s)]).run Tryz.prog w = .ok (.slice (some ⟨w.heap.size, 0, none⟩) 1 1) (w.alloc (.cells #[.string s] 9)) := by
 simp [go_sem]
/-- '[]string{}' at the operation -/
theorem wp_build0S {o : Oper} {a : Act} {K : Act → World → Prop} {Q : Exit → Act → World → Prop} {w : World} (ho : o.op = .buildSlice 64 0 #[]) (base : Nat) (hb : base ≤ w.heap.size)
  (h : ∀ A' w', OwnQ w' base A' 0 [] → Below w.heap.size w w' → K (a.put o.dst (.slice A' ([] : List ByteArray).length 0)) w') : o.wp Tryz.prog a w K Q := by
 unfold Oper.wp
 simp [execOp, ho, run_build0S, Result.andThen]
 refine h (some ⟨w.heap.size, 0, none⟩) (w.alloc (.cells #[] 9)) ⟨Nat.le_refl _, Nat.zero_le _, .inr ⟨w.heap.size, 0, rfl, hb, by simp, fun j x hx => by simp at hx, fun j hj => by omega⟩⟩ ((Below.refl _ _).alloc (Nat.le_refl _) _)
/-- '[]string{s}' at the operation -/
theorem wp_build1S {o : Oper} {a : Act} {K : Act → World → Prop} {Q : Exit → Act → World → Prop} {w : World} (x : Operand) (ho : o.op = .buildSlice 64 1 #[(0, x)]) (s : ByteArray) (hx : a.eval x = .string s)
  (h : ∀ A' w', Strs w' w'.heap.size A' [s] → Below w.heap.size w w' → K (a.put o.dst (.slice A' [s].length 1)) w') : o.wp Tryz.prog a w K Q := by
 unfold Oper.wp
 simp [execOp, ho, hx, run_build1S, Result.andThen]
 refine h (some ⟨w.heap.size, 0, none⟩) (w.alloc (.cells #[.string s] 9)) (fun k y hy => ?_) ((Below.refl _ _).alloc (Nat.le_refl _) _)
 cases k with
 | zero =>
  simp only [List.getElem?_cons_zero, Option.some.injEq] at hy
  subst hy
  refine ⟨_, rfl, by simp, ?_⟩
  exact World.cell?_alloc_new w #[.string s] 9 0
 | succ k => simp at hy
theorem Strs.take {w : World} {B : Nat} {A : Option Addr} {l : List ByteArray} (h : Strs w B A l) (k : Nat) : Strs w B A (l.take k) := fun j x hx => by
 rw [List.getElem?_take] at hx
 split at hx
 ·exact h j x hx
 ·cases hx
theorem Strs.drop {w : World} {B : Nat} {ad : Addr} {l : List ByteArray} (h : Strs w B (some ad) l) (k : Nat) : Strs w B (some (ad.add k)) (l.drop k) := fun j x hx => by
 rw [List.getElem?_drop] at hx
 obtain ⟨ad', e, h1, h2⟩ := h (k + j) x hx
 cases e
 exact ⟨_, rfl, by unfold Addr.add; split <;> exact h1, by rw [Addr.add_add]; exact h2⟩
/-- the same, at a fresh empty list -/
theorem wp_appQ0 {o : Oper} {a : Act} {K : Act → World → Prop} {Q : Exit → Act → World → Prop} {w : World} (s x : Operand)
  (ho : o.op = .call { callee := .builtin .append, args := #[s, x], argTypes := #[64, 64] }) {base : Nat} {A : Option Addr} (hown : OwnQ w base A 0 []) {A2 : Option Addr} {c2 : Nat} {m : List ByteArray} (hS : Strs w w.heap.size A2 m)
  (hs : a.eval s = .slice A ([] : List ByteArray).length 0) (hx : a.eval x = .slice A2 m.length c2) (hl : m.length ≤ 1000000) (hbase : base ≤ w.heap.size)
  (h : ∀ A' c' w', OwnQ w' base A' c' m → Below w.heap.size w w' → K (a.put o.dst (.slice A' m.length c')) w') : Oper.wp Tryz.prog o a w K Q := by
 obtain ⟨A', c', w', hr, q1, q2⟩ := hown.append0 rfl rfl hS (c2 := c2) (by simpa using hl) hbase o.type
 unfold Oper.wp execOp
 simp only [ho, resolve, invoke, builtin, Sem.run_bind, Sem.run_pure, Result.andThen_ok, List.map_toArray, List.map_cons, List.map_nil, hs, hx, hr]
 exact h A' c' w' q1 q2
set_option maxRecDepth 100000 in
set_option maxHeartbeats 4000000 in
theorem put_any (A : Option Addr) (cap : Nat) (l : List ByteArray) (s : ByteArray) (w : World) (hl : l.length ≤ 1000) (hc : l.length ≤ cap) (hcm : cap ≤ maxLen) (hS : Strs w w.heap.size A l) :
  Calls Tryz.prog 102 #[.slice A l.length cap, .string s] w fun e w' => ∃ A' c', e = .returned (.slice A' (putL ltS l s).length c') ∧ Strs w' w'.heap.size A' (putL ltS l s) ∧ (putL ltS l s).length ≤ c' ∧ c' ≤ maxLen ∧ Below w.heap.size w w' := by
 go_enter Tryz.func102, Tryz.ntmps102
 go_wp2_with fail
 go_loopw [5] (fun t5 wq => ∃ (k : Nat), k ≤ l.length ∧ k ≤ ahead ltS l s ∧ t5 = .int .i64 k ∧ Below w.heap.size w wq) (fun t5 _ => l.length - (intOf t5).toNat)
 case atStart => exact ⟨0, by omega, by omega, rfl, Below.refl _ _⟩
 case round =>
  obtain ⟨k, hk, hka, rfl, hb1⟩ := hrel
  have hq : IntKind.i64.wrap ((k : Int) + 1) = (k : Int) + 1 := IntWalk.i64_in _ (by omega)
  have HQ := Lib.hid hq
  clear hq
  have hSr := hS.behind hb1
  by_cases hlt : k < l.length
  ·obtain ⟨x, hx⟩ : ∃ x, l[k]? = some x := ⟨_, List.getElem?_eq_getElem hlt⟩
   obtain ⟨ad, hA, hag, hcx⟩ := (hS.below hb1) k x hx
   subst hA
   have hbl : Op.bytesLess x.toList s.toList = ltS x s := by rw [bytesLess_eq]; simp only [ltS, ByteArray.toList_eq]
   cases hls : ltS x s with
   | true =>
    rw [hls] at hbl
    have H1 := ahead_step l k x hka hx hls
    go_wp2_with fail
    exact ⟨⟨k + 1, by omega, by omega, by go_num, hb1⟩, by simp [intOf]; omega⟩
   | false =>
    rw [hls] at hbl
    have H1 := ahead_stop l k hka (fun y hy => by rw [hx] at hy; cases hy; exact hls)
    by_cases hxs : x.toList = s.toList
    ·have e : x = s := bytes_eq (by rwa [ByteArray.toList_eq, ByteArray.toList_eq] at hxs)
     have hP : putL ltS l s = l := by
      have hlk : l[ahead ltS l s]'(by omega) = x := by
       have := List.getElem?_eq_some_iff.1 hx
       obtain ⟨q1, q2⟩ := this
       simp only [← H1]; exact q2
      rw [putL_at, dif_pos (by omega), hlk, e]
      rw [e] at hls
      rw [if_neg (by rw [hls]; simp)]
     have HP := Lib.hid hP
     rw [hxs] at hbl
     clear hP H1 hls
     go_wp2_with fail
     go_ret
     rw [HP.out]
     exact ⟨_, _, rfl, hSr, hc, hcm, hb1⟩
    ·have hxb : (x.toList == s.toList) = false := beq_eq_false_iff_ne.2 hxs
     have hsl : ltS s x = true := by
      cases hsx : ltS s x with
      | true => rfl
      | false =>
       have e := ltS_ord.con _ _ hls hsx
       exact absurd (by rw [e]) hxs
     have hP : putL ltS l s = (l.take k ++ [s]) ++ l.drop k := by
      have hlk : l[ahead ltS l s]'(by omega) = x := by
       obtain ⟨q1, q2⟩ := List.getElem?_eq_some_iff.1 hx
       simp only [← H1]; exact q2
      rw [putL_at, dif_pos (by omega), hlk, if_pos hsl, ← H1]
      simp
     have HP := Lib.hid hP
     clear hP H1 hls hsl
     have hkc : k ≤ cap := by omega
     have hkc1 : ¬ cap = k := by omega
     go_wp2_with fail
     have hkl : (l.take k).length = k := by rw [List.length_take]; omega
     have hkd : (l.drop k).length = l.length - k := List.length_drop
     have HLn : Hid ((putL ltS l s).length = k + (l.length - k + 1)) := by unfold Hid; rw [HP.out]; simp only [List.length_append, List.length_cons, List.length_nil, hkl, hkd]; omega
     have hb : Below w.heap.size w wr.drew := hb1.drew
     have hz : w.heap.size ≤ wr.drew.heap.size := hb.size
     refine wp_region_held_drew (S := fun _ => True) (by kernel_rfl) trivial (fun hHeld => ?_)
     have hS' := hS
     clear hb1 hSr
     (refine wpAnyH_take (i := 1) (v := ?_) rfl (by kernel_rfl) (by kernel_rfl) (by kernel_rfl) (fun _ _ _ h => h) (Or.inl ⟨by rfl, ?_⟩) (by assumption) ?_; rotate_left; (· intro w5 hS5; go_simp <;> with_reducible rfl); (try simp only [List.getElem_toArray, List.getElem_cons_zero, List.getElem_cons_succ, Act.put, List.setIfInBounds_toArray, List.set_cons_zero, List.set_cons_succ]))
     (refine wpAnyH_take (i := 2) (v := ?_) rfl (by kernel_rfl) (by kernel_rfl) (by kernel_rfl) (fun _ _ _ h => h) (Or.inl ⟨by rfl, ?_⟩) (by assumption) ?_; rotate_left; (· intro w5 hS5; go_simp <;> with_reducible rfl); (try simp only [List.getElem_toArray, List.getElem_cons_zero, List.getElem_cons_succ, Act.put, List.setIfInBounds_toArray, List.set_cons_zero, List.set_cons_succ]))
     (refine wpAnyH_take (i := 3) (v := ?_) rfl (by kernel_rfl) (by kernel_rfl) (by kernel_rfl) (fun _ _ _ h => h) (Or.inl ⟨by rfl, ?_⟩) (by assumption) ?_; rotate_left; (· intro w5 hS5; go_simp <;> with_reducible rfl); (try simp only [List.getElem_toArray, List.getElem_cons_zero, List.getElem_cons_succ, Act.put, List.setIfInBounds_toArray, List.set_cons_zero, List.set_cons_succ]))
     (refine wpAnyH_take (i := 5) (v := ?_) rfl (by kernel_rfl) (by kernel_rfl) (by kernel_rfl) (fun _ _ _ h => h) (Or.inl ⟨by rfl, ?_⟩) (by assumption) ?_; rotate_left; (· intro w5 hS5; go_simp <;> with_reducible rfl); (try simp only [List.getElem_toArray, List.getElem_cons_zero, List.getElem_cons_succ, Act.put, List.setIfInBounds_toArray, List.set_cons_zero, List.set_cons_succ]))
     (refine wpAnyH_take (i := 8) (v := ?_) rfl (by kernel_rfl) (by kernel_rfl) (by kernel_rfl) (fun _ _ _ h => h) (Or.inl ⟨by rfl, ?_⟩) (by assumption) ?_; rotate_left; (· intro w5 hS5; go_simp <;> with_reducible rfl); (try simp only [List.getElem_toArray, List.getElem_cons_zero, List.getElem_cons_succ, Act.put, List.setIfInBounds_toArray, List.set_cons_zero, List.set_cons_succ]))
     (refine wpAnyH_take (i := 9) (v := ?_) rfl (by kernel_rfl) (by kernel_rfl) (by kernel_rfl) (fun _ _ _ h => h) (Or.inl ⟨by rfl, ?_⟩) (by assumption) ?_; rotate_left; (· intro w5 hS5; go_simp <;> with_reducible rfl); (try simp only [List.getElem_toArray, List.getElem_cons_zero, List.getElem_cons_succ, Act.put, List.setIfInBounds_toArray, List.set_cons_zero, List.set_cons_succ]))
     (refine wpAnyH_take (i := 10) (v := ?_) rfl (by kernel_rfl) (by kernel_rfl) (by kernel_rfl) (fun _ _ _ h => h) (Or.inl ⟨by rfl, ?_⟩) (by assumption) ?_; rotate_left; (· intro w5 hS5; go_simp <;> with_reducible rfl); (try simp only [List.getElem_toArray, List.getElem_cons_zero, List.getElem_cons_succ, Act.put, List.setIfInBounds_toArray, List.set_cons_zero, List.set_cons_succ]))
     (refine wpAnyH_ready (rs := [0, 6]) (by kernel_rfl) (by simp) ?_)
     refine AllReadyH.cons rfl (fun K hK => ?_) (AllReadyH.cons rfl (fun K hK => ?_) AllReadyH.nil)
     ·refine Eq.mpr (if_pos (by kernel_rfl)) ?_
      refine wp_build0S rfl w.heap.size hz ?_
      intro AQ v1 hq hv1
      refine hK.out _ _ trivial (fun hHeld => ?_)
      clear hK K
      (try simp only [List.getElem_toArray, List.getElem_cons_zero, List.getElem_cons_succ, Act.put, List.setIfInBounds_toArray, List.set_cons_zero, List.set_cons_succ])
      replace hb := below_next hb hz hv1
      replace hz := Nat.le_trans hz hv1.size
      clear hv1
      (refine wpAnyH_ready (rs := [4, 6]) (by kernel_rfl) (by simp) ?_)
      refine AllReadyH.cons rfl (fun K hK => ?_) (AllReadyH.cons rfl (fun K hK => ?_) AllReadyH.nil)
      ·refine Eq.mpr (if_pos (by kernel_rfl)) ?_
       refine wp_appQ0 (.tmp 33) (.tmp 36) rfl hq ((hS.behind hb).take k) rfl (by rw [hkl]; rfl) (by omega) hz ?_
       intro AQ4 cQ4 v2 hq4 hv2
       refine hK.out _ _ trivial (fun hHeld => ?_)
       clear hK K
       (try simp only [List.getElem_toArray, List.getElem_cons_zero, List.getElem_cons_succ, Act.put, List.setIfInBounds_toArray, List.set_cons_zero, List.set_cons_succ])
       replace hb := below_next hb hz hv2
       clear hq
       replace hz := Nat.le_trans hz hv2.size
       clear hv2
       (refine wpAnyH_ready (rs := [6]) (by kernel_rfl) (by simp) ?_)
       refine AllReadyH.cons rfl (fun K hK => ?_) AllReadyH.nil
       refine Eq.mpr (if_pos (by kernel_rfl)) ?_
       refine wp_build1S (.tmp 38) rfl s rfl ?_
       intro AT v3 ht hv3
       refine hK.out _ _ trivial (fun hHeld => ?_)
       clear hK K
       (try simp only [List.getElem_toArray, List.getElem_cons_zero, List.getElem_cons_succ, Act.put, List.setIfInBounds_toArray, List.set_cons_zero, List.set_cons_succ])
       replace hb := below_next hb hz hv3
       replace hq4 := hq4.below hv3
       replace hz := Nat.le_trans hz hv3.size
       clear hv3
       (refine wpAnyH_ready (rs := [7]) (by kernel_rfl) (by simp) ?_)
       refine AllReadyH.cons rfl (fun K hK => ?_) AllReadyH.nil
       refine Eq.mpr (if_pos (by kernel_rfl)) ?_
       refine wp_appQ (.tmp 37) (.tmp 39) rfl hq4 ht rfl rfl (by simp only [List.length_cons, List.length_nil]; omega) hz ?_
       intro AQ7 cQ7 v4 hq7 hv4
       refine hK.out _ _ trivial (fun hHeld => ?_)
       clear hK K
       (try simp only [List.getElem_toArray, List.getElem_cons_zero, List.getElem_cons_succ, Act.put, List.setIfInBounds_toArray, List.set_cons_zero, List.set_cons_succ])
       replace hb := hb.trans hv4
       clear hq4 ht
       replace hz := Nat.le_trans hz hv4.size
       clear hv4
       (refine wpAnyH_ready (rs := [11]) (by kernel_rfl) (by simp) ?_)
       refine AllReadyH.cons rfl (fun K hK => ?_) AllReadyH.nil
       refine Eq.mpr (if_pos (by kernel_rfl)) ?_
       refine wp_appQ (.tmp 40) (.tmp 43) rfl hq7 ((hS.behind hb).drop k) rfl (by rw [hkd]; rfl) (by simp only [List.length_append, List.length_cons, List.length_nil]; omega) hz ?_
       intro AQ11 cQ11 v5 hq11 hv5
       refine hK.out _ _ trivial (fun hHeld => ?_)
       clear hK K
       (try simp only [List.getElem_toArray, List.getElem_cons_zero, List.getElem_cons_succ, Act.put, List.setIfInBounds_toArray, List.set_cons_zero, List.set_cons_succ])
       replace hb := hb.trans hv5
       clear hq7
       replace hz := Nat.le_trans hz hv5.size
       clear hv5
       (refine wpAnyH_take (i := 12) (v := ?_) rfl (by kernel_rfl) (by kernel_rfl) (by kernel_rfl) (fun _ _ _ h => h) (Or.inl ⟨by rfl, ?_⟩) (by assumption) ?_; rotate_left; (· intro w5 hS5; go_simp <;> with_reducible rfl); (try simp only [List.getElem_toArray, List.getElem_cons_zero, List.getElem_cons_succ, Act.put, List.setIfInBounds_toArray, List.set_cons_zero, List.set_cons_succ]))
       refine wpAnyH_done (by kernel_rfl) ?_ _
       go_wp2_with fail
       go_ret
       exact ⟨AQ11, cQ11, by rw [HLn.out]; rfl, by rw [HP.out]; exact hq11.strs, by rw [HP.out]; exact hq11.1, hq11.2.1, hb⟩
      ·refine Eq.mpr (if_pos (by kernel_rfl)) ?_
       refine wp_build1S (.tmp 38) rfl s rfl ?_
       intro AT v6 ht hv6
       refine hK.out _ _ trivial (fun hHeld => ?_)
       clear hK K
       (try simp only [List.getElem_toArray, List.getElem_cons_zero, List.getElem_cons_succ, Act.put, List.setIfInBounds_toArray, List.set_cons_zero, List.set_cons_succ])
       replace hb := below_next hb hz hv6
       replace hq := hq.below hv6
       replace hz := Nat.le_trans hz hv6.size
       clear hv6
       (refine wpAnyH_ready (rs := [4]) (by kernel_rfl) (by simp) ?_)
       refine AllReadyH.cons rfl (fun K hK => ?_) AllReadyH.nil
       refine Eq.mpr (if_pos (by kernel_rfl)) ?_
       refine wp_appQ0 (.tmp 33) (.tmp 36) rfl hq ((hS.behind hb).take k) rfl (by rw [hkl]; rfl) (by omega) hz ?_
       intro AQ4 cQ4 v7 hq4 hv7
       refine hK.out _ _ trivial (fun hHeld => ?_)
       clear hK K
       (try simp only [List.getElem_toArray, List.getElem_cons_zero, List.getElem_cons_succ, Act.put, List.setIfInBounds_toArray, List.set_cons_zero, List.set_cons_succ])
       replace hb := below_next hb hz hv7
       clear hq
       replace ht := ht.behind hv7
       replace hz := Nat.le_trans hz hv7.size
       clear hv7
       (refine wpAnyH_ready (rs := [7]) (by kernel_rfl) (by simp) ?_)
       refine AllReadyH.cons rfl (fun K hK => ?_) AllReadyH.nil
       refine Eq.mpr (if_pos (by kernel_rfl)) ?_
       refine wp_appQ (.tmp 37) (.tmp 39) rfl hq4 ht rfl rfl (by simp only [List.length_cons, List.length_nil]; omega) hz ?_
       intro AQ7 cQ7 v8 hq7 hv8
       refine hK.out _ _ trivial (fun hHeld => ?_)
       clear hK K
       (try simp only [List.getElem_toArray, List.getElem_cons_zero, List.getElem_cons_succ, Act.put, List.setIfInBounds_toArray, List.set_cons_zero, List.set_cons_succ])
       replace hb := hb.trans hv8
       clear hq4 ht
       replace hz := Nat.le_trans hz hv8.size
       clear hv8
       (refine wpAnyH_ready (rs := [11]) (by kernel_rfl) (by simp) ?_)
       refine AllReadyH.cons rfl (fun K hK => ?_) AllReadyH.nil
       refine Eq.mpr (if_pos (by kernel_rfl)) ?_
       refine wp_appQ (.tmp 40) (.tmp 43) rfl hq7 ((hS.behind hb).drop k) rfl (by rw [hkd]; rfl) (by simp only [List.length_append, List.length_cons, List.length_nil]; omega) hz ?_
       intro AQ11 cQ11 v9 hq11 hv9
       refine hK.out _ _ trivial (fun hHeld => ?_)
       clear hK K
       (try simp only [List.getElem_toArray, List.getElem_cons_zero, List.getElem_cons_succ, Act.put, List.setIfInBounds_toArray, List.set_cons_zero, List.set_cons_succ])
       replace hb := hb.trans hv9
       clear hq7
       replace hz := Nat.le_trans hz hv9.size
       clear hv9
       (refine wpAnyH_take (i := 12) (v := ?_) rfl (by kernel_rfl) (by kernel_rfl) (by kernel_rfl) (fun _ _ _ h => h) (Or.inl ⟨by rfl, ?_⟩) (by assumption) ?_; rotate_left; (· intro w5 hS5; go_simp <;> with_reducible rfl); (try simp only [List.getElem_toArray, List.getElem_cons_zero, List.getElem_cons_succ, Act.put, List.setIfInBounds_toArray, List.set_cons_zero, List.set_cons_succ]))
       refine wpAnyH_done (by kernel_rfl) ?_ _
       go_wp2_with fail
       go_ret
       exact ⟨AQ11, cQ11, by rw [HLn.out]; rfl, by rw [HP.out]; exact hq11.strs, by rw [HP.out]; exact hq11.1, hq11.2.1, hb⟩
     ·refine Eq.mpr (if_pos (by kernel_rfl)) ?_
      refine wp_build1S (.tmp 38) rfl s rfl ?_
      intro AT v10 ht hv10
      refine hK.out _ _ trivial (fun hHeld => ?_)
      clear hK K
      (try simp only [List.getElem_toArray, List.getElem_cons_zero, List.getElem_cons_succ, Act.put, List.setIfInBounds_toArray, List.set_cons_zero, List.set_cons_succ])
      replace hb := below_next hb hz hv10
      replace hz := Nat.le_trans hz hv10.size
      clear hv10
      (refine wpAnyH_ready (rs := [0]) (by kernel_rfl) (by simp) ?_)
      refine AllReadyH.cons rfl (fun K hK => ?_) AllReadyH.nil
      refine Eq.mpr (if_pos (by kernel_rfl)) ?_
      refine wp_build0S rfl w.heap.size hz ?_
      intro AQ v11 hq hv11
      refine hK.out _ _ trivial (fun hHeld => ?_)
      clear hK K
      (try simp only [List.getElem_toArray, List.getElem_cons_zero, List.getElem_cons_succ, Act.put, List.setIfInBounds_toArray, List.set_cons_zero, List.set_cons_succ])
      replace hb := below_next hb hz hv11
      replace ht := ht.behind hv11
      replace hz := Nat.le_trans hz hv11.size
      clear hv11
      (refine wpAnyH_ready (rs := [4]) (by kernel_rfl) (by simp) ?_)
      refine AllReadyH.cons rfl (fun K hK => ?_) AllReadyH.nil
      refine Eq.mpr (if_pos (by kernel_rfl)) ?_
      refine wp_appQ0 (.tmp 33) (.tmp 36) rfl hq ((hS.behind hb).take k) rfl (by rw [hkl]; rfl) (by omega) hz ?_
      intro AQ4 cQ4 v12 hq4 hv12
      refine hK.out _ _ trivial (fun hHeld => ?_)
      clear hK K
      (try simp only [List.getElem_toArray, List.getElem_cons_zero, List.getElem_cons_succ, Act.put, List.setIfInBounds_toArray, List.set_cons_zero, List.set_cons_succ])
      replace hb := below_next hb hz hv12
      clear hq
      replace ht := ht.behind hv12
      replace hz := Nat.le_trans hz hv12.size
      clear hv12
      (refine wpAnyH_ready (rs := [7]) (by kernel_rfl) (by simp) ?_)
      refine AllReadyH.cons rfl (fun K hK => ?_) AllReadyH.nil
      refine Eq.mpr (if_pos (by kernel_rfl)) ?_
      refine wp_appQ (.tmp 37) (.tmp 39) rfl hq4 ht rfl rfl (by simp only [List.length_cons, List.length_nil]; omega) hz ?_
      intro AQ7 cQ7 v13 hq7 hv13
      refine hK.out _ _ trivial (fun hHeld => ?_)
      clear hK K
      (try simp only [List.getElem_toArray, List.getElem_cons_zero, List.getElem_cons_succ, Act.put, List.setIfInBounds_toArray, List.set_cons_zero, List.set_cons_succ])
      replace hb := hb.trans hv13
      clear hq4 ht
      replace hz := Nat.le_trans hz hv13.size
      clear hv13
      (refine wpAnyH_ready (rs := [11]) (by kernel_rfl) (by simp) ?_)
      refine AllReadyH.cons rfl (fun K hK => ?_) AllReadyH.nil
      refine Eq.mpr (if_pos (by kernel_rfl)) ?_
      refine wp_appQ (.tmp 40) (.tmp 43) rfl hq7 ((hS.behind hb).drop k) rfl (by rw [hkd]; rfl) (by simp only [List.length_append, List.length_cons, List.length_nil]; omega) hz ?_
      intro AQ11 cQ11 v14 hq11 hv14
      refine hK.out _ _ trivial (fun hHeld => ?_)
      clear hK K
      (try simp only [List.getElem_toArray, List.getElem_cons_zero, List.getElem_cons_succ, Act.put, List.setIfInBounds_toArray, List.set_cons_zero, List.set_cons_succ])
      replace hb := hb.trans hv14
      clear hq7
      replace hz := Nat.le_trans hz hv14.size
      clear hv14
      (refine wpAnyH_take (i := 12) (v := ?_) rfl (by kernel_rfl) (by kernel_rfl) (by kernel_rfl) (fun _ _ _ h => h) (Or.inl ⟨by rfl, ?_⟩) (by assumption) ?_; rotate_left; (· intro w5 hS5; go_simp <;> with_reducible rfl); (try simp only [List.getElem_toArray, List.getElem_cons_zero, List.getElem_cons_succ, Act.put, List.setIfInBounds_toArray, List.set_cons_zero, List.set_cons_succ]))
      refine wpAnyH_done (by kernel_rfl) ?_ _
      go_wp2_with fail
      go_ret
      exact ⟨AQ11, cQ11, by rw [HLn.out]; rfl, by rw [HP.out]; exact hq11.strs, by rw [HP.out]; exact hq11.1, hq11.2.1, hb⟩
  ·obtain rfl : k = l.length := by omega
   have hP : putL ltS l s = (l.take l.length ++ [s]) ++ l.drop l.length := by
    have H1 : ahead ltS l s = l.length := Nat.le_antisymm (ahead_le l) hka
    rw [putL_at, dif_neg (by omega)]
    simp
   have HP := Lib.hid hP
   clear hP
   by_cases hkc1 : cap = l.length
   ·go_wp2_with fail
    have hkl : (l.take l.length).length = l.length := by rw [List.length_take]; omega
    have hkd : (l.drop l.length).length = l.length - l.length := List.length_drop
    have HLn : Hid ((putL ltS l s).length = l.length + 1) := by unfold Hid; rw [HP.out]; simp only [List.length_append, List.length_cons, List.length_nil, hkl, hkd]; omega
    have hb : Below w.heap.size w wr.drew := hb1.drew
    have hz : w.heap.size ≤ wr.drew.heap.size := hb.size
    refine wp_region_held_drew (S := fun _ => True) (by kernel_rfl) trivial (fun hHeld => ?_)
    have hS' := hS
    clear hb1 hSr
    (refine wpAnyH_take (i := 1) (v := ?_) rfl (by kernel_rfl) (by kernel_rfl) (by kernel_rfl) (fun _ _ _ h => h) (Or.inl ⟨by rfl, ?_⟩) (by assumption) ?_; rotate_left; (· intro w5 hS5; go_simp <;> with_reducible rfl); (try simp only [List.getElem_toArray, List.getElem_cons_zero, List.getElem_cons_succ, Act.put, List.setIfInBounds_toArray, List.set_cons_zero, List.set_cons_succ]))
    (refine wpAnyH_take (i := 2) (v := ?_) rfl (by kernel_rfl) (by kernel_rfl) (by kernel_rfl) (fun _ _ _ h => h) (Or.inl ⟨by rfl, ?_⟩) (by assumption) ?_; rotate_left; (· intro w5 hS5; go_simp <;> with_reducible rfl); (try simp only [List.getElem_toArray, List.getElem_cons_zero, List.getElem_cons_succ, Act.put, List.setIfInBounds_toArray, List.set_cons_zero, List.set_cons_succ]))
    (refine wpAnyH_take (i := 3) (v := ?_) rfl (by kernel_rfl) (by kernel_rfl) (by kernel_rfl) (fun _ _ _ h => h) (Or.inl ⟨by rfl, ?_⟩) (by assumption) ?_; rotate_left; (· intro w5 hS5; go_simp <;> with_reducible rfl); (try simp only [List.getElem_toArray, List.getElem_cons_zero, List.getElem_cons_succ, Act.put, List.setIfInBounds_toArray, List.set_cons_zero, List.set_cons_succ]))
    (refine wpAnyH_take (i := 5) (v := ?_) rfl (by kernel_rfl) (by kernel_rfl) (by kernel_rfl) (fun _ _ _ h => h) (Or.inl ⟨by rfl, ?_⟩) (by assumption) ?_; rotate_left; (· intro w5 hS5; go_simp <;> with_reducible rfl); (try simp only [List.getElem_toArray, List.getElem_cons_zero, List.getElem_cons_succ, Act.put, List.setIfInBounds_toArray, List.set_cons_zero, List.set_cons_succ]))
    (refine wpAnyH_take (i := 8) (v := ?_) rfl (by kernel_rfl) (by kernel_rfl) (by kernel_rfl) (fun _ _ _ h => h) (Or.inl ⟨by rfl, ?_⟩) (by assumption) ?_; rotate_left; (· intro w5 hS5; go_simp <;> with_reducible rfl); (try simp only [List.getElem_toArray, List.getElem_cons_zero, List.getElem_cons_succ, Act.put, List.setIfInBounds_toArray, List.set_cons_zero, List.set_cons_succ]))
    (refine wpAnyH_take (i := 9) (v := ?_) rfl (by kernel_rfl) (by kernel_rfl) (by kernel_rfl) (fun _ _ _ h => h) (Or.inl ⟨by rfl, ?_⟩) (by assumption) ?_; rotate_left; (· intro w5 hS5; go_simp <;> with_reducible rfl); (try simp only [List.getElem_toArray, List.getElem_cons_zero, List.getElem_cons_succ, Act.put, List.setIfInBounds_toArray, List.set_cons_zero, List.set_cons_succ]))
    (refine wpAnyH_take (i := 10) (v := ?_) rfl (by kernel_rfl) (by kernel_rfl) (by kernel_rfl) (fun _ _ _ h => h) (Or.inl ⟨by rfl, ?_⟩) (by assumption) ?_; rotate_left; (· intro w5 hS5; go_simp <;> with_reducible rfl); (try simp only [List.getElem_toArray, List.getElem_cons_zero, List.getElem_cons_succ, Act.put, List.setIfInBounds_toArray, List.set_cons_zero, List.set_cons_succ]))
    (refine wpAnyH_ready (rs := [0, 6]) (by kernel_rfl) (by simp) ?_)
    refine AllReadyH.cons rfl (fun K hK => ?_) (AllReadyH.cons rfl (fun K hK => ?_) AllReadyH.nil)
    ·refine Eq.mpr (if_pos (by kernel_rfl)) ?_
     refine wp_build0S rfl w.heap.size hz ?_
     intro AQ v1 hq hv1
     refine hK.out _ _ trivial (fun hHeld => ?_)
     clear hK K
     (try simp only [List.getElem_toArray, List.getElem_cons_zero, List.getElem_cons_succ, Act.put, List.setIfInBounds_toArray, List.set_cons_zero, List.set_cons_succ])
     replace hb := below_next hb hz hv1
     replace hz := Nat.le_trans hz hv1.size
     clear hv1
     (refine wpAnyH_ready (rs := [4, 6]) (by kernel_rfl) (by simp) ?_)
     refine AllReadyH.cons rfl (fun K hK => ?_) (AllReadyH.cons rfl (fun K hK => ?_) AllReadyH.nil)
     ·refine Eq.mpr (if_pos (by kernel_rfl)) ?_
      refine wp_appQ0 (.tmp 33) (.tmp 36) rfl hq ((hS.behind hb).take l.length) rfl (by rw [hkl]; rfl) (by omega) hz ?_
      intro AQ4 cQ4 v2 hq4 hv2
      refine hK.out _ _ trivial (fun hHeld => ?_)
      clear hK K
      (try simp only [List.getElem_toArray, List.getElem_cons_zero, List.getElem_cons_succ, Act.put, List.setIfInBounds_toArray, List.set_cons_zero, List.set_cons_succ])
      replace hb := below_next hb hz hv2
      clear hq
      replace hz := Nat.le_trans hz hv2.size
      clear hv2
      (refine wpAnyH_ready (rs := [6]) (by kernel_rfl) (by simp) ?_)
      refine AllReadyH.cons rfl (fun K hK => ?_) AllReadyH.nil
      refine Eq.mpr (if_pos (by kernel_rfl)) ?_
      refine wp_build1S (.tmp 38) rfl s rfl ?_
      intro AT v3 ht hv3
      refine hK.out _ _ trivial (fun hHeld => ?_)
      clear hK K
      (try simp only [List.getElem_toArray, List.getElem_cons_zero, List.getElem_cons_succ, Act.put, List.setIfInBounds_toArray, List.set_cons_zero, List.set_cons_succ])
      replace hb := below_next hb hz hv3
      replace hq4 := hq4.below hv3
      replace hz := Nat.le_trans hz hv3.size
      clear hv3
      (refine wpAnyH_ready (rs := [7]) (by kernel_rfl) (by simp) ?_)
      refine AllReadyH.cons rfl (fun K hK => ?_) AllReadyH.nil
      refine Eq.mpr (if_pos (by kernel_rfl)) ?_
      refine wp_appQ (.tmp 37) (.tmp 39) rfl hq4 ht rfl rfl (by simp only [List.length_cons, List.length_nil]; omega) hz ?_
      intro AQ7 cQ7 v4 hq7 hv4
      refine hK.out _ _ trivial (fun hHeld => ?_)
      clear hK K
      (try simp only [List.getElem_toArray, List.getElem_cons_zero, List.getElem_cons_succ, Act.put, List.setIfInBounds_toArray, List.set_cons_zero, List.set_cons_succ])
      replace hb := hb.trans hv4
      clear hq4 ht
      replace hz := Nat.le_trans hz hv4.size
      clear hv4
      (refine wpAnyH_ready (rs := [11]) (by kernel_rfl) (by simp) ?_)
      refine AllReadyH.cons rfl (fun K hK => ?_) AllReadyH.nil
      refine Eq.mpr (if_pos (by kernel_rfl)) ?_
      refine wp_appQ (.tmp 40) (.tmp 43) rfl hq7 (A2 := A) (m := l.drop l.length) (by rw [List.drop_length]; exact Strs.nil) rfl (by rw [List.drop_length]; rfl) (by simp only [List.length_append, List.length_cons, List.length_nil]; omega) hz ?_
      intro AQ11 cQ11 v5 hq11 hv5
      refine hK.out _ _ trivial (fun hHeld => ?_)
      clear hK K
      (try simp only [List.getElem_toArray, List.getElem_cons_zero, List.getElem_cons_succ, Act.put, List.setIfInBounds_toArray, List.set_cons_zero, List.set_cons_succ])
      replace hb := hb.trans hv5
      clear hq7
      replace hz := Nat.le_trans hz hv5.size
      clear hv5
      (refine wpAnyH_take (i := 12) (v := ?_) rfl (by kernel_rfl) (by kernel_rfl) (by kernel_rfl) (fun _ _ _ h => h) (Or.inl ⟨by rfl, ?_⟩) (by assumption) ?_; rotate_left; (· intro w5 hS5; go_simp <;> with_reducible rfl); (try simp only [List.getElem_toArray, List.getElem_cons_zero, List.getElem_cons_succ, Act.put, List.setIfInBounds_toArray, List.set_cons_zero, List.set_cons_succ]))
      refine wpAnyH_done (by kernel_rfl) ?_ _
      go_wp2_with fail
      go_ret
      exact ⟨AQ11, cQ11, by rw [HLn.out]; rfl, by rw [HP.out]; exact hq11.strs, by rw [HP.out]; exact hq11.1, hq11.2.1, hb⟩
     ·refine Eq.mpr (if_pos (by kernel_rfl)) ?_
      refine wp_build1S (.tmp 38) rfl s rfl ?_
      intro AT v6 ht hv6
      refine hK.out _ _ trivial (fun hHeld => ?_)
      clear hK K
      (try simp only [List.getElem_toArray, List.getElem_cons_zero, List.getElem_cons_succ, Act.put, List.setIfInBounds_toArray, List.set_cons_zero, List.set_cons_succ])
      replace hb := below_next hb hz hv6
      replace hq := hq.below hv6
      replace hz := Nat.le_trans hz hv6.size
      clear hv6
      (refine wpAnyH_ready (rs := [4]) (by kernel_rfl) (by simp) ?_)
      refine AllReadyH.cons rfl (fun K hK => ?_) AllReadyH.nil
      refine Eq.mpr (if_pos (by kernel_rfl)) ?_
      refine wp_appQ0 (.tmp 33) (.tmp 36) rfl hq ((hS.behind hb).take l.length) rfl (by rw [hkl]; rfl) (by omega) hz ?_
      intro AQ4 cQ4 v7 hq4 hv7
      refine hK.out _ _ trivial (fun hHeld => ?_)
      clear hK K
      (try simp only [List.getElem_toArray, List.getElem_cons_zero, List.getElem_cons_succ, Act.put, List.setIfInBounds_toArray, List.set_cons_zero, List.set_cons_succ])
      replace hb := below_next hb hz hv7
      clear hq
      replace ht := ht.behind hv7
      replace hz := Nat.le_trans hz hv7.size
      clear hv7
      (refine wpAnyH_ready (rs := [7]) (by kernel_rfl) (by simp) ?_)
      refine AllReadyH.cons rfl (fun K hK => ?_) AllReadyH.nil
      refine Eq.mpr (if_pos (by kernel_rfl)) ?_
      refine wp_appQ (.tmp 37) (.tmp 39) rfl hq4 ht rfl rfl (by simp only [List.length_cons, List.length_nil]; omega) hz ?_
      intro AQ7 cQ7 v8 hq7 hv8
      refine hK.out _ _ trivial (fun hHeld => ?_)
      clear hK K
      (try simp only [List.getElem_toArray, List.getElem_cons_zero, List.getElem_cons_succ, Act.put, List.setIfInBounds_toArray, List.set_cons_zero, List.set_cons_succ])
      replace hb := hb.trans hv8
      clear hq4 ht
      replace hz := Nat.le_trans hz hv8.size
      clear hv8
      (refine wpAnyH_ready (rs := [11]) (by kernel_rfl) (by simp) ?_)
      refine AllReadyH.cons rfl (fun K hK => ?_) AllReadyH.nil
      refine Eq.mpr (if_pos (by kernel_rfl)) ?_
      refine wp_appQ (.tmp 40) (.tmp 43) rfl hq7 (A2 := A) (m := l.drop l.length) (by rw [List.drop_length]; exact Strs.nil) rfl (by rw [List.drop_length]; rfl) (by simp only [List.length_append, List.length_cons, List.length_nil]; omega) hz ?_
      intro AQ11 cQ11 v9 hq11 hv9
      refine hK.out _ _ trivial (fun hHeld => ?_)
      clear hK K
      (try simp only [List.getElem_toArray, List.getElem_cons_zero, List.getElem_cons_succ, Act.put, List.setIfInBounds_toArray, List.set_cons_zero, List.set_cons_succ])
      replace hb := hb.trans hv9
      clear hq7
      replace hz := Nat.le_trans hz hv9.size
      clear hv9
      (refine wpAnyH_take (i := 12) (v := ?_) rfl (by kernel_rfl) (by kernel_rfl) (by kernel_rfl) (fun _ _ _ h => h) (Or.inl ⟨by rfl, ?_⟩) (by assumption) ?_; rotate_left; (· intro w5 hS5; go_simp <;> with_reducible rfl); (try simp only [List.getElem_toArray, List.getElem_cons_zero, List.getElem_cons_succ, Act.put, List.setIfInBounds_toArray, List.set_cons_zero, List.set_cons_succ]))
      refine wpAnyH_done (by kernel_rfl) ?_ _
      go_wp2_with fail
      go_ret
      exact ⟨AQ11, cQ11, by rw [HLn.out]; rfl, by rw [HP.out]; exact hq11.strs, by rw [HP.out]; exact hq11.1, hq11.2.1, hb⟩
    ·refine Eq.mpr (if_pos (by kernel_rfl)) ?_
     refine wp_build1S (.tmp 38) rfl s rfl ?_
     intro AT v10 ht hv10
     refine hK.out _ _ trivial (fun hHeld => ?_)
     clear hK K
     (try simp only [List.getElem_toArray, List.getElem_cons_zero, List.getElem_cons_succ, Act.put, List.setIfInBounds_toArray, List.set_cons_zero, List.set_cons_succ])
     replace hb := below_next hb hz hv10
     replace hz := Nat.le_trans hz hv10.size
     clear hv10
     (refine wpAnyH_ready (rs := [0]) (by kernel_rfl) (by simp) ?_)
     refine AllReadyH.cons rfl (fun K hK => ?_) AllReadyH.nil
     refine Eq.mpr (if_pos (by kernel_rfl)) ?_
     refine wp_build0S rfl w.heap.size hz ?_
     intro AQ v11 hq hv11
     refine hK.out _ _ trivial (fun hHeld => ?_)
     clear hK K
     (try simp only [List.getElem_toArray, List.getElem_cons_zero, List.getElem_cons_succ, Act.put, List.setIfInBounds_toArray, List.set_cons_zero, List.set_cons_succ])
     replace hb := below_next hb hz hv11
     replace ht := ht.behind hv11
     replace hz := Nat.le_trans hz hv11.size
     clear hv11
     (refine wpAnyH_ready (rs := [4]) (by kernel_rfl) (by simp) ?_)
     refine AllReadyH.cons rfl (fun K hK => ?_) AllReadyH.nil
     refine Eq.mpr (if_pos (by kernel_rfl)) ?_
     refine wp_appQ0 (.tmp 33) (.tmp 36) rfl hq ((hS.behind hb).take l.length) rfl (by rw [hkl]; rfl) (by omega) hz ?_
     intro AQ4 cQ4 v12 hq4 hv12
     refine hK.out _ _ trivial (fun hHeld => ?_)
     clear hK K
     (try simp only [List.getElem_toArray, List.getElem_cons_zero, List.getElem_cons_succ, Act.put, List.setIfInBounds_toArray, List.set_cons_zero, List.set_cons_succ])
     replace hb := below_next hb hz hv12
     clear hq
     replace ht := ht.behind hv12
     replace hz := Nat.le_trans hz hv12.size
     clear hv12
     (refine wpAnyH_ready (rs := [7]) (by kernel_rfl) (by simp) ?_)
     refine AllReadyH.cons rfl (fun K hK => ?_) AllReadyH.nil
     refine Eq.mpr (if_pos (by kernel_rfl)) ?_
     refine wp_appQ (.tmp 37) (.tmp 39) rfl hq4 ht rfl rfl (by simp only [List.length_cons, List.length_nil]; omega) hz ?_
     intro AQ7 cQ7 v13 hq7 hv13
     refine hK.out _ _ trivial (fun hHeld => ?_)
     clear hK K
     (try simp only [List.getElem_toArray, List.getElem_cons_zero, List.getElem_cons_succ, Act.put, List.setIfInBounds_toArray, List.set_cons_zero, List.set_cons_succ])
     replace hb := hb.trans hv13
     clear hq4 ht
     replace hz := Nat.le_trans hz hv13.size
     clear hv13
     (refine wpAnyH_ready (rs := [11]) (by kernel_rfl) (by simp) ?_)
     refine AllReadyH.cons rfl (fun K hK => ?_) AllReadyH.nil
     refine Eq.mpr (if_pos (by kernel_rfl)) ?_
     refine wp_appQ (.tmp 40) (.tmp 43) rfl hq7 (A2 := A) (m := l.drop l.length) (by rw [List.drop_length]; exact Strs.nil) rfl (by rw [List.drop_length]; rfl) (by simp only [List.length_append, List.length_cons, List.length_nil]; omega) hz ?_
     intro AQ11 cQ11 v14 hq11 hv14
     refine hK.out _ _ trivial (fun hHeld => ?_)
     clear hK K
     (try simp only [List.getElem_toArray, List.getElem_cons_zero, List.getElem_cons_succ, Act.put, List.setIfInBounds_toArray, List.set_cons_zero, List.set_cons_succ])
     replace hb := hb.trans hv14
     clear hq7
     replace hz := Nat.le_trans hz hv14.size
     clear hv14
     (refine wpAnyH_take (i := 12) (v := ?_) rfl (by kernel_rfl) (by kernel_rfl) (by kernel_rfl) (fun _ _ _ h => h) (Or.inl ⟨by rfl, ?_⟩) (by assumption) ?_; rotate_left; (· intro w5 hS5; go_simp <;> with_reducible rfl); (try simp only [List.getElem_toArray, List.getElem_cons_zero, List.getElem_cons_succ, Act.put, List.setIfInBounds_toArray, List.set_cons_zero, List.set_cons_succ]))
     refine wpAnyH_done (by kernel_rfl) ?_ _
     go_wp2_with fail
     go_ret
     exact ⟨AQ11, cQ11, by rw [HLn.out]; rfl, by rw [HP.out]; exact hq11.strs, by rw [HP.out]; exact hq11.1, hq11.2.1, hb⟩
   ·go_wp2_with fail
    have hkl : (l.take l.length).length = l.length := by rw [List.length_take]; omega
    have hkd : (l.drop l.length).length = l.length - l.length := List.length_drop
    have HLn : Hid ((putL ltS l s).length = l.length + 1) := by unfold Hid; rw [HP.out]; simp only [List.length_append, List.length_cons, List.length_nil, hkl, hkd]; omega
    have hb : Below w.heap.size w wr.drew := hb1.drew
    have hz : w.heap.size ≤ wr.drew.heap.size := hb.size
    refine wp_region_held_drew (S := fun _ => True) (by kernel_rfl) trivial (fun hHeld => ?_)
    have hS' := hS
    clear hb1 hSr
    (refine wpAnyH_take (i := 1) (v := ?_) rfl (by kernel_rfl) (by kernel_rfl) (by kernel_rfl) (fun _ _ _ h => h) (Or.inl ⟨by rfl, ?_⟩) (by assumption) ?_; rotate_left; (· intro w5 hS5; go_simp <;> with_reducible rfl); (try simp only [List.getElem_toArray, List.getElem_cons_zero, List.getElem_cons_succ, Act.put, List.setIfInBounds_toArray, List.set_cons_zero, List.set_cons_succ]))
    (refine wpAnyH_take (i := 2) (v := ?_) rfl (by kernel_rfl) (by kernel_rfl) (by kernel_rfl) (fun _ _ _ h => h) (Or.inl ⟨by rfl, ?_⟩) (by assumption) ?_; rotate_left; (· intro w5 hS5; go_simp <;> with_reducible rfl); (try simp only [List.getElem_toArray, List.getElem_cons_zero, List.getElem_cons_succ, Act.put, List.setIfInBounds_toArray, List.set_cons_zero, List.set_cons_succ]))
    (refine wpAnyH_take (i := 3) (v := ?_) rfl (by kernel_rfl) (by kernel_rfl) (by kernel_rfl) (fun _ _ _ h => h) (Or.inl ⟨by rfl, ?_⟩) (by assumption) ?_; rotate_left; (· intro w5 hS5; go_simp <;> with_reducible rfl); (try simp only [List.getElem_toArray, List.getElem_cons_zero, List.getElem_cons_succ, Act.put, List.setIfInBounds_toArray, List.set_cons_zero, List.set_cons_succ]))
    (refine wpAnyH_take (i := 5) (v := ?_) rfl (by kernel_rfl) (by kernel_rfl) (by kernel_rfl) (fun _ _ _ h => h) (Or.inl ⟨by rfl, ?_⟩) (by assumption) ?_; rotate_left; (· intro w5 hS5; go_simp <;> with_reducible rfl); (try simp only [List.getElem_toArray, List.getElem_cons_zero, List.getElem_cons_succ, Act.put, List.setIfInBounds_toArray, List.set_cons_zero, List.set_cons_succ]))
    (refine wpAnyH_take (i := 8) (v := ?_) rfl (by kernel_rfl) (by kernel_rfl) (by kernel_rfl) (fun _ _ _ h => h) (Or.inl ⟨by rfl, ?_⟩) (by assumption) ?_; rotate_left; (· intro w5 hS5; go_simp <;> with_reducible rfl); (try simp only [List.getElem_toArray, List.getElem_cons_zero, List.getElem_cons_succ, Act.put, List.setIfInBounds_toArray, List.set_cons_zero, List.set_cons_succ]))
    (refine wpAnyH_take (i := 9) (v := ?_) rfl (by kernel_rfl) (by kernel_rfl) (by kernel_rfl) (fun _ _ _ h => h) (Or.inl ⟨by rfl, ?_⟩) (by assumption) ?_; rotate_left; (· intro w5 hS5; go_simp <;> with_reducible rfl); (try simp only [List.getElem_toArray, List.getElem_cons_zero, List.getElem_cons_succ, Act.put, List.setIfInBounds_toArray, List.set_cons_zero, List.set_cons_succ]))
    (refine wpAnyH_take (i := 10) (v := ?_) rfl (by kernel_rfl) (by kernel_rfl) (by kernel_rfl) (fun _ _ _ h => h) (Or.inl ⟨by rfl, ?_⟩) (by assumption) ?_; rotate_left; (· intro w5 hS5; go_simp <;> with_reducible rfl); (try simp only [List.getElem_toArray, List.getElem_cons_zero, List.getElem_cons_succ, Act.put, List.setIfInBounds_toArray, List.set_cons_zero, List.set_cons_succ]))
    (refine wpAnyH_ready (rs := [0, 6]) (by kernel_rfl) (by simp) ?_)
    refine AllReadyH.cons rfl (fun K hK => ?_) (AllReadyH.cons rfl (fun K hK => ?_) AllReadyH.nil)
    ·refine Eq.mpr (if_pos (by kernel_rfl)) ?_
     refine wp_build0S rfl w.heap.size hz ?_
     intro AQ v1 hq hv1
     refine hK.out _ _ trivial (fun hHeld => ?_)
     clear hK K
     (try simp only [List.getElem_toArray, List.getElem_cons_zero, List.getElem_cons_succ, Act.put, List.setIfInBounds_toArray, List.set_cons_zero, List.set_cons_succ])
     replace hb := below_next hb hz hv1
     replace hz := Nat.le_trans hz hv1.size
     clear hv1
     (refine wpAnyH_ready (rs := [4, 6]) (by kernel_rfl) (by simp) ?_)
     refine AllReadyH.cons rfl (fun K hK => ?_) (AllReadyH.cons rfl (fun K hK => ?_) AllReadyH.nil)
     ·refine Eq.mpr (if_pos (by kernel_rfl)) ?_
      refine wp_appQ0 (.tmp 33) (.tmp 36) rfl hq ((hS.behind hb).take l.length) rfl (by rw [hkl]; rfl) (by omega) hz ?_
      intro AQ4 cQ4 v2 hq4 hv2
      refine hK.out _ _ trivial (fun hHeld => ?_)
      clear hK K
      (try simp only [List.getElem_toArray, List.getElem_cons_zero, List.getElem_cons_succ, Act.put, List.setIfInBounds_toArray, List.set_cons_zero, List.set_cons_succ])
      replace hb := below_next hb hz hv2
      clear hq
      replace hz := Nat.le_trans hz hv2.size
      clear hv2
      (refine wpAnyH_ready (rs := [6]) (by kernel_rfl) (by simp) ?_)
      refine AllReadyH.cons rfl (fun K hK => ?_) AllReadyH.nil
      refine Eq.mpr (if_pos (by kernel_rfl)) ?_
      refine wp_build1S (.tmp 38) rfl s rfl ?_
      intro AT v3 ht hv3
      refine hK.out _ _ trivial (fun hHeld => ?_)
      clear hK K
      (try simp only [List.getElem_toArray, List.getElem_cons_zero, List.getElem_cons_succ, Act.put, List.setIfInBounds_toArray, List.set_cons_zero, List.set_cons_succ])
      replace hb := below_next hb hz hv3
      replace hq4 := hq4.below hv3
      replace hz := Nat.le_trans hz hv3.size
      clear hv3
      (refine wpAnyH_ready (rs := [7]) (by kernel_rfl) (by simp) ?_)
      refine AllReadyH.cons rfl (fun K hK => ?_) AllReadyH.nil
      refine Eq.mpr (if_pos (by kernel_rfl)) ?_
      refine wp_appQ (.tmp 37) (.tmp 39) rfl hq4 ht rfl rfl (by simp only [List.length_cons, List.length_nil]; omega) hz ?_
      intro AQ7 cQ7 v4 hq7 hv4
      refine hK.out _ _ trivial (fun hHeld => ?_)
      clear hK K
      (try simp only [List.getElem_toArray, List.getElem_cons_zero, List.getElem_cons_succ, Act.put, List.setIfInBounds_toArray, List.set_cons_zero, List.set_cons_succ])
      replace hb := hb.trans hv4
      clear hq4 ht
      replace hz := Nat.le_trans hz hv4.size
      clear hv4
      (refine wpAnyH_ready (rs := [11]) (by kernel_rfl) (by simp) ?_)
      refine AllReadyH.cons rfl (fun K hK => ?_) AllReadyH.nil
      refine Eq.mpr (if_pos (by kernel_rfl)) ?_
      refine wp_appQ (.tmp 40) (.tmp 43) rfl hq7 (A2 := (Option.map (fun x => x.add l.length) A)) (m := l.drop l.length) (by rw [List.drop_length]; exact Strs.nil) rfl (by rw [List.drop_length]; rfl) (by simp only [List.length_append, List.length_cons, List.length_nil]; omega) hz ?_
      intro AQ11 cQ11 v5 hq11 hv5
      refine hK.out _ _ trivial (fun hHeld => ?_)
      clear hK K
      (try simp only [List.getElem_toArray, List.getElem_cons_zero, List.getElem_cons_succ, Act.put, List.setIfInBounds_toArray, List.set_cons_zero, List.set_cons_succ])
      replace hb := hb.trans hv5
      clear hq7
      replace hz := Nat.le_trans hz hv5.size
      clear hv5
      (refine wpAnyH_take (i := 12) (v := ?_) rfl (by kernel_rfl) (by kernel_rfl) (by kernel_rfl) (fun _ _ _ h => h) (Or.inl ⟨by rfl, ?_⟩) (by assumption) ?_; rotate_left; (· intro w5 hS5; go_simp <;> with_reducible rfl); (try simp only [List.getElem_toArray, List.getElem_cons_zero, List.getElem_cons_succ, Act.put, List.setIfInBounds_toArray, List.set_cons_zero, List.set_cons_succ]))
      refine wpAnyH_done (by kernel_rfl) ?_ _
      go_wp2_with fail
      go_ret
      exact ⟨AQ11, cQ11, by rw [HLn.out]; rfl, by rw [HP.out]; exact hq11.strs, by rw [HP.out]; exact hq11.1, hq11.2.1, hb⟩
     ·refine Eq.mpr (if_pos (by kernel_rfl)) ?_
      refine wp_build1S (.tmp 38) rfl s rfl ?_
      intro AT v6 ht hv6
      refine hK.out _ _ trivial (fun hHeld => ?_)
      clear hK K
      (try simp only [List.getElem_toArray, List.getElem_cons_zero, List.getElem_cons_succ, Act.put, List.setIfInBounds_toArray, List.set_cons_zero, List.set_cons_succ])
      replace hb := below_next hb hz hv6
      replace hq := hq.below hv6
      replace hz := Nat.le_trans hz hv6.size
      clear hv6
      (refine wpAnyH_ready (rs := [4]) (by kernel_rfl) (by simp) ?_)
      refine AllReadyH.cons rfl (fun K hK => ?_) AllReadyH.nil
      refine Eq.mpr (if_pos (by kernel_rfl)) ?_
      refine wp_appQ0 (.tmp 33) (.tmp 36) rfl hq ((hS.behind hb).take l.length) rfl (by rw [hkl]; rfl) (by omega) hz ?_
      intro AQ4 cQ4 v7 hq4 hv7
      refine hK.out _ _ trivial (fun hHeld => ?_)
      clear hK K
      (try simp only [List.getElem_toArray, List.getElem_cons_zero, List.getElem_cons_succ, Act.put, List.setIfInBounds_toArray, List.set_cons_zero, List.set_cons_succ])
      replace hb := below_next hb hz hv7
      clear hq
      replace ht := ht.behind hv7
      replace hz := Nat.le_trans hz hv7.size
      clear hv7
      (refine wpAnyH_ready (rs := [7]) (by kernel_rfl) (by simp) ?_)
      refine AllReadyH.cons rfl (fun K hK => ?_) AllReadyH.nil
      refine Eq.mpr (if_pos (by kernel_rfl)) ?_
      refine wp_appQ (.tmp 37) (.tmp 39) rfl hq4 ht rfl rfl (by simp only [List.length_cons, List.length_nil]; omega) hz ?_
      intro AQ7 cQ7 v8 hq7 hv8
      refine hK.out _ _ trivial (fun hHeld => ?_)
      clear hK K
      (try simp only [List.getElem_toArray, List.getElem_cons_zero, List.getElem_cons_succ, Act.put, List.setIfInBounds_toArray, List.set_cons_zero, List.set_cons_succ])
      replace hb := hb.trans hv8
      clear hq4 ht
      replace hz := Nat.le_trans hz hv8.size
      clear hv8
      (refine wpAnyH_ready (rs := [11]) (by kernel_rfl) (by simp) ?_)
      refine AllReadyH.cons rfl (fun K hK => ?_) AllReadyH.nil
      refine Eq.mpr (if_pos (by kernel_rfl)) ?_
      refine wp_appQ (.tmp 40) (.tmp 43) rfl hq7 (A2 := (Option.map (fun x => x.add l.length) A)) (m := l.drop l.length) (by rw [List.drop_length]; exact Strs.nil) rfl (by rw [List.drop_length]; rfl) (by simp only [List.length_append, List.length_cons, List.length_nil]; omega) hz ?_
      intro AQ11 cQ11 v9 hq11 hv9
      refine hK.out _ _ trivial (fun hHeld => ?_)
      clear hK K
      (try simp only [List.getElem_toArray, List.getElem_cons_zero, List.getElem_cons_succ, Act.put, List.setIfInBounds_toArray, List.set_cons_zero, List.set_cons_succ])
      replace hb := hb.trans hv9
      clear hq7
      replace hz := Nat.le_trans hz hv9.size
      clear hv9
      (refine wpAnyH_take (i := 12) (v := ?_) rfl (by kernel_rfl) (by kernel_rfl) (by kernel_rfl) (fun _ _ _ h => h) (Or.inl ⟨by rfl, ?_⟩) (by assumption) ?_; rotate_left; (· intro w5 hS5; go_simp <;> with_reducible rfl); (try simp only [List.getElem_toArray, List.getElem_cons_zero, List.getElem_cons_succ, Act.put, List.setIfInBounds_toArray, List.set_cons_zero, List.set_cons_succ]))
      refine wpAnyH_done (by kernel_rfl) ?_ _
      go_wp2_with fail
      go_ret
      exact ⟨AQ11, cQ11, by rw [HLn.out]; rfl, by rw [HP.out]; exact hq11.strs, by rw [HP.out]; exact hq11.1, hq11.2.1, hb⟩
    ·refine Eq.mpr (if_pos (by kernel_rfl)) ?_
     refine wp_build1S (.tmp 38) rfl s rfl ?_
     intro AT v10 ht hv10
     refine hK.out _ _ trivial (fun hHeld => ?_)
     clear hK K
     (try simp only [List.getElem_toArray, List.getElem_cons_zero, List.getElem_cons_succ, Act.put, List.setIfInBounds_toArray, List.set_cons_zero, List.set_cons_succ])
     replace hb := below_next hb hz hv10
     replace hz := Nat.le_trans hz hv10.size
     clear hv10
     (refine wpAnyH_ready (rs := [0]) (by kernel_rfl) (by simp) ?_)
     refine AllReadyH.cons rfl (fun K hK => ?_) AllReadyH.nil
     refine Eq.mpr (if_pos (by kernel_rfl)) ?_
     refine wp_build0S rfl w.heap.size hz ?_
     intro AQ v11 hq hv11
     refine hK.out _ _ trivial (fun hHeld => ?_)
     clear hK K
     (try simp only [List.getElem_toArray, List.getElem_cons_zero, List.getElem_cons_succ, Act.put, List.setIfInBounds_toArray, List.set_cons_zero, List.set_cons_succ])
     replace hb := below_next hb hz hv11
     replace ht := ht.behind hv11
     replace hz := Nat.le_trans hz hv11.size
     clear hv11
     (refine wpAnyH_ready (rs := [4]) (by kernel_rfl) (by simp) ?_)
     refine AllReadyH.cons rfl (fun K hK => ?_) AllReadyH.nil
     refine Eq.mpr (if_pos (by kernel_rfl)) ?_
     refine wp_appQ0 (.tmp 33) (.tmp 36) rfl hq ((hS.behind hb).take l.length) rfl (by rw [hkl]; rfl) (by omega) hz ?_
     intro AQ4 cQ4 v12 hq4 hv12
     refine hK.out _ _ trivial (fun hHeld => ?_)
     clear hK K
     (try simp only [List.getElem_toArray, List.getElem_cons_zero, List.getElem_cons_succ, Act.put, List.setIfInBounds_toArray, List.set_cons_zero, List.set_cons_succ])
     replace hb := below_next hb hz hv12
     clear hq
     replace ht := ht.behind hv12
     replace hz := Nat.le_trans hz hv12.size
     clear hv12
     (refine wpAnyH_ready (rs := [7]) (by kernel_rfl) (by simp) ?_)
     refine AllReadyH.cons rfl (fun K hK => ?_) AllReadyH.nil
     refine Eq.mpr (if_pos (by kernel_rfl)) ?_
     refine wp_appQ (.tmp 37) (.tmp 39) rfl hq4 ht rfl rfl (by simp only [List.length_cons, List.length_nil]; omega) hz ?_
     intro AQ7 cQ7 v13 hq7 hv13
     refine hK.out _ _ trivial (fun hHeld => ?_)
     clear hK K
     (try simp only [List.getElem_toArray, List.getElem_cons_zero, List.getElem_cons_succ, Act.put, List.setIfInBounds_toArray, List.set_cons_zero, List.set_cons_succ])
     replace hb := hb.trans hv13
     clear hq4 ht
     replace hz := Nat.le_trans hz hv13.size
     clear hv13
     (refine wpAnyH_ready (rs := [11]) (by kernel_rfl) (by simp) ?_)
     refine AllReadyH.cons rfl (fun K hK => ?_) AllReadyH.nil
     refine Eq.mpr (if_pos (by kernel_rfl)) ?_
     refine wp_appQ (.tmp 40) (.tmp 43) rfl hq7 (A2 := (Option.map (fun x => x.add l.length) A)) (m := l.drop l.length) (by rw [List.drop_length]; exact Strs.nil) rfl (by rw [List.drop_length]; rfl) (by simp only [List.length_append, List.length_cons, List.length_nil]; omega) hz ?_
     intro AQ11 cQ11 v14 hq11 hv14
     refine hK.out _ _ trivial (fun hHeld => ?_)
     clear hK K
     (try simp only [List.getElem_toArray, List.getElem_cons_zero, List.getElem_cons_succ, Act.put, List.setIfInBounds_toArray, List.set_cons_zero, List.set_cons_succ])
     replace hb := hb.trans hv14
     clear hq7
     replace hz := Nat.le_trans hz hv14.size
     clear hv14
     (refine wpAnyH_take (i := 12) (v := ?_) rfl (by kernel_rfl) (by kernel_rfl) (by kernel_rfl) (fun _ _ _ h => h) (Or.inl ⟨by rfl, ?_⟩) (by assumption) ?_; rotate_left; (· intro w5 hS5; go_simp <;> with_reducible rfl); (try simp only [List.getElem_toArray, List.getElem_cons_zero, List.getElem_cons_succ, Act.put, List.setIfInBounds_toArray, List.set_cons_zero, List.set_cons_succ]))
     refine wpAnyH_done (by kernel_rfl) ?_ _
     go_wp2_with fail
     go_ret
     exact ⟨AQ11, cQ11, by rw [HLn.out]; rfl, by rw [HP.out]; exact hq11.strs, by rw [HP.out]; exact hq11.1, hq11.2.1, hb⟩
end Go.Proofs.YtbhiphjifdnhmaaGreatDoor
namespace Go.Proofs.YtbhiphjifdnhmaaGreatDoor
open Go.RowKit Go.Maps
theorem Rest.more {α : Type} {lt : α → α → Bool} (ho : Ord lt) {p : α → List α} {n : α} {l : List α} (h : Rest lt p n l) (xs : List α) (hx : ∀ x ∈ xs, Rch p n x) : Rest lt p n (putsL lt l xs) :=
 ⟨putsL_inc ho _ _ h.inc, fun x k => ((putsL_mem ho _ _ x).1 k).elim (hx x) (h.re x), fun y hy => (putsL_mem ho _ _ y).2 (.inr (h.st y hy))⟩
theorem putsL_append {α : Type} (lt : α → α → Bool) (l xs ys : List α) : putsL lt l (xs ++ ys) = putsL lt (putsL lt l xs) ys := by simp [putsL]
theorem Strs.none_nil {w : World} {B : Nat} {l : List ByteArray} (h : Strs w B none l) : l = [] := by
 cases l with
 | nil => rfl
 | cons x l => obtain ⟨ad, e, _⟩ := h 0 x rfl; cases e
set_option maxRecDepth 100000 in
set_option maxHeartbeats 4000000 in
theorem rests_any (A : Option Addr) (cap : Nat) (l : List Df) (n : ByteArray) (known : Int) (w : World) (hl : l.length ≤ 1000) (hD : Defs w w.heap.size A l) (U : List ByteArray) (hB : BookOk (bookF l known) U)
  (R : List ByteArray) (hR : Inc ltS R) (hRr : ∀ z, z ∈ R ↔ Rch (prt (bookF l known)) n z) :
  Calls Tryz.prog 105 #[.slice A l.length cap, .string n, .int .i64 known] w fun e w' => ∃ A' c', e = .returned (.slice A' R.length c') ∧ Strs w' w'.heap.size A' R ∧ R.length ≤ c' ∧ c' ≤ maxLen ∧ Below w.heap.size w w' := by
 have HB := Lib.hid hB
 have HRR := Lib.hid (And.intro hR hRr)
 clear hB hR hRr
 obtain ⟨P, hP⟩ : ∃ P, P = partsL (bookF l known) n.data.toList := ⟨_, rfl⟩
 have hPl : P.length ≤ 2 := by rw [hP]; exact parts_two _ _
 have H139 := refParts_any A cap l n known w hl hD
 rw [← hP] at H139
 have HP := Lib.hid hP
 clear hP
 go_enter Tryz.func105, Tryz.ntmps105
 go_wp2_with (go_at_call 139; refine H139.mono ?_; rintro e w1 ⟨A1, c1, rfl, ho1, hb1⟩)
 have hS1 : Strs w1 w1.heap.size A1 P := Strs.of_own ho1
 clear ho1 H139
 go_loopg [9, 7] (P.length) (fun g t9 t7 wq => ∃ (k : Nat) (A2 : Option Addr) (c2 : Nat) (L : List ByteArray), k ≤ P.length ∧ P.length - k ≤ g ∧ t9 = .int .i64 k ∧ t7 = .slice A2 L.length c2 ∧ Hid (L = putsL ltS [] (P.take k)) ∧ L.length ≤ k ∧ Strs wq wq.heap.size A2 L ∧ L.length ≤ c2 ∧ c2 ≤ maxLen ∧ Strs wq wq.heap.size A1 P ∧ Below w.heap.size w wq)
 case atStart => exact ⟨0, none, 0, [], by omega, by omega, rfl, rfl, Lib.hid rfl, by simp, Strs.nil, by simp, by simp, hS1, hb1⟩
 case round =>
  obtain ⟨k, A2, c2, L, hk, hg, rfl, rfl, HL, hLk, hS2, hc2, hcm2, hSP, hb2⟩ := hrel
  have hq : IntKind.i64.wrap ((k : Int) + 1) = (k : Int) + 1 := IntWalk.i64_in _ (by omega)
  have HQ := Lib.hid hq
  clear hq
  by_cases hlt : k < P.length
  ·obtain ⟨x, hx⟩ : ∃ x, P[k]? = some x := ⟨_, List.getElem?_eq_getElem hlt⟩
   obtain ⟨ad, hA, hag, hcx⟩ := hSP k x hx
   subst hA
   have hLx := putL_len (lt := ltS) L x
   have hn : putL ltS L x = putsL ltS [] (P.take (k + 1)) := by
    obtain ⟨q1, q2⟩ := List.getElem?_eq_some_iff.1 hx
    rw [List.take_succ_eq_append_getElem hlt, q2, putsL_snoc, HL.out]
   have HN := Lib.hid hn
   clear hn hx
   go_wp2_with (go_at_call 102; refine (put_any A2 c2 L x _ (by omega) hc2 hcm2 hS2).mono ?_; rintro e w3 ⟨A3, c3, rfl, hS3, hc3, hcm3, hb3⟩)
   go_roundg (P.length - (k + 1))
   case measure => omega
   case rel => exact ⟨k + 1, A3, c3, putL ltS L x, by omega, by omega, by go_num, rfl, HN, by omega, hS3, hc3, hcm3, hSP.behind hb3, below_next hb2 hb2.size hb3⟩
  ·obtain rfl : k = P.length := by omega
   have hR0 : Rest ltS (prt (bookF l known)) n L := by
    have e := HL.out
    rw [List.take_length] at e
    rw [e, HP.out]
    exact Rest.begin ltS_ord _ _
   have HR0 := Lib.hid hR0
   have hLU : L.length ≤ U.length := hR0.size ltS_ord (fun x y hy => HB.out.mem _ y hy)
   have hU := HB.out.few
   clear hR0 HL HQ hS1 hSP hlt hb1 hk hg hPl
   go_wp2_with fail
   go_loopg [10, 7] (2 * U.length + 1) (fun g t10 t7 wq => ∃ (A2 : Option Addr) (c2 : Nat) (L : List ByteArray) (N : Int), t10 = .int .i64 N ∧ t7 = .slice A2 L.length c2 ∧ Hid (Rest ltS (prt (bookF l known)) n L) ∧ Hid (N = (L.length : Int) → roundL ltS (prt (bookF l known)) L L = L) ∧ Hid (2 * (U.length - L.length) + (if N = (L.length : Int) then 0 else 1) ≤ g) ∧ L.length ≤ U.length ∧ Strs wq wq.heap.size A2 L ∧ L.length ≤ c2 ∧ c2 ≤ maxLen ∧ Below w.heap.size w wq)
   case atStart => exact ⟨A2, c2, L, -1, rfl, rfl, HR0, Lib.hid (fun h => by omega), Lib.hid (by split <;> omega), hLU, hS2, hc2, hcm2, hb2⟩
   case round =>
    clear HR0 hLU hS2 hc2 hcm2 hb2
    obtain ⟨A2, c2, L, N, rfl, rfl, HR0, HE, HG, hLU, hS2, hc2, hcm2, hb2⟩ := hrel
    by_cases hN : N = (L.length : Int)
    ·have hRL : R = L := inc_unique ltS_ord R L HRR.out.1 HR0.out.inc fun z => (HRR.out.2 z).trans (HR0.out.end ltS_ord (by rw [HE.out hN]) z).symm
     have HRL := Lib.hid hRL
     clear hRL
     subst hN
     go_wp2_with fail
     go_ret
     rw [HRL.out]
     exact ⟨A2, c2, rfl, hS2, hc2, hcm2, hb2⟩
    ·have HGo := HG.out
     rw [if_neg hN] at HGo
     replace HGo := Lib.hid HGo
     have hNb : (N != (L.length : Int)) = true := bne_iff_ne.2 hN
     have hLl : (0 : Int) ≤ (L.length : Int) := by omega
     clear HE HG
     go_wp2_with fail
     go_loopg [12, 11] (L.length) (fun g t12 t11 wq => ∃ (k : Nat) (A3 : Option Addr) (c3 : Nat) (M : List ByteArray), k ≤ L.length ∧ L.length - k ≤ g ∧ t12 = .int .i64 k ∧ t11 = .slice A3 M.length c3 ∧ Hid (M = putsL ltS L ((L.take k).flatMap (prt (bookF l known)))) ∧ Strs wq wq.heap.size A3 M ∧ M.length ≤ c3 ∧ c3 ≤ maxLen ∧ Strs wq wq.heap.size A2 L ∧ Below w.heap.size w wq)
     case atStart => exact ⟨0, A2, c2, L, by omega, by omega, rfl, rfl, Lib.hid (by simp [putsL]), hS2, hc2, hcm2, hS2, hb2⟩
     case round =>
      clear hS2 hb2
      obtain ⟨k, A3, c3, M, hk, hg, rfl, rfl, HM, hS3, hc3, hcm3, hS2, hb2⟩ := hrel
      have hq : IntKind.i64.wrap ((k : Int) + 1) = (k : Int) + 1 := IntWalk.i64_in _ (by omega)
      have HQ := Lib.hid hq
      clear hq
      have hRM : Rest ltS (prt (bookF l known)) n M := by
       rw [HM.out]
       exact HR0.out.more ltS_ord _ (fun y hy => by
        obtain ⟨z, hz, hy⟩ := List.mem_flatMap.1 hy
        exact (HR0.out.re z (List.mem_of_mem_take hz)).snoc hy)
      have HRM := Lib.hid hRM
      have hMU : M.length ≤ U.length := hRM.size ltS_ord (fun x y hy => HB.out.mem _ y hy)
      clear hRM
      by_cases hlt : k < L.length
      ·obtain ⟨x, hx⟩ : ∃ x, L[k]? = some x := ⟨_, List.getElem?_eq_getElem hlt⟩
       obtain ⟨ad, hA, hag, hcx⟩ := hS2 k x hx
       subst hA
       have hxL : x ∈ L := List.mem_of_getElem? hx
       have hxr := HR0.out.re x hxL
       have HXR := Lib.hid hxr
       have hn : putsL ltS M (prt (bookF l known) x) = putsL ltS L ((L.take (k + 1)).flatMap (prt (bookF l known))) := by
        obtain ⟨q1, q2⟩ := List.getElem?_eq_some_iff.1 hx
        rw [List.take_succ_eq_append_getElem hlt, q2, List.flatMap_append, putsL_append, ← HM.out]
        simp
       have HN := Lib.hid hn
       clear hn hx hxL hxr
       obtain ⟨q, hq⟩ : ∃ q, q = partsL (bookF l known) x.data.toList := ⟨_, rfl⟩
       have hql : q.length ≤ 2 := by rw [hq]; exact parts_two _ _
       have H139 := refParts_any A cap l x known _ hl (hD.behind hb2)
       rw [← hq] at H139
       have HPQ := Lib.hid hq
       clear hq
       go_wp2_with (go_at_call 139; refine H139.mono ?_; rintro e w4 ⟨Aq, cq, rfl, hoq, hb4⟩)
       have hSq : Strs w4 w4.heap.size Aq q := Strs.of_own hoq
       have hS4 := hS3.behind hb4
       have hS5 := hS2.behind hb4
       have hb5 := below_next hb2 hb2.size hb4
       clear hoq H139 hcx hS3 hS2 hb2 hb4
       go_loopg [14, 11] (q.length) (fun g t14 t11 wq => ∃ (j : Nat) (A4 : Option Addr) (c4 : Nat) (M4 : List ByteArray), j ≤ q.length ∧ q.length - j ≤ g ∧ t14 = .int .i64 j ∧ t11 = .slice A4 M4.length c4 ∧ Hid (M4 = putsL ltS M (q.take j)) ∧ Strs wq wq.heap.size A4 M4 ∧ M4.length ≤ c4 ∧ c4 ≤ maxLen ∧ Strs wq wq.heap.size Aq q ∧ Strs wq wq.heap.size (some ad) L ∧ Below w.heap.size w wq)
       case atStart => exact ⟨0, A3, c3, M, by omega, by omega, rfl, rfl, Lib.hid (by simp [putsL]), hS4, hc3, hcm3, hSq, hS5, hb5⟩
       case round =>
        clear hSq hS4 hS5 hb5
        obtain ⟨j, A4, c4, M4, hj, hg4, rfl, rfl, HM4, hS4, hc4, hcm4, hSq, hS5, hb5⟩ := hrel
        have hq : IntKind.i64.wrap ((j : Int) + 1) = (j : Int) + 1 := IntWalk.i64_in _ (by omega)
        have HQ4 := Lib.hid hq
        clear hq
        have hRM4 : Rest ltS (prt (bookF l known)) n M4 := by
         rw [HM4.out]
         exact HRM.out.more ltS_ord _ (fun y hy => by
          have hy' := List.mem_of_mem_take hy
          rw [HPQ.out] at hy'
          exact HXR.out.snoc hy')
        have hMU4 : M4.length ≤ U.length := hRM4.size ltS_ord (fun x y hy => HB.out.mem _ y hy)
        clear hRM4
        by_cases hlt4 : j < q.length
        ·obtain ⟨y, hy⟩ : ∃ y, q[j]? = some y := ⟨_, List.getElem?_eq_getElem hlt4⟩
         obtain ⟨ad4, hA4, hag4, hcy⟩ := hSq j y hy
         subst hA4
         have hn : putL ltS M4 y = putsL ltS M (q.take (j + 1)) := by
          obtain ⟨q1, q2⟩ := List.getElem?_eq_some_iff.1 hy
          rw [List.take_succ_eq_append_getElem hlt4, q2, putsL_snoc, HM4.out]
         have HN4 := Lib.hid hn
         clear hn hy
         go_wp2_with (go_at_call 102; refine (put_any A4 c4 M4 y _ (by omega) hc4 hcm4 hS4).mono ?_; rintro e w6 ⟨A6, c6, rfl, hS6, hc6, hcm6, hb6⟩)
         go_roundg (q.length - (j + 1))
         case measure => omega
         case rel => exact ⟨j + 1, A6, c6, putL ltS M4 y, by omega, by omega, by go_num, rfl, HN4, hS6, hc6, hcm6, hSq.behind hb6, hS5.behind hb6, below_next hb5 hb5.size hb6⟩
        ·obtain rfl : j = q.length := by omega
         have hMn : M4 = putsL ltS L ((L.take (k + 1)).flatMap (prt (bookF l known))) := by
          have e := HM4.out
          rw [List.take_length] at e
          rw [e, ← HN.out, HPQ.out]
          rfl
         have HMN := Lib.hid hMn
         clear hMn
         go_wp2_with fail
         go_roundg (L.length - (k + 1))
         case measure => omega
         case rel => exact ⟨k + 1, A4, c4, M4, by omega, by omega, by go_num, rfl, HMN, hS4, hc4, hcm4, hS5, hb5⟩
      ·obtain rfl : k = L.length := by omega
       have hMr : M = roundL ltS (prt (bookF l known)) L L := by
        have e := HM.out
        rw [List.take_length] at e
        exact e
       have hLM : L.length ≤ M.length := by rw [hMr]; exact putsL_len _ _
       have hE : (L.length : Int) = (M.length : Int) → roundL ltS (prt (bookF l known)) M M = M := fun h => by
        have e : L = M := inc_same ltS_ord HR0.out.inc HRM.out.inc (fun x hx => by rw [hMr]; exact (putsL_mem ltS_ord _ _ x).2 (.inr hx)) (by omega)
        rw [← e, ← hMr, ← e]
       have HE := Lib.hid hE
       have HMe : Hid (2 * (U.length - M.length) + (if (L.length : Int) = (M.length : Int) then 0 else 1) < 2 * (U.length - L.length) + 1) := Lib.hid (by split <;> omega)
       clear hMr hE
       go_wp2_with fail
       go_roundg (2 * (U.length - M.length) + (if (L.length : Int) = (M.length : Int) then 0 else 1))
       case measure => exact Nat.lt_of_lt_of_le HMe.out HGo.out
       case rel => exact ⟨A3, c3, M, L.length, rfl, rfl, HRM, HE, Lib.hid (Nat.le_refl _), hMU, hS3, hc3, hcm3, hb2⟩
end Go.Proofs.YtbhiphjifdnhmaaGreatDoor
