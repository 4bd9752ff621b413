import Derived.Test.YtieclenlldjfjaaGreatP1
set_option linter.unusedSimpArgs false
set_option linter.unusedVariables false
/- makingsOf 68. -/
namespace Go.Proofs.YtieclenlldjfjaaGreat
open Go.RowKit

theorem wp_itemOf {o : Oper} {a : Act} {K : Act → World → Prop} {Q : Exit → Act → World → Prop} {w : World} (s : Operand)
    (ho : o.op = .call { callee := .value (.func 119), args := #[s], argTypes := #[3] }) (x : Int) (hs : a.eval s = .int .i64 x) (h1 : -20 ≤ x) (h2 : x ≤ 20) (y : Value) (hy : itv x = y)
    (h : K (a.put o.dst y) w) : o.wp Tryz.prog a w K Q := by
  have hc := (itemOf_any x w h1 h2)
  unfold Oper.wp execOp
  simp only [ho, resolve, Sem.run_bind, Sem.run_pure, Result.andThen_ok, List.map_toArray, List.map_cons, List.map_nil, hs]
  go_simp
  refine hc.mono ?_
  rintro e w1 ⟨rfl, rfl⟩
  rw [hy]
  exact h

/-- an item appended to a row of one's own -/
theorem wp_appI {o : Oper} {a : Act} {K : Act → World → Prop} {Q : Exit → Act → World → Prop} {w : World} (s x : Operand)
    (ho : o.op = .call { callee := .builtin .append, args := #[s, x], argTypes := #[196, 196] }) (hty : o.type = 196) (base : Nat) (l : List Int) (n : Nat) (hn : l.length = n) (y : Int) (v : Value) (ad : Addr) (c : Nat)
    (hs : a.eval s = v) (hown : w.ownsRow base 200 1 v n (l.map itv)) (hx : a.eval x = .slice (some ad) 1 c) (hc : w.cell? ad = some (itv y)) (hl : n ≤ 1000000) (hbase : base ≤ w.heap.size)
    (h : ∀ A' c' w', w'.ownsRow base 200 1 (.slice A' (n + 1) c') (n + 1) ((l ++ [y]).map itv) → Below base w w' → K (a.put o.dst (.slice A' (n + 1) c')) w') :
    o.wp Tryz.prog a w K Q := by
  obtain ⟨i0, hi, hz0, hz1, hz2⟩ := info_parts info200
  obtain ⟨v', w', hr, h2, h3, h4⟩ := run_append_own (P := Tryz.prog) w base 196 196 200 i0 .nilIface 1 16 Tryz.underlying196 hi hz0 hz1 hz2 rfl (by decide) v n (l.map itv) hown ad 1 c [itv y] rfl (fun j u hj => by
    cases j with
    | zero => simp at hj; subst hj; simpa [Addr.add] using hc
    | succ j => simp at hj) (fun u hu => by simp at hu; rw [hu]; exact itv_one y) (by simp only [maxLen]; omega) (by omega) hbase
  have hb : Below base w w' := (Below.refl _ _).grown h3 hbase fun k hk => (hown.lt k hk).1
  have e2 : (l ++ [y]).map itv = l.map itv ++ [itv y] := by simp
  have h2' : w'.ownsRow base 200 1 v' (n + 1) ((l ++ [y]).map itv) := by rw [e2]; exact h2
  obtain ⟨A', c', rfl, _, _⟩ := own_form h2'
  unfold Oper.wp execOp
  simp only [ho, hty, resolve, invoke, builtin, Sem.run_bind, Sem.run_pure, Result.andThen_ok, List.map_toArray, List.map_cons, List.map_nil, hs, hx, hr]
  exact h A' c' w' h2' hb

set_option maxRecDepth 100000 in
set_option maxHeartbeats 2000000 in
theorem makingsOf_any (Sy St Ot Mi Ad Sm : Int) (A : Option Addr) (gcap : Nat) (ms : List Mkg) (w : World) (hml : ms.length ≤ 30) (hit : ∀ m ∈ ms, m.items.length ≤ 3 ∧ ∀ x ∈ m.items, -20 ≤ x ∧ x ≤ 20) (hG : Gr w w.heap.size A ms) :
    Calls Tryz.prog 68 #[gv Sy St (.slice A ms.length gcap) Ot Mi Ad Sm] w fun e w' => ∃ g, e = .returned (.slice (some ⟨g, 0, none⟩) ms.length ms.length) ∧ GrI w' w'.heap.size (some ⟨g, 0, none⟩) ms ∧ Below w.heap.size w w' := by
  obtain ⟨i0, hi, hz0, hz1, hz2⟩ := info198z
  have HIT := Lib.hid hit
  clear hit
  have hb0 : Below w.heap.size w (w.alloc (.cells #[.int .i64 Sy, .int .i64 St, .slice A ms.length gcap, .int .i64 Ot, .int .i64 Mi, .int .i64 Ad, .int .i64 Sm] 24)) := below_new _ _
  have kG0 : Blk (w.alloc (.cells #[.int .i64 Sy, .int .i64 St, .slice A ms.length gcap, .int .i64 Ot, .int .i64 Mi, .int .i64 Ad, .int .i64 Sm] 24)) w.heap.size 24 #[.int .i64 Sy, .int .i64 St, .slice A ms.length gcap, .int .i64 Ot, .int .i64 Mi, .int .i64 Ad, .int .i64 Sm] := Blk.new _ _ _
  go_enter Tryz.func68, Tryz.ntmps68
  go_wp2_with (first
    | (at_make; refine wpList_make_full _ rfl _ _ 113 rfl (w.alloc (.cells #[.int .i64 Sy, .int .i64 St, .slice A ms.length gcap, .int .i64 Ot, .int .i64 Mi, .int .i64 Ad, .int .i64 Sm] 24)).heap.size 198 i0 (.agg #[.int .i64 0, .slice none 0 0, .int .i64 0]) 3 Tryz.underlying113 hi hz0 hz1 .i64 .i64 (ms.length : Int) (ms.length : Int) ms.length (by rfl) (by rfl) rfl rfl (by rw [hz2]; omega) (by simp only [maxLen]; omega) (Nat.le_refl _) ?_; intro w2 hown2 hgr2; have hb2 : Below (w.alloc (.cells #[.int .i64 Sy, .int .i64 St, .slice A ms.length gcap, .int .i64 Ot, .int .i64 Mi, .int .i64 Ad, .int .i64 Sm] 24)).heap.size (w.alloc (.cells #[.int .i64 Sy, .int .i64 St, .slice A ms.length gcap, .int .i64 Ot, .int .i64 Mi, .int .i64 Ad, .int .i64 Sm] 24)) w2 := (Below.refl _ _).grown hgr2 (Nat.le_refl _) (fun k hk => (by cases hk)); have kG2 := kG0.below hb2 kG0.lt; obtain a2 : w2.cell? ⟨w.heap.size, 2, none⟩ = some (.slice A ms.length gcap) := kG2.cell 2))
  have hC2 : ∃ C, Blk w2 (w.heap.size + 1) 198 C ∧ C = madeCells (Value.agg #[.int .i64 0, .slice none 0 0, .int .i64 0]).cells (ms.length * 3) := by
    rcases hown2.2 with ⟨hv, _⟩ | ⟨g, cap', cur, hv, _, hg, _, _, h3, h4⟩
    · cases hv
    · cases hv
      have e5 : cur = madeCells (Value.agg #[.int .i64 0, .slice none 0 0, .int .i64 0]).cells (ms.length * 3) := by
        rw [List.take_of_length_le (by simp; omega)] at h4
        apply Array.toList_inj.1
        exact h4
      refine ⟨cur, ?_, e5⟩
      have : (w.alloc (.cells #[.int .i64 Sy, .int .i64 St, .slice A ms.length gcap, .int .i64 Ot, .int .i64 Mi, .int .i64 Ad, .int .i64 Sm] 24)).heap.size = w.heap.size + 1 := by simp
      rw [← this]
      exact hg
  obtain ⟨C, kC2, hCe⟩ := hC2
  have hCs : C.size = ms.length * 3 := by rw [hCe]; simp [madeCells]
  have hCz : Zero C 0 ms.length := by rw [hCe]; exact made_zero _
  have hbw2 := below_next hb0 hb0.size hb2

  clear hCe hown2 hgr2 hb2 kG0 hb0 a2
  go_loopw [15] (fun i wr => ∃ (k : Nat) (C : Array Value), k ≤ ms.length ∧ i = .int .i64 k ∧ Below w.heap.size w wr ∧ Blk wr w.heap.size 24 #[.int .i64 Sy, .int .i64 St, .slice A ms.length gcap, .int .i64 Ot, .int .i64 Mi, .int .i64 Ad, .int .i64 Sm] ∧ Blk wr (w.heap.size + 1) 198 C ∧ C.size = ms.length * 3 ∧ Done wr (w.heap.size + 1) wr.heap.size C ms k ∧ Zero C k ms.length)
    (fun i _ => ms.length - (intOf i).toNat)
  case atStart => exact ⟨0, C, Nat.zero_le _, rfl, hbw2, kG2, kC2, hCs, (fun j m hj => by omega), hCz⟩
  case round =>
    clear hCz hCs kC2 kG2 hbw2
    obtain ⟨k, C, hk, rfl, hb, kG, kC, hCs, hD, hZ⟩ := hrel
    by_cases hlt : k < ms.length
    · obtain ⟨ad, rfl, hB, m0, ⟨IA, icap, m1, n1, n2, hI⟩, m2⟩ := (hG.below hb).get hlt
      have hll2 : (k : Int) < (ms.length : Int) := by omega
      obtain ⟨hil, hix⟩ := HIT.out _ (List.getElem_mem hlt)
      obtain ⟨mk, hmk⟩ : ∃ mk, mk = ms[k] := ⟨_, rfl⟩
      have hgk : ms[k]? = some mk := by rw [hmk]; exact List.getElem?_eq_getElem hlt
      rw [← hmk] at m0 m1 m2 n1 hI hil hix
      clear hmk
      obtain ⟨msym, items, mcost⟩ := mk
      simp only at m0 m1 m2 n1 hI hil hix
      obtain ⟨z0, z1, z2⟩ := hZ k (Nat.le_refl _) hlt
      have hlG := kG.lt
      have hlC := kC.lt
      have y0 : wr.cell? ⟨w.heap.size + 1, k * 3, none⟩ = some (.int .i64 0) := by rw [kC.cell]; exact z0
      have y1 : wr.cell? ⟨w.heap.size + 1, k * 3 + 1, none⟩ = some (.slice none 0 0) := by rw [kC.cell]; exact z1
      have y2 : wr.cell? ⟨w.heap.size + 1, k * 3 + 2, none⟩ = some (.int .i64 0) := by rw [kC.cell]; exact z2
      have v0 := kC.frozen (k * 3)
      have v1 := kC.frozen (k * 3 + 1)
      have v2 := kC.frozen (k * 3 + 2)
      go_wp2_with fail
      obtain ⟨W3, hW3⟩ : ∃ W3, W3 = ((((wr.setCell ⟨w.heap.size + 1, k * 3, none⟩ (.int .i64 msym)).setCell ⟨w.heap.size + 1, k * 3 + 1, none⟩ (.slice none 0 0)).setCell ⟨w.heap.size + 1, k * 3 + 2, none⟩ (.int .i64 mcost)).alloc (.cells #[.int .i64 msym, .slice IA items.length icap, .int .i64 mcost] 105)) := ⟨_, rfl⟩
      have hb3 : Below w.heap.size w W3 := by
        rw [hW3]
        exact (((hb.setCell (p := ⟨w.heap.size + 1, k * 3, none⟩) (by simp) _).setCell (p := ⟨w.heap.size + 1, k * 3 + 1, none⟩) (by simp) _).setCell (p := ⟨w.heap.size + 1, k * 3 + 2, none⟩) (by simp) _).alloc (by simp; exact hb.size) _
      have hsz3 : W3.heap.size = wr.heap.size + 1 := by rw [hW3]; simp
      have kG3 : Blk W3 w.heap.size 24 #[.int .i64 Sy, .int .i64 St, .slice (some ad) ms.length gcap, .int .i64 Ot, .int .i64 Mi, .int .i64 Ad, .int .i64 Sm] := by
        rw [hW3]
        exact (((kG.far (p := ⟨w.heap.size + 1, k * 3, none⟩) (by simp) _).far (p := ⟨w.heap.size + 1, k * 3 + 1, none⟩) (by simp) _).far (p := ⟨w.heap.size + 1, k * 3 + 2, none⟩) (by simp) _).alloc _
      obtain ⟨C3, hC3⟩ : ∃ C3, C3 = ((C.setIfInBounds (k * 3) (.int .i64 msym)).setIfInBounds (k * 3 + 1) (.slice none 0 0)).setIfInBounds (k * 3 + 2) (.int .i64 mcost) := ⟨_, rfl⟩
      have kC3 : Blk W3 (w.heap.size + 1) 198 C3 := by
        rw [hW3, hC3]
        exact (((kC.store (k * 3) _).store (k * 3 + 1) _).store (k * 3 + 2) _).alloc _
      have hC3s : C3.size = ms.length * 3 := by rw [hC3]; simp [hCs]
      have hEl : El C3 k (.int .i64 msym) (.slice none 0 0) (.int .i64 mcost) := by
        rw [hC3]
        refine ⟨?_, ?_, ?_⟩
        · rw [Array.getElem?_setIfInBounds_ne (by omega), Array.getElem?_setIfInBounds_ne (by omega), Array.getElem?_setIfInBounds_self_of_lt (by omega)]
        · rw [Array.getElem?_setIfInBounds_ne (by omega), Array.getElem?_setIfInBounds_self_of_lt (by simp; omega)]
        · rw [Array.getElem?_setIfInBounds_self_of_lt (by simp; omega)]
      have hZ3 : Zero C3 (k + 1) ms.length := fun j h1 h2 => by
        rw [hC3]
        exact (((hZ j (by omega) h2).set_far (by omega) _).set_far (by omega) _).set_far (by omega) _
      have hD3 : Done W3 (w.heap.size + 1) (wr.heap.size + 1) C3 ms k := fun j m hj hm => by
        obtain ⟨IA', cap', e1, e2, e3, e4⟩ := hD j m hj hm
        refine ⟨IA', cap', ?_, e2, e3, ?_⟩
        · rw [hC3]
          exact ((e1.set_far (by omega) _).set_far (by omega) _).set_far (by omega) _
        · refine (e4.moved fun p h1 h2 => ?_).more (by omega)
          rw [hW3, World.cell?_alloc_lt _ _ _ (by simp; exact h2)]
          exact ((World.cell?_setCell_far _ ⟨w.heap.size + 1, k * 3 + 2, none⟩ p _ (by show w.heap.size + 1 ≠ p.block; omega)).trans (World.cell?_setCell_far _ ⟨w.heap.size + 1, k * 3 + 1, none⟩ p _ (by show w.heap.size + 1 ≠ p.block; omega))).trans (World.cell?_setCell_far _ ⟨w.heap.size + 1, k * 3, none⟩ p _ (by show w.heap.size + 1 ≠ p.block; omega))
      rw [← hW3]
      have hIW : Ints W3 w.heap.size IA items := hI.moved fun p hp => (hb3.cell hp).trans (hb.cell hp).symm
      clear hC3 hW3 hD hZ hI hb kG kC y0 y1 y2 v0 v1 v2 z0 z1 z2 m0 m1 m2 hCs
      obtain ⟨B3, hB3⟩ : ∃ B3, B3 = wr.heap.size + 1 := ⟨_, rfl⟩
      have hB3g : w.heap.size + 1 < B3 := by omega
      rw [← hB3] at hD3 hsz3
      clear hB3
      go_loopw [31] (fun i w5 => ∃ (i' : Nat) (A' : Option Addr) (c' : Nat) (C' : Array Value), i' ≤ items.length ∧ i = .int .i64 i' ∧ Below w.heap.size w w5 ∧ Blk w5 w.heap.size 24 #[.int .i64 Sy, .int .i64 St, .slice (some ad) ms.length gcap, .int .i64 Ot, .int .i64 Mi, .int .i64 Ad, .int .i64 Sm] ∧ Blk w5 (w.heap.size + 1) 198 C' ∧ C'.size = ms.length * 3 ∧ Done w5 (w.heap.size + 1) (B3) C' ms k ∧ El C' k (.int .i64 msym) (.slice A' i' c') (.int .i64 mcost) ∧ Zero C' (k + 1) ms.length ∧ B3 ≤ w5.heap.size ∧ w5.ownsRow B3 200 1 (.slice A' i' c') i' ((items.take i').map itv))
        (fun i _ => items.length - (intOf i).toNat)
      case atStart => exact ⟨0, none, 0, C3, Nat.zero_le _, rfl, hb3, kG3, kC3, hC3s, hD3, hEl, hZ3, by omega, World.ownsRow_nil _ _ _ _⟩
      case round =>
        obtain ⟨p, A', c', C', hp, rfl, hb5, kG5, kC5, hC5s, hD5, hEl5, hZ5, hsz5, hown⟩ := hrel
        by_cases hplt : p < items.length
        · have hI5 : Ints wr w.heap.size IA items := hIW.moved fun p hp => (hb5.cell hp).trans (hb3.cell hp).symm
          obtain ⟨ai, rfl, hBi, hci⟩ := hI5.get hplt
          have hll5 : (p : Int) < (items.length : Int) := by omega
          obtain ⟨x1, x2⟩ := hix _ (List.getElem_mem hplt)
          have htk : (items.take (p + 1)).map itv = (items.take p ++ [items[p]]).map itv := by rw [List.take_succ_eq_append_getElem hplt]
          have htl : (items.take p).length = p := by rw [List.length_take]; omega
          obtain ⟨x, hx⟩ : ∃ x, x = items[p] := ⟨_, rfl⟩
          rw [← hx] at hci x1 x2 htk
          have HTK := Lib.hid htk
          clear hx htk
          obtain ⟨tT, tV, hitv⟩ : ∃ tT tV, itv x = .iface tT tV := by
            unfold itv
            split
            · exact ⟨_, _, rfl⟩
            · exact ⟨_, _, rfl⟩
          have HITV := Lib.hid hitv
          have hlC5 := kC5.lt
          have hlG5 := kG5.lt
          have f1 : wr.cell? ⟨w.heap.size + 1, k * 3 + 1, none⟩ = some (.slice A' p c') := by rw [kC5.cell]; exact hEl5.2.1
          have f2 := kC5.frozen (k * 3 + 1)
          have f1a : (wr.alloc (.cells #[.iface tT tV] 200)).cell? ⟨w.heap.size + 1, k * 3 + 1, none⟩ = some (.slice A' p c') := by rw [(kC5.alloc _).cell]; exact hEl5.2.1
          have b7 : Below wr.heap.size wr (wr.drew.alloc (.cells #[.iface tT tV] 200)) := (Below.refl _ _).drew.alloc (by simp) _
          have hown7 := own_below hown b7
          have hz7 : B3 ≤ (wr.drew.alloc (.cells #[.iface tT tV] 200)).heap.size := by have := b7.size; omega
          have hcx : (wr.drew.alloc (.cells #[.iface tT tV] 200)).cell? ⟨wr.drew.heap.size, 0, none⟩ = some (itv x) := by rw [hitv]; exact (Blk.new wr.drew 200 #[.iface tT tV]).cell 0
          clear hitv
          have hp6 : p ≤ 1000000 := by omega
          go_wp2_with fail
          go_region_law (first
            | (rw [if_pos (by rfl)]; refine wp_itemOf _ (by rfl) x (by rfl) x1 x2 _ HITV.out ?_)
            | (rw [if_pos (by rfl)]; refine wp_appI _ _ (by rfl) (by rfl) (B3) (items.take p) p htl x (.slice A' p c') ⟨wr.drew.heap.size, 0, none⟩ 1 (by rfl) hown7 (by rfl) hcx hp6 hz7 ?_; intro A8 c8 w8 hown8 hb8'; have hb8 : Below (B3) wr w8 := (b7.mono (by omega)).trans hb8'; have kC8 := kC5.below hb8 (by omega); have u1 := (kC8.cell (k * 3 + 1)).trans hEl5.2.1; have u2 := kC8.frozen (k * 3 + 1)))
          all_goals (
            have hown9 : (w8.setCell ⟨w.heap.size + 1, k * 3 + 1, none⟩ (.slice A8 (p + 1) c8)).ownsRow B3 200 1 (.slice A8 (p + 1) c8) (p + 1) ((items.take (p + 1)).map itv) := by
              rw [HTK.out]
              exact ownsRow_setCell_below hown8 (a := ⟨w.heap.size + 1, k * 3 + 1, none⟩) hB3g _
            have hb9 : Below w.heap.size w (w8.setCell ⟨w.heap.size + 1, k * 3 + 1, none⟩ (.slice A8 (p + 1) c8)) := (hb5.trans (hb8.mono (by omega))).setCell (p := ⟨w.heap.size + 1, k * 3 + 1, none⟩) (by simp) _
            have kG9 := (kG5.below hb8 (by omega)).far (p := ⟨w.heap.size + 1, k * 3 + 1, none⟩) (by simp) (.slice A8 (p + 1) c8)
            have kC9 := kC8.store (k * 3 + 1) (.slice A8 (p + 1) c8)
            have hsz9 : B3 ≤ (w8.setCell ⟨w.heap.size + 1, k * 3 + 1, none⟩ (.slice A8 (p + 1) c8)).heap.size := by have := hb8.size; simp [World.setCell]; omega
            have hC9 : (C'.setIfInBounds (k * 3 + 1) (.slice A8 (p + 1) c8)).size = ms.length * 3 := by simp [hC5s]
            have hEl9 : El (C'.setIfInBounds (k * 3 + 1) (.slice A8 (p + 1) c8)) k (.int .i64 msym) (.slice A8 (p + 1) c8) (.int .i64 mcost) :=
              ⟨(Array.getElem?_setIfInBounds_ne (by omega)).trans hEl5.1, Array.getElem?_setIfInBounds_self_of_lt (by omega), (Array.getElem?_setIfInBounds_ne (by omega)).trans hEl5.2.2⟩
            have hZ9 : Zero (C'.setIfInBounds (k * 3 + 1) (.slice A8 (p + 1) c8)) (k + 1) ms.length := fun j h1 h2 => (hZ5 j h1 h2).set_far (by omega) _
            have hD9 : Done (w8.setCell ⟨w.heap.size + 1, k * 3 + 1, none⟩ (.slice A8 (p + 1) c8)) (w.heap.size + 1) B3 (C'.setIfInBounds (k * 3 + 1) (.slice A8 (p + 1) c8)) ms k := fun j m hj hm => by
              obtain ⟨IA', cap', e1, e2, e3, e4⟩ := hD5 j m hj hm
              exact ⟨IA', cap', e1.set_far (by omega) _, e2, e3, e4.moved fun q h1 h2 => (World.cell?_setCell_far _ ⟨w.heap.size + 1, k * 3 + 1, none⟩ q _ (by show w.heap.size + 1 ≠ q.block; omega)).trans (hb8.cell h2)⟩
            clear hown8 hb8' hb8 kC8 u1 u2 hD5 hZ5 hEl5 hown hown7
            go_wp2_with fail
            go_roundw
            case rel => exact ⟨p + 1, A8, c8, _, by omega, by go_num, hb9, kG9, kC9, hC9, hD9, hEl9, hZ9, hsz9, hown9⟩
            case measure => simp [intOf]; try omega)
        · obtain rfl : p = items.length := by omega
          rw [List.take_length] at hown
          obtain ⟨A2, c2, e1, e2, e3⟩ := own_form hown
          cases e1
          have hIt := Its.of_own hown hB3g
          have hDn : Done wr (w.heap.size + 1) wr.heap.size C' ms (k + 1) := fun j m hj hm => by
            rcases Nat.lt_or_ge j k with h | h
            · obtain ⟨IA', cap', q1, q2, q3, q4⟩ := hD5 j m h hm
              exact ⟨IA', cap', q1, q2, q3, q4.more hsz5⟩
            · have : j = k := by omega
              subst this
              rw [hgk] at hm
              cases hm
              exact ⟨A', c', hEl5, e2, e3, hIt⟩
          clear hown hD5
          go_wp2_with fail
          go_roundw
          case rel => exact ⟨k + 1, C', by omega, by go_num, hb5, kG5, kC5, hC5s, hDn, hZ5⟩
          case measure => simp [intOf]; try omega
    · obtain rfl : k = ms.length := by omega
      go_wp2_with fail
      go_ret
      exact ⟨w.heap.size + 1, rfl, done_gri kC hD, hb⟩
end Go.Proofs.YtieclenlldjfjaaGreat
