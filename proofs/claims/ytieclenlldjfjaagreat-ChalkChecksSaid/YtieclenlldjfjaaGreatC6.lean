import Derived.Test.YtieclenlldjfjaaGreatC5
import Derived.Test.YtieclenlldjfjaaGreatC4
set_option linter.unusedSimpArgs false
set_option linter.unusedVariables false
/- The reference's without 72. -/
namespace Go.Proofs.YtieclenlldjfjaaGreat
open Go.RowKit

theorem add_add (ad : Addr) (a b : Nat) (ha : 0 < a) : (ad.add a).add b = ad.add (a + b) := by
  unfold Addr.add
  rw [if_neg (show ¬ a = 0 by omega), if_neg (show ¬ a + b = 0 by omega)]
  split
  · rename_i h; subst h; simp
  · simp [Nat.add_assoc]
theorem GI.below' {w w' : World} {B C : Nat} {xs : List Value} {ms : List Mkg} (h : GI w B xs ms) (hC : B ≤ C) (hb : Below C w w') : GI w' B xs ms := fun j m hm => by
  obtain ⟨h1, ⟨IA, icap, h2, h3, h4, h5⟩, h6⟩ := h j m hm
  exact ⟨h1, ⟨IA, icap, h2, h3, h4, h5.moved fun p hp => hb.cell (Nat.lt_of_lt_of_le hp hC)⟩, h6⟩
theorem own_grX {w : World} {base B lo : Nat} {A : Option Addr} {n c : Nat} {xs : List Value} {ms : List Mkg} (h : w.ownsRow base 105 3 (.slice A n c) n xs) (hx : GI w B xs ms) (hB : B ≤ w.heap.size) (hlo : lo ≤ base) (w' : World)
    (hc : ∀ p : Addr, p.block < B ∨ lo ≤ p.block → w'.cell? p = w.cell? p) (hs : w.heap.size ≤ w'.heap.size) : Gr w' w'.heap.size A ms := fun k m hm => by
  obtain ⟨h1, ⟨IA, icap, h2, h3, h4, h5⟩, h6⟩ := hx k m hm
  rcases h.2 with ⟨hv, rfl⟩ | ⟨g, cap, cur, hv, _⟩
  · have := h.1
    simp only [Nat.zero_mul] at this
    have hl : xs = [] := List.eq_nil_of_length_eq_zero this
    subst hl
    simp at h1
  · injection hv with hA
    subst hA
    have ee : ∀ p, (⟨g, 0, none⟩ : Addr).add p = ⟨g, p, none⟩ := fun p => by unfold Addr.add; split <;> simp_all
    have e := ee (k * 3)
    have hlt := h.lt g rfl
    have c1 := h.cells (g := g) rfl _ _ h1
    have c2 := h.cells (g := g) rfl _ _ h2
    have c3 := h.cells (g := g) rfl _ _ h6
    rw [ee] at c1 c2 c3
    have hg : ∀ o, w'.cell? ⟨g, o, none⟩ = w.cell? ⟨g, o, none⟩ := fun o => hc _ (.inr (Nat.le_trans hlo hlt.1))
    refine ⟨_, rfl, Nat.lt_of_lt_of_le hlt.2 hs, ?_, ⟨IA, icap, ?_, h3, h4, (h5.moved fun p hp => hc p (.inl hp)).more (Nat.le_trans hB hs)⟩, ?_⟩
    · rw [e]; exact (hg _).trans c1
    · rw [e]; exact (hg _).trans c2
    · rw [e]; exact (hg _).trans c3
theorem erase_split (ms : List Mkg) (i : Nat) : ms.eraseIdx i = ms.take i ++ ms.drop (i + 1) := List.eraseIdx_eq_take_drop_succ ms i

set_option maxRecDepth 100000 in
set_option maxHeartbeats 2000000 in
theorem refWithout72_any (Sy St Ot Mi Ad Sm : Int) (ad : Addr) (gcap : Nat) (ms : List Mkg) (w : World) (i : Nat) (hi : i < ms.length) (hml : ms.length ≤ 30) (hgc : ms.length ≤ gcap) (hgm : gcap ≤ maxLen) (B : Nat) (hBw : B ≤ w.heap.size) (hG : Gr w B (some ad) ms) :
    Calls Tryz.prog 72 #[gv Sy St (.slice (some ad) ms.length gcap) Ot Mi Ad Sm, .int .i64 (i : Int)] w fun e w' => ∃ A' c', e = .returned (.agg #[.int .i64 Sy, .int .i64 St, .slice A' (ms.eraseIdx i).length c', .int .i64 Ot, .int .i64 Mi, .int .i64 Ad, .int .i64 Sm]) ∧ (∀ w'', (∀ p : Addr, p.block < B ∨ w.heap.size ≤ p.block → w''.cell? p = w'.cell? p) → w'.heap.size ≤ w''.heap.size → Gr w'' w''.heap.size A' (ms.eraseIdx i)) ∧ Below w.heap.size w w' := by
  have hb0 : Below w.heap.size w (((w.alloc (.cells #[.int .i64 Sy, .int .i64 St, .slice (some ad) ms.length gcap, .int .i64 Ot, .int .i64 Mi, .int .i64 Ad, .int .i64 Sm] 24)).alloc (.cells #[.int .i64 0, .int .i64 0, .slice none 0 0, .int .i64 0, .int .i64 0, .int .i64 0, .int .i64 0] 24)).alloc (.cells #[.int .i64 Sy, .int .i64 St, .slice (some ad) ms.length gcap, .int .i64 Ot, .int .i64 Mi, .int .i64 Ad, .int .i64 Sm] 24)) := ((below_new _ _).alloc (by simp) _).alloc (by simp; omega) _
  have kG : Blk (((w.alloc (.cells #[.int .i64 Sy, .int .i64 St, .slice (some ad) ms.length gcap, .int .i64 Ot, .int .i64 Mi, .int .i64 Ad, .int .i64 Sm] 24)).alloc (.cells #[.int .i64 0, .int .i64 0, .slice none 0 0, .int .i64 0, .int .i64 0, .int .i64 0, .int .i64 0] 24)).alloc (.cells #[.int .i64 Sy, .int .i64 St, .slice (some ad) ms.length gcap, .int .i64 Ot, .int .i64 Mi, .int .i64 Ad, .int .i64 Sm] 24)) w.heap.size 24 #[.int .i64 Sy, .int .i64 St, .slice (some ad) ms.length gcap, .int .i64 Ot, .int .i64 Mi, .int .i64 Ad, .int .i64 Sm] := ((Blk.new _ _ _).alloc _).alloc _
  have kR : Blk (((w.alloc (.cells #[.int .i64 Sy, .int .i64 St, .slice (some ad) ms.length gcap, .int .i64 Ot, .int .i64 Mi, .int .i64 Ad, .int .i64 Sm] 24)).alloc (.cells #[.int .i64 0, .int .i64 0, .slice none 0 0, .int .i64 0, .int .i64 0, .int .i64 0, .int .i64 0] 24)).alloc (.cells #[.int .i64 Sy, .int .i64 St, .slice (some ad) ms.length gcap, .int .i64 Ot, .int .i64 Mi, .int .i64 Ad, .int .i64 Sm] 24)) (w.heap.size + 1) 24 #[.int .i64 0, .int .i64 0, .slice none 0 0, .int .i64 0, .int .i64 0, .int .i64 0, .int .i64 0] := (Blk.newAt (by simp)).alloc _
  have kN : Blk (((w.alloc (.cells #[.int .i64 Sy, .int .i64 St, .slice (some ad) ms.length gcap, .int .i64 Ot, .int .i64 Mi, .int .i64 Ad, .int .i64 Sm] 24)).alloc (.cells #[.int .i64 0, .int .i64 0, .slice none 0 0, .int .i64 0, .int .i64 0, .int .i64 0, .int .i64 0] 24)).alloc (.cells #[.int .i64 Sy, .int .i64 St, .slice (some ad) ms.length gcap, .int .i64 Ot, .int .i64 Mi, .int .i64 Ad, .int .i64 Sm] 24)) (w.heap.size + 1 + 1) 24 #[.int .i64 Sy, .int .i64 St, .slice (some ad) ms.length gcap, .int .i64 Ot, .int .i64 Mi, .int .i64 Ad, .int .i64 Sm] := Blk.newAt (by simp)
  obtain ⟨xs, hxl, hx1, hxc, hxg⟩ := gr_cells hG ms.length (Nat.le_refl _)
  rw [List.take_length] at hxg
  have q1 : (i : Int) ≤ (gcap : Int) := by omega
  have q2 : (i : Int) + 1 ≤ (ms.length : Int) := by omega
  have q3 : (ms.length : Int) ≤ (gcap : Int) := by omega
  have q4 : i ≤ gcap := by omega
  have q5 : i + 1 ≤ ms.length := by omega
  have hwr : IntKind.i64.wrap ((i : Int) + 1) = (i : Int) + 1 := by
    have hi30 : (i : Int) < 30 := by omega
    have hi00 : (0 : Int) ≤ (i : Int) := by omega
    simp [IntKind.wrap, IntKind.signed, IntKind.bits, Int.bmod]; omega
  have htn : ((i : Int) + 1).toNat = i + 1 := by omega
  have q6 : 0 ≤ (i : Int) + 1 := by omega
  obtain ⟨ad2, had2, hs2⟩ : ∃ ad2, (if gcap = i + 1 then some ad else some (ad.add ((i + 1) * 3))) = some ad2 ∧ ∀ w', Below w.heap.size w w' → ∀ (j : Nat) (u : Value), (xs.drop ((i + 1) * 3))[j]? = some u → w'.cell? (ad2.add j) = some u := by
    by_cases hgi : gcap = i + 1
    · refine ⟨ad, if_pos hgi, fun w' _ j u hj => ?_⟩
      have : xs.drop ((i + 1) * 3) = [] := List.drop_eq_nil_of_le (by omega)
      rw [this] at hj
      simp at hj
    · refine ⟨_, if_neg hgi, fun w' hb j u hj => ?_⟩
      rw [List.getElem?_drop] at hj
      obtain ⟨ad', e, hB, hc⟩ := hxc _ u hj
      cases e
      rw [add_add _ _ _ (by omega)]
      exact (hb.cell (p := ad.add ((i + 1) * 3 + j)) (by rw [addr_block]; exact Nat.lt_of_lt_of_le hB hBw)).trans hc
  have HAD := Lib.hid had2
  have HS2 := Lib.hid hs2
  clear had2 hs2
  go_enter Tryz.func72, Tryz.ntmps72
  go_wp2_with fail
  have a2 := kG.cell 2
  have a2' : (((w.alloc (.cells #[.int .i64 Sy, .int .i64 St, .slice (some ad) ms.length gcap, .int .i64 Ot, .int .i64 Mi, .int .i64 Ad, .int .i64 Sm] 24)).alloc (.cells #[.int .i64 0, .int .i64 0, .slice none 0 0, .int .i64 0, .int .i64 0, .int .i64 0, .int .i64 0] 24)).alloc (.cells #[.int .i64 Sy, .int .i64 St, .slice (some ad) ms.length gcap, .int .i64 Ot, .int .i64 Mi, .int .i64 Ad, .int .i64 Sm] 24)).cell? ⟨w.heap.size, 2, none⟩ = some (.slice (some ad) ms.length gcap) := a2
  refine wp_region_held_drew (S := fun w' => w'.cell? ⟨w.heap.size, 2, none⟩ = some (.slice (some ad) ms.length gcap)) (by kernel_rfl) a2' (fun hHeld => ?_)
  (refine wpAnyH_take (i := 1) (v := ?_) rfl (by kernel_rfl) (by kernel_rfl) (by kernel_rfl) (fun _ _ _ h => h) (Or.inl ⟨by rfl, ?_⟩) (by assumption) ?_; rotate_left; (· intro w5 hS5; (try dsimp only at hS5); go_simp <;> with_reducible rfl); (try simp only [List.getElem_toArray, List.getElem_cons_zero, List.getElem_cons_succ, Act.put, List.setIfInBounds_toArray, List.set_cons_zero, List.set_cons_succ]))
  (refine wpAnyH_take (i := 2) (v := ?_) rfl (by kernel_rfl) (by kernel_rfl) (by kernel_rfl) (fun _ _ _ h => h) (Or.inl ⟨by rfl, ?_⟩) (by assumption) ?_; rotate_left; (· intro w5 hS5; (try dsimp only at hS5); go_simp <;> with_reducible rfl); (try simp only [List.getElem_toArray, List.getElem_cons_zero, List.getElem_cons_succ, Act.put, List.setIfInBounds_toArray, List.set_cons_zero, List.set_cons_succ]))
  (refine wpAnyH_take (i := 3) (v := ?_) rfl (by kernel_rfl) (by kernel_rfl) (by kernel_rfl) (fun _ _ _ h => h) (Or.inl ⟨by rfl, ?_⟩) (by assumption) ?_; rotate_left; (· intro w5 hS5; (try dsimp only at hS5); go_simp <;> with_reducible rfl); (try simp only [List.getElem_toArray, List.getElem_cons_zero, List.getElem_cons_succ, Act.put, List.setIfInBounds_toArray, List.set_cons_zero, List.set_cons_succ]))
  (refine wpAnyH_take (i := 4) (v := ?_) rfl (by kernel_rfl) (by kernel_rfl) (by kernel_rfl) (fun _ _ _ h => h) (Or.inl ⟨by rfl, ?_⟩) (by assumption) ?_; rotate_left; (· intro w5 hS5; (try dsimp only at hS5); go_simp <;> with_reducible rfl); (try simp only [List.getElem_toArray, List.getElem_cons_zero, List.getElem_cons_succ, Act.put, List.setIfInBounds_toArray, List.set_cons_zero, List.set_cons_succ]))
  (refine wpAnyH_take (i := 6) (v := ?_) rfl (by kernel_rfl) (by kernel_rfl) (by kernel_rfl) (fun _ _ _ h => h) (Or.inl ⟨by rfl, ?_⟩) (by assumption) ?_; rotate_left; (· intro w5 hS5; (try dsimp only at hS5); go_simp <;> with_reducible rfl); (try simp only [List.getElem_toArray, List.getElem_cons_zero, List.getElem_cons_succ, Act.put, List.setIfInBounds_toArray, List.set_cons_zero, List.set_cons_succ]))
  (refine wpAnyH_take (i := 7) (v := ?_) rfl (by kernel_rfl) (by kernel_rfl) (by kernel_rfl) (fun _ _ _ h => h) (Or.inl ⟨by rfl, ?_⟩) (by assumption) ?_; rotate_left; (· intro w5 hS5; (try dsimp only at hS5); go_simp <;> with_reducible rfl); (try simp only [List.getElem_toArray, List.getElem_cons_zero, List.getElem_cons_succ, Act.put, List.setIfInBounds_toArray, List.set_cons_zero, List.set_cons_succ]))
  (refine wpAnyH_take (i := 8) (v := ?_) rfl (by kernel_rfl) (by kernel_rfl) (by kernel_rfl) (fun _ _ _ h => h) (Or.inl ⟨by rfl, ?_⟩) (by assumption) ?_; rotate_left; (· intro w5 hS5; (try dsimp only at hS5); go_simp <;> with_reducible rfl); (try simp only [List.getElem_toArray, List.getElem_cons_zero, List.getElem_cons_succ, Act.put, List.setIfInBounds_toArray, List.set_cons_zero, List.set_cons_succ]))
  (refine wpAnyH_take (i := 9) (v := ?_) rfl (by kernel_rfl) (by kernel_rfl) (by kernel_rfl) (fun _ _ _ h => h) (Or.inl ⟨by rfl, ?_⟩) (by assumption) ?_; rotate_left; (· intro w5 hS5; (try dsimp only at hS5); go_simp <;> with_reducible rfl); (try simp only [List.getElem_toArray, List.getElem_cons_zero, List.getElem_cons_succ, Act.put, List.setIfInBounds_toArray, List.set_cons_zero, List.set_cons_succ]))
  (refine wpAnyH_take (i := 10) (v := ?_) rfl (by kernel_rfl) (by kernel_rfl) (by kernel_rfl) (fun _ _ _ h => h) (Or.inl ⟨by rfl, ?_⟩) (by assumption) ?_; rotate_left; (· intro w5 hS5; (try dsimp only at hS5); go_simp <;> with_reducible rfl); (try simp only [List.getElem_toArray, List.getElem_cons_zero, List.getElem_cons_succ, Act.put, List.setIfInBounds_toArray, List.set_cons_zero, List.set_cons_succ]))
  obtain ⟨i0, hi0, hz0, hz1, hz2⟩ := info105z
  obtain ⟨W, hW⟩ : ∃ W, W = (((w.alloc (.cells #[.int .i64 Sy, .int .i64 St, .slice (some ad) ms.length gcap, .int .i64 Ot, .int .i64 Mi, .int .i64 Ad, .int .i64 Sm] 24)).alloc (.cells #[.int .i64 0, .int .i64 0, .slice none 0 0, .int .i64 0, .int .i64 0, .int .i64 0, .int .i64 0] 24)).alloc (.cells #[.int .i64 Sy, .int .i64 St, .slice (some ad) ms.length gcap, .int .i64 Ot, .int .i64 Mi, .int .i64 Ad, .int .i64 Sm] 24)).drew := ⟨_, rfl⟩
  have hbW : Below w.heap.size w W := by rw [hW]; exact hb0.drew
  have hszW : W.heap.size = w.heap.size + 1 + 1 + 1 := by rw [hW]; simp
  have hown0 : (W.alloc (.cells #[] 105)).ownsRow W.heap.size 105 3 (.slice (some ⟨W.heap.size, 0, none⟩) 0 0) 0 [] := ⟨rfl, .inr ⟨W.heap.size, 0, #[], rfl, Nat.le_refl _, heap_alloc_new W _, Nat.le_refl _, by simp [maxLen], rfl, rfl⟩⟩
  have a2W : W.cell? ⟨w.heap.size, 2, none⟩ = some (.slice (some ad) ms.length gcap) := by rw [hW]; exact a2'
  rw [← hW]
  have hWe := Lib.hid hW
  clear hHeld hW
  (refine wpAnyH_ready (rs := [0]) (by kernel_rfl) (by simp) ?_; refine AllReadyH.cons rfl (fun K hK => ?_) AllReadyH.nil)
  go_simp
  refine hK.out _ _ ((World.cell?_alloc_lt _ _ _ (by show w.heap.size < _; omega)).trans a2W) (fun hH1 => ?_)
  clear hK K
  (try simp only [List.getElem_toArray, List.getElem_cons_zero, List.getElem_cons_succ, Act.put, List.setIfInBounds_toArray, List.set_cons_zero, List.set_cons_succ])
  (refine wpAnyH_ready (rs := [5]) (by kernel_rfl) (by simp) ?_; refine AllReadyH.cons rfl (fun K hK => ?_) AllReadyH.nil)
  rw [if_pos (by rfl)]
  have hs1 : ∀ (j : Nat) (u : Value), (xs.take (i * 3))[j]? = some u → (W.alloc (.cells #[] 105)).cell? (ad.add j) = some u := fun j u hj => by
    rw [List.getElem?_take] at hj
    split at hj
    · obtain ⟨ad', e, hB, hc⟩ := hxc j u hj
      cases e
      exact ((hbW.alloc (by omega) (.cells #[] 105)).cell (p := ad.add j) (by rw [addr_block]; exact Nat.lt_of_lt_of_le hB hBw)).trans hc
    · cases hj
  refine wp_append_own _ _ _ 22 (by rfl) W.heap.size 105 i0 (.agg #[.int .i64 0, .slice none 0 0, .int .i64 0]) 3 40 Tryz.underlying22 hi0 hz0 hz1 hz2 rfl (by decide) (.slice (some ⟨W.heap.size, 0, none⟩) 0 0) 0 [] (by rw [hszW]; rfl) hown0 ad i gcap (xs.take (i * 3)) (by rfl) (by rw [List.length_take]; omega) hs1 (fun u hu => hx1 u (List.mem_of_mem_take hu)) (by simp only [maxLen]; omega) (by omega) (by simp) ?_
  intro v1 w1 hown1 hgr1 _
  obtain ⟨A1, c1, rfl, _, _⟩ := own_form hown1
  have hb1 : Below W.heap.size W w1 := ((Below.refl _ _).alloc (Nat.le_refl _) (.cells #[] 105)).grown hgr1 (by simp) fun k hk => by cases hk; exact Nat.le_refl _
  have hbw1 : Below w.heap.size w w1 := hbW.trans (hb1.mono (by omega))
  refine hK.out _ _ ((hb1.cell (p := ⟨w.heap.size, 2, none⟩) (by show w.heap.size < W.heap.size; omega)).trans a2W) (fun hH2 => ?_)
  clear hK K
  (try simp only [List.getElem_toArray, List.getElem_cons_zero, List.getElem_cons_succ, Act.put, List.setIfInBounds_toArray, List.set_cons_zero, List.set_cons_succ])
  (refine wpAnyH_ready (rs := [11]) (by kernel_rfl) (by simp) ?_; refine AllReadyH.cons rfl (fun K hK => ?_) AllReadyH.nil)
  rw [if_pos (by rfl)]
  refine wp_append_own _ _ _ 22 (by rfl) W.heap.size 105 i0 (.agg #[.int .i64 0, .slice none 0 0, .int .i64 0]) 3 40 Tryz.underlying22 hi0 hz0 hz1 hz2 rfl (by decide) (.slice A1 (0 + i) c1) (0 + i) _ (by rfl) hown1 ad2 (ms.length - (i + 1)) (gcap - (i + 1)) (xs.drop ((i + 1) * 3)) (by rw [← HAD.out]; rfl) (by rw [List.length_drop]; omega) (HS2.out _ hbw1) (fun u hu => hx1 u (List.mem_of_mem_drop hu)) (by simp only [maxLen]; omega) (by omega) (by have := hb1.size; omega) ?_
  intro v2 w2 hown2 hgr2 _
  obtain ⟨A2, c2, rfl, _, _⟩ := own_form hown2
  have hb2 : Below W.heap.size W w2 := hb1.grown hgr2 (by have := hb1.size; omega) fun k hk => (hown1.lt k hk).1
  have hbw2 : Below w.heap.size w w2 := hbW.trans (hb2.mono (by omega))
  have hn : 0 + i + (ms.length - (i + 1)) = (ms.eraseIdx i).length := by rw [List.length_eraseIdx_of_lt hi]; omega
  rw [hn] at hown2 ⊢
  have kN2 : Blk w2 (w.heap.size + 1 + 1) 24 #[.int .i64 Sy, .int .i64 St, .slice (some ad) ms.length gcap, .int .i64 Ot, .int .i64 Mi, .int .i64 Ad, .int .i64 Sm] := (show Blk W (w.heap.size + 1 + 1) 24 #[.int .i64 Sy, .int .i64 St, .slice (some ad) ms.length gcap, .int .i64 Ot, .int .i64 Mi, .int .i64 Ad, .int .i64 Sm] by rw [hWe.out]; exact kN).below hb2 (by omega)
  have kR2 : Blk w2 (w.heap.size + 1) 24 #[.int .i64 0, .int .i64 0, .slice none 0 0, .int .i64 0, .int .i64 0, .int .i64 0, .int .i64 0] := (show Blk W (w.heap.size + 1) 24 #[.int .i64 0, .int .i64 0, .slice none 0 0, .int .i64 0, .int .i64 0, .int .i64 0, .int .i64 0] by rw [hWe.out]; exact kR).below hb2 (by omega)
  have cN2 : w2.cell? ⟨w.heap.size + 1 + 1, 2, none⟩ = some (.slice (some ad) ms.length gcap) := kN2.cell 2
  have fN2 := kN2.frozen 2
  have hS2 : w2.cell? ⟨w.heap.size, 2, none⟩ = some (.slice (some ad) ms.length gcap) := (hb2.cell (p := ⟨w.heap.size, 2, none⟩) (by show w.heap.size < W.heap.size; omega)).trans a2W
  refine hK.out _ _ hS2 (fun hH3 => ?_)
  clear hK K
  (try simp only [List.getElem_toArray, List.getElem_cons_zero, List.getElem_cons_succ, Act.put, List.setIfInBounds_toArray, List.set_cons_zero, List.set_cons_succ])
  (refine wpAnyH_take (i := 12) (v := ?_) rfl (by kernel_rfl) (by kernel_rfl) (by kernel_rfl) (fun _ _ _ h => h) (Or.inl ⟨by rfl, ?_⟩) (by assumption) ?_; rotate_left; (· intro w5 hS5; (try dsimp only at hS5); go_simp <;> with_reducible rfl); (try simp only [List.getElem_toArray, List.getElem_cons_zero, List.getElem_cons_succ, Act.put, List.setIfInBounds_toArray, List.set_cons_zero, List.set_cons_succ]))
  (refine wpAnyH_ready (rs := [13]) (by kernel_rfl) (by simp) ?_; refine AllReadyH.cons rfl (fun K hK => ?_) AllReadyH.nil)
  go_simp
  refine hK.out _ _ ((World.cell?_setCell_far _ ⟨w.heap.size + 1 + 1, 2, none⟩ _ _ (by show w.heap.size + 1 + 1 ≠ w.heap.size; omega)).trans hS2) (fun _ => ?_)
  clear hK K
  (try simp only [List.getElem_toArray, List.getElem_cons_zero, List.getElem_cons_succ, Act.put, List.setIfInBounds_toArray, List.set_cons_zero, List.set_cons_succ])
  refine wpAnyH_done (by kernel_rfl) ?_ _
  have kN3 := kN2.store 2 (.slice A2 (ms.eraseIdx i).length c2)
  have kR3 := kR2.far (p := ⟨w.heap.size + 1 + 1, 2, none⟩) (by simp) (.slice A2 (ms.eraseIdx i).length c2)
  have hb3 : Below w.heap.size w (w2.setCell ⟨w.heap.size + 1 + 1, 2, none⟩ (.slice A2 (ms.eraseIdx i).length c2)) := hbw2.setCell (p := ⟨w.heap.size + 1 + 1, 2, none⟩) (by show w.heap.size ≤ w.heap.size + 1 + 1; omega) _
  obtain ⟨n0, n1, n2, n3, n4, n5, n6⟩ : (w2.setCell ⟨w.heap.size + 1 + 1, 2, none⟩ (.slice A2 (ms.eraseIdx i).length c2)).cell? ⟨w.heap.size + 1 + 1, 0, none⟩ = some (.int .i64 Sy) ∧ (w2.setCell ⟨w.heap.size + 1 + 1, 2, none⟩ (.slice A2 (ms.eraseIdx i).length c2)).cell? ⟨w.heap.size + 1 + 1, 1, none⟩ = some (.int .i64 St) ∧ (w2.setCell ⟨w.heap.size + 1 + 1, 2, none⟩ (.slice A2 (ms.eraseIdx i).length c2)).cell? ⟨w.heap.size + 1 + 1, 2, none⟩ = some (.slice A2 (ms.eraseIdx i).length c2) ∧ (w2.setCell ⟨w.heap.size + 1 + 1, 2, none⟩ (.slice A2 (ms.eraseIdx i).length c2)).cell? ⟨w.heap.size + 1 + 1, 3, none⟩ = some (.int .i64 Ot) ∧ (w2.setCell ⟨w.heap.size + 1 + 1, 2, none⟩ (.slice A2 (ms.eraseIdx i).length c2)).cell? ⟨w.heap.size + 1 + 1, 4, none⟩ = some (.int .i64 Mi) ∧ (w2.setCell ⟨w.heap.size + 1 + 1, 2, none⟩ (.slice A2 (ms.eraseIdx i).length c2)).cell? ⟨w.heap.size + 1 + 1, 5, none⟩ = some (.int .i64 Ad) ∧ (w2.setCell ⟨w.heap.size + 1 + 1, 2, none⟩ (.slice A2 (ms.eraseIdx i).length c2)).cell? ⟨w.heap.size + 1 + 1, 6, none⟩ = some (.int .i64 Sm) := ⟨kN3.cell 0, kN3.cell 1, kN3.cell 2, kN3.cell 3, kN3.cell 4, kN3.cell 5, kN3.cell 6⟩
  obtain ⟨r0, r1, r2, r3, r4, r5, r6⟩ : (w2.setCell ⟨w.heap.size + 1 + 1, 2, none⟩ (.slice A2 (ms.eraseIdx i).length c2)).cell? ⟨w.heap.size + 1, 0, none⟩ = some (.int .i64 0) ∧ (w2.setCell ⟨w.heap.size + 1 + 1, 2, none⟩ (.slice A2 (ms.eraseIdx i).length c2)).cell? ⟨w.heap.size + 1, 1, none⟩ = some (.int .i64 0) ∧ (w2.setCell ⟨w.heap.size + 1 + 1, 2, none⟩ (.slice A2 (ms.eraseIdx i).length c2)).cell? ⟨w.heap.size + 1, 2, none⟩ = some (.slice none 0 0) ∧ (w2.setCell ⟨w.heap.size + 1 + 1, 2, none⟩ (.slice A2 (ms.eraseIdx i).length c2)).cell? ⟨w.heap.size + 1, 3, none⟩ = some (.int .i64 0) ∧ (w2.setCell ⟨w.heap.size + 1 + 1, 2, none⟩ (.slice A2 (ms.eraseIdx i).length c2)).cell? ⟨w.heap.size + 1, 4, none⟩ = some (.int .i64 0) ∧ (w2.setCell ⟨w.heap.size + 1 + 1, 2, none⟩ (.slice A2 (ms.eraseIdx i).length c2)).cell? ⟨w.heap.size + 1, 5, none⟩ = some (.int .i64 0) ∧ (w2.setCell ⟨w.heap.size + 1 + 1, 2, none⟩ (.slice A2 (ms.eraseIdx i).length c2)).cell? ⟨w.heap.size + 1, 6, none⟩ = some (.int .i64 0) := ⟨kR3.cell 0, kR3.cell 1, kR3.cell 2, kR3.cell 3, kR3.cell 4, kR3.cell 5, kR3.cell 6⟩
  obtain ⟨f0, f1, f2, f3, f4, f5, f6⟩ : (w2.setCell ⟨w.heap.size + 1 + 1, 2, none⟩ (.slice A2 (ms.eraseIdx i).length c2)).frozen? ⟨w.heap.size + 1, 0, none⟩ = false ∧ (w2.setCell ⟨w.heap.size + 1 + 1, 2, none⟩ (.slice A2 (ms.eraseIdx i).length c2)).frozen? ⟨w.heap.size + 1, 1, none⟩ = false ∧ (w2.setCell ⟨w.heap.size + 1 + 1, 2, none⟩ (.slice A2 (ms.eraseIdx i).length c2)).frozen? ⟨w.heap.size + 1, 2, none⟩ = false ∧ (w2.setCell ⟨w.heap.size + 1 + 1, 2, none⟩ (.slice A2 (ms.eraseIdx i).length c2)).frozen? ⟨w.heap.size + 1, 3, none⟩ = false ∧ (w2.setCell ⟨w.heap.size + 1 + 1, 2, none⟩ (.slice A2 (ms.eraseIdx i).length c2)).frozen? ⟨w.heap.size + 1, 4, none⟩ = false ∧ (w2.setCell ⟨w.heap.size + 1 + 1, 2, none⟩ (.slice A2 (ms.eraseIdx i).length c2)).frozen? ⟨w.heap.size + 1, 5, none⟩ = false ∧ (w2.setCell ⟨w.heap.size + 1 + 1, 2, none⟩ (.slice A2 (ms.eraseIdx i).length c2)).frozen? ⟨w.heap.size + 1, 6, none⟩ = false := ⟨kR3.frozen 0, kR3.frozen 1, kR3.frozen 2, kR3.frozen 3, kR3.frozen 4, kR3.frozen 5, kR3.frozen 6⟩
  have HOWN := Lib.hid hown2
  have hgi : GI w B ([] ++ xs.take (i * 3) ++ xs.drop ((i + 1) * 3)) (ms.eraseIdx i) := by
    rw [erase_split, List.nil_append]
    exact (hxg.take i).app (by rw [List.length_take, List.length_take]; omega) (hxg.drop (i + 1))
  have HGI := Lib.hid hgi
  clear hown2 hgi hs1 hH1 hH2 hH3 hS2 cN2 fN2 hown1 hown0 a2W a2 a2'
  go_wp2_with fail
  all_goals (
    refine bodyPost_ret (v := .agg #[.int .i64 Sy, .int .i64 St, .slice A2 (ms.eraseIdx i).length c2, .int .i64 Ot, .int .i64 Mi, .int .i64 Ad, .int .i64 Sm]) (results_cell_row (g := w.heap.size + 1) rfl _ _ 24 _ (0, 0) _ rfl (((((((kR3.store 0 (.int .i64 Sy)).store 1 (.int .i64 St)).store 2 (.slice A2 (ms.eraseIdx i).length c2)).store 3 (.int .i64 Ot)).store 4 (.int .i64 Mi)).store 5 (.int .i64 Ad)).store 6 (.int .i64 Sm)) Tryz.underlying24 rfl info24) rfl ?_
    have hbz := (((((((hb3.setCell (p := ⟨w.heap.size + 1, 0, none⟩) (by simp) (.int .i64 Sy)).setCell (p := ⟨w.heap.size + 1, 1, none⟩) (by simp) (.int .i64 St)).setCell (p := ⟨w.heap.size + 1, 2, none⟩) (by simp) (.slice A2 (ms.eraseIdx i).length c2)).setCell (p := ⟨w.heap.size + 1, 3, none⟩) (by simp) (.int .i64 Ot)).setCell (p := ⟨w.heap.size + 1, 4, none⟩) (by simp) (.int .i64 Mi)).setCell (p := ⟨w.heap.size + 1, 5, none⟩) (by simp) (.int .i64 Ad)).setCell (p := ⟨w.heap.size + 1, 6, none⟩) (by simp) (.int .i64 Sm))
    exact ⟨A2, ⟨c2, rfl⟩, own_grX (ownsRow_setCell_below (ownsRow_setCell_below (ownsRow_setCell_below (ownsRow_setCell_below (ownsRow_setCell_below (ownsRow_setCell_below (ownsRow_setCell_below (ownsRow_setCell_below HOWN.out (a := ⟨w.heap.size + 1 + 1, 2, none⟩) (by show w.heap.size + 1 + 1 < W.heap.size; omega) _) (a := ⟨w.heap.size + 1, 0, none⟩) (by show w.heap.size + 1 < W.heap.size; omega) _) (a := ⟨w.heap.size + 1, 1, none⟩) (by show w.heap.size + 1 < W.heap.size; omega) _) (a := ⟨w.heap.size + 1, 2, none⟩) (by show w.heap.size + 1 < W.heap.size; omega) _) (a := ⟨w.heap.size + 1, 3, none⟩) (by show w.heap.size + 1 < W.heap.size; omega) _) (a := ⟨w.heap.size + 1, 4, none⟩) (by show w.heap.size + 1 < W.heap.size; omega) _) (a := ⟨w.heap.size + 1, 5, none⟩) (by show w.heap.size + 1 < W.heap.size; omega) _) (a := ⟨w.heap.size + 1, 6, none⟩) (by show w.heap.size + 1 < W.heap.size; omega) _) (HGI.out.below' hBw hbz) (Nat.le_trans hBw hbz.size) (show w.heap.size ≤ W.heap.size by omega), hbz⟩)
end Go.Proofs.YtieclenlldjfjaaGreat
