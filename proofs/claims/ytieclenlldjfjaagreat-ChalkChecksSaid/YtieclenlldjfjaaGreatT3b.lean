import Derived.Test.YtieclenlldjfjaaGreatT3
set_option linter.unusedSimpArgs false
set_option linter.unusedVariables false
/- ChalkChecks, function 3, with the contracts of what it calls. -/
namespace Go.Proofs.YtieclenlldjfjaaGreat
open Go.RowKit

theorem ints_nums {w : World} {g : Nat} {t : TypeId} {L : List Int} (h : Blk w g t (nums L)) : Ints w w.heap.size (some ⟨g, 0, none⟩) L := by
  intro k x hx
  have hk : k < L.length := (List.getElem?_eq_some_iff.1 hx).1
  have e : (⟨g, 0, none⟩ : Addr).add k = ⟨g, k, none⟩ := by unfold Addr.add; split <;> simp_all
  refine ⟨_, rfl, h.lt, ?_⟩
  rw [e, h.cell, nums_get hk]
  rw [List.getElem?_eq_getElem hk] at hx
  cases hx
  rfl

theorem Gr.nilG {w : World} {B : Nat} {A : Option Addr} : Gr w B A [] := fun k m h => by simp at h

theorem law3_any (Sy St Ot Mi Ad Sm i : Int) (A : Option Addr) (gcap : Nat) (ms : List Mkg) (l : List Int) (B : Option Addr) (bcap : Nat) (w : World) (hgc : ms.length ≤ gcap) (hgm : gcap ≤ maxLen)
    (hG : Gr w w.heap.size A ms) (hM : Ints w w.heap.size B l) :
    Calls Tryz.prog 3 #[gv Sy St (.slice A ms.length gcap) Ot Mi Ad Sm, .slice B l.length bcap, .int .i64 i] w fun e w' => e = .returned (.bool true) ∧ Below w.heap.size w w' := by
  have hml : ms.length ≤ maxLen := Nat.le_trans hgc hgm
  by_cases hs : fewB ms = true ∧ l.length ≤ 30
  case neg => exact law3_long Sy St Ot Mi Ad Sm i A gcap ms l B bcap w hml hG hs
  have hl : l.length ≤ 1000000 := by omega
  have q1 : decide ((30 : Int) < (l.length : Int)) = false := decide_eq_false (by omega)
  have q2 : decide (30 < l.length) = false := decide_eq_false (by omega)
  have H16 := Lib.hid fun W (h : Gr W W.heap.size A ms) => few_any Sy St Ot Mi Ad Sm A gcap ms W hml h
  rw [hs.1] at H16
  have H25 := Lib.hid fun W (h : Gr W W.heap.size A ms) => check_any Sy St Ot Mi Ad Sm A gcap ms W h
  have H26 := Lib.hid fun W (h : Gr W W.heap.size A ms) => refCheck_any Sy St Ot Mi Ad Sm A gcap ms W h
  have H27 := Lib.hid fun W (h : Ints W W.heap.size B l) => checkMark_any l B bcap W hl h
  have H28 := Lib.hid fun W (h : Ints W W.heap.size B l) => refCheckMark_any l B bcap W hl h
  by_cases hc : chkG Sy St Ot Mi Ad Sm ms = 0
  case neg =>
    refine law3_in Sy St Ot Mi Ad Sm i A gcap ms l B bcap w hG hM q1 q2 (chkG Sy St Ot Mi Ad Sm ms) (chkG Sy St Ot Mi Ad Sm ms) (markErr l) [] [] [] 0 0 0 0 0 0 (by simp) (by simp) (by simp) (by simp) H16 ?_ ?_ ?_ ?_ ?_ ?_ H25 H26 H27 H28
    · exact Lib.hid fun W h => (useless17_bad Sy St Ot Mi Ad Sm A gcap ms W h hc).mono fun e w' ⟨h1, h2⟩ => ⟨none, 0, h1, Ints.nil, h2⟩
    · exact Lib.hid fun W h => (refUseless18_bad Sy St Ot Mi Ad Sm A gcap ms W h hc).mono fun e w' ⟨h1, h2⟩ => ⟨none, 0, h1, Ints.nil, h2⟩
    · exact Lib.hid fun W h => (shortest19_bad Sy St Ot Mi Ad Sm A gcap ms W h hc).mono fun e w' ⟨h1, h2⟩ => ⟨none, 0, h1, Ints.nil, h2⟩
    · exact Lib.hid fun W h => (refShortest20_bad Sy St Ot Mi Ad Sm A gcap ms W h hc).mono fun e w' ⟨h1, h2⟩ => ⟨none, 0, h1, Ints.nil, h2⟩
    · exact Lib.hid fun W h => (without21_bad Sy St Ot Mi Ad Sm A gcap ms W i h hc).mono fun e w' ⟨h1, h2⟩ => ⟨none, 0, h1, Gr.nilG, h2⟩
    · exact Lib.hid fun W h => (refWithout22_bad Sy St Ot Mi Ad Sm A gcap ms W i h hc).mono fun e w' ⟨h1, h2⟩ => ⟨none, 0, h1, Gr.nilG, h2⟩
  case pos =>
    have hN := chkG_zero hc
    obtain ⟨N, hSy⟩ : ∃ N : Nat, Sy = (N : Int) := ⟨Sy.toNat, hN.sy⟩
    subst hSy
    have hNt : (N : Int).toNat = N := by omega
    rw [hNt] at hN
    obtain ⟨s0, hSt⟩ : ∃ s0 : Nat, St = (s0 : Int) + 1 := ⟨(St - 1).toNat, by have := hN.st1; omega⟩
    subst hSt
    have hrng := hN.rng
    have hlen30 := hN.len
    have hit : ∀ m ∈ ms, m.items.length ≤ 3 := fun m hm => (hrng m hm).1
    rw [hc] at H25 H26
    obtain ⟨X, hX, hX2⟩ : ∃ X : List Int, (∀ L, IsUseless N ((s0 : Int) + 1) ms L → L.length ≤ N → L = X) ∧ X.length ≤ 1000000 := by
      by_cases hex : ∃ L, IsUseless N ((s0 : Int) + 1) ms L ∧ L.length ≤ N
      · obtain ⟨X, hX, hXl⟩ := hex
        exact ⟨X, fun L hL _ => useless_same hL hX, by have := hN.n12; omega⟩
      · exact ⟨[], fun L hL hl => absurd ⟨L, hL, hl⟩ hex, by simp⟩
    obtain ⟨Y, hY, hY2⟩ : ∃ Y : List Int, (∀ j, rnd ms (iter ms (List.replicate N (-1)) j) = iter ms (List.replicate N (-1)) j → iter ms (List.replicate N (-1)) j = Y) ∧ Y.length = N := by
      by_cases hex : ∃ j, rnd ms (iter ms (List.replicate N (-1)) j) = iter ms (List.replicate N (-1)) j
      · obtain ⟨j, hj⟩ := hex
        exact ⟨_, fun k hk => iter_same hk hj, ((StOk.start N).iter hN.fit j).len⟩
      · exact ⟨List.replicate N (-1), fun j hj => absurd ⟨j, hj⟩ hex, by simp⟩
    have hYl : Y.length ≤ 1000000 := by have := hN.n12; omega
    have H17 := Lib.hid fun (W : World) (h : Gr W W.heap.size A ms) => (useless17_ok Ot Mi Ad Sm A gcap ms W N s0 hN h hc).mono fun e w' (h : RetUse17 N ((s0 : Int) + 1) ms W e w') =>
      (show ∃ C c, e = .returned (.tuple #[.slice C X.length c, .int .i64 0]) ∧ Ints w' w'.heap.size C X ∧ Below W.heap.size W w' by
        obtain ⟨L, C, c, h1, h2, h3, h4, h5⟩ := h
        have := hX L h2 h3
        subst this
        exact ⟨C, c, h1, h4, h5⟩)
    have H18 := Lib.hid fun (W : World) (h : Gr W W.heap.size A ms) => (refUseless18_ok N s0 Ot Mi Ad Sm A gcap ms W hN h hc).mono fun e w' (h : RetUse18 N ((s0 : Int) + 1) ms W e w') =>
      (show ∃ C c, e = .returned (.agg #[.slice C X.length c, .int .i64 0]) ∧ Ints w' w'.heap.size C X ∧ Below W.heap.size W w' by
        obtain ⟨L, C, c, h1, h2, h3, h4, h5⟩ := h
        have := hX L h2 h3
        subst this
        exact ⟨C, c, h1, h4, h5⟩)
    have H19 := Lib.hid fun (W : World) (h : Gr W W.heap.size A ms) => (shortest19_ok ((s0 : Int) + 1) Ot Mi Ad Sm A gcap ms W N hN h hc).mono fun e w' (h : RetShort19 N ms W e w') =>
      (show ∃ C c, e = .returned (.tuple #[.slice C Y.length c, .int .i64 0]) ∧ Ints w' w'.heap.size C Y ∧ Below W.heap.size W w' by
        obtain ⟨j, C, c, h1, h2, h3, h4⟩ := h
        rw [hY j h2] at h3
        rw [hY2]
        exact ⟨C, c, h1, h3, h4⟩)
    have H20 := Lib.hid fun (W : World) (h : Gr W W.heap.size A ms) => (refShortest20_ok ((s0 : Int) + 1) Ot Mi Ad Sm A gcap ms W N hN h hc).mono fun e w' (h : RetShort20 N ms W e w') =>
      (show ∃ C c, e = .returned (.agg #[.slice C Y.length c, .int .i64 0]) ∧ Ints w' w'.heap.size C Y ∧ Below W.heap.size W w' by
        obtain ⟨j, g, h1, h2, _, h3, h4⟩ := h
        rw [hY j h2] at h3
        rw [hY2]
        exact ⟨_, N, h1, ints_nums h3, h4⟩)
    by_cases hi : 0 ≤ i ∧ i ≤ (ms.length : Int) - 1
    · obtain ⟨k, hk⟩ : ∃ k : Nat, i = (k : Int) := ⟨i.toNat, by omega⟩
      subst hk
      have hkl : k < ms.length := by omega
      obtain ⟨ad, hA, _⟩ := hG.get hkl
      subst hA
      have hMi : ∀ m ∈ ms.eraseIdx k, m.items.length ≤ 3 := fun m hm => hit m (List.mem_of_mem_eraseIdx hm)
      have hMl : (ms.eraseIdx k).length ≤ 30 := by rw [List.length_eraseIdx]; split <;> omega
      refine law3_in (N : Int) ((s0 : Int) + 1) Ot Mi Ad Sm k (some ad) gcap ms l B bcap w hG hM q1 q2 0 0 (markErr l) X Y (ms.eraseIdx k) (N : Int) ((s0 : Int) + 1) Ot Mi Ad Sm hX2 hYl hMl hMi H16 H17 H18 H19 H20 ?_ ?_ H25 H26 H27 H28
      · exact Lib.hid fun W h => without21_ok (N : Int) ((s0 : Int) + 1) Ot Mi Ad Sm (some ad) gcap ms W k hkl hlen30 hit h hc
      · exact Lib.hid fun W h => refWithout22_ok (N : Int) ((s0 : Int) + 1) Ot Mi Ad Sm ad gcap ms W k hkl hlen30 hgc hgm h hc
    · refine law3_in (N : Int) ((s0 : Int) + 1) Ot Mi Ad Sm i A gcap ms l B bcap w hG hM q1 q2 0 1 (markErr l) X Y [] 0 0 0 0 0 0 hX2 hYl (by simp) (by simp) H16 H17 H18 H19 H20 ?_ ?_ H25 H26 H27 H28
      · by_cases h0 : i < 0
        · exact Lib.hid fun W h => (without21_neg (N : Int) ((s0 : Int) + 1) Ot Mi Ad Sm A gcap ms W i h0 h hc).mono fun e w' ⟨h1, h2⟩ => ⟨none, 0, h1, Gr.nilG, h2⟩
        · exact Lib.hid fun W h => (without21_far (N : Int) ((s0 : Int) + 1) Ot Mi Ad Sm A gcap ms W i (by omega) (by omega) h hc).mono fun e w' ⟨h1, h2⟩ => ⟨none, 0, h1, Gr.nilG, h2⟩
      · exact Lib.hid fun W h => (refWithout22_out (N : Int) ((s0 : Int) + 1) Ot Mi Ad Sm A gcap ms W i hi hlen30 h hc).mono fun e w' ⟨h1, h2⟩ => ⟨none, 0, h1, Gr.nilG, h2⟩
end Go.Proofs.YtieclenlldjfjaaGreat
