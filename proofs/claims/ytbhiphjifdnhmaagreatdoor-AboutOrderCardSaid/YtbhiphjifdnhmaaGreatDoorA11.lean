import Derived.Test.YtbhiphjifdnhmaaGreatDoorA6
import Derived.Test.YtbhiphjifdnhmaaGreatDoorM4
import Derived.RegionTactic
/- The closures of what is asked of two vague days. -/
namespace Go.Proofs.YtbhiphjifdnhmaaGreatDoor
open Go.RowKit

/-- two numbers in a cell are returned -/
theorem resP1 {fn : Func} {p : Tmp} (h : fn.results = #[.cell p 46]) (tmps : Array Value) (w : World) {g : Nat} {T : TypeId} {x y : Value} (hB : Blk w g T #[x, y])
    (hp : tmps.getD p undef = .pointer (some ⟨g, 0, none⟩)) : (results fn tmps).run Tryz.prog w = .ok (.agg #[x, y]) w :=
  results_cell_row h tmps w g T _ (0, 0) _ hp hB Tryz.underlying46 rfl (by kernel_rfl)
set_option maxHeartbeats 400000 in
theorem soBefore_any (x y : Int) (w : World) : Calls Tryz.prog 109 #[.agg #[.int .i64 x, .int .i64 y]] w fun e w' => e = .returned (.bool (qBefore.so x y)) ∧ Below w.heap.size w w' := by
  go_enter Tryz.func109, Tryz.ntmps109
  go_wp2
  go_ret
  exact ⟨rfl, below_new _ _⟩
set_option maxHeartbeats 400000 in
theorem bestBefore_any (s0 s1 t0 t1 : Int) (w : World) : Calls Tryz.prog 110 #[.agg #[.int .i64 s0, .int .i64 s1], .agg #[.int .i64 t0, .int .i64 t1]] w fun e w' => e = .returned (.agg #[.int .i64 (qBefore.best s0 s1 t0 t1).1, .int .i64 (qBefore.best s0 s1 t0 t1).2]) ∧ Below w.heap.size w w' := by
  go_enter Tryz.func110, Tryz.ntmps110
  go_wp2
  exact bodyPost_ret (v := .agg #[.int .i64 (qBefore.best s0 s1 t0 t1).1, .int .i64 (qBefore.best s0 s1 t0 t1).2]) (by simp [results, Tryz.results110, go_sem, qBefore]) rfl ⟨rfl, ((below_new _ _).alloc (by simp) _).alloc (by simp; omega) _⟩
set_option maxHeartbeats 400000 in
theorem worstBefore_any (s0 s1 t0 t1 : Int) (w : World) : Calls Tryz.prog 111 #[.agg #[.int .i64 s0, .int .i64 s1], .agg #[.int .i64 t0, .int .i64 t1]] w fun e w' => e = .returned (.agg #[.int .i64 (qBefore.worst s0 s1 t0 t1).1, .int .i64 (qBefore.worst s0 s1 t0 t1).2]) ∧ Below w.heap.size w w' := by
  go_enter Tryz.func111, Tryz.ntmps111
  go_wp2
  exact bodyPost_ret (v := .agg #[.int .i64 (qBefore.worst s0 s1 t0 t1).1, .int .i64 (qBefore.worst s0 s1 t0 t1).2]) (by simp [results, Tryz.results111, go_sem, qBefore]) rfl ⟨rfl, ((below_new _ _).alloc (by simp) _).alloc (by simp; omega) _⟩
set_option maxHeartbeats 400000 in
theorem apart_any (x y : Int) (w : World) (h0 : -3000 ≤ x ∧ x ≤ 3000) (h1 : -3000 ≤ y ∧ y ≤ 3000) : Calls Tryz.prog 114 #[.agg #[.int .i64 x, .int .i64 y]] w fun e w' => e = .returned (.int .i64 (apartI x y)) ∧ Below w.heap.size w w' := by
  go_enter Tryz.func114, Tryz.ntmps114
  go_wp2
  all_goals
    go_ret
    exact ⟨ret_int (by unfold apartI; omega), below_new _ _⟩
set_option maxHeartbeats 400000 in
theorem nearest_any (s0 s1 n : Int) (w : World) : Calls Tryz.prog 116 #[.agg #[.int .i64 s0, .int .i64 s1], .int .i64 n] w fun e w' => e = .returned (.int .i64 (near1 s0 s1 n)) ∧ Below w.heap.size w w' := by
  go_enter Tryz.func116, Tryz.ntmps116
  go_wp2
  all_goals
    go_ret
    exact ⟨ret_int (by unfold near1; omega), below_new _ _⟩
set_option maxHeartbeats 400000 in
theorem soNear_any (most x y : Int) (p : Nat) (w : World) (hp : w.cell? ⟨p, 0, none⟩ = some (.int .i64 most)) (h0 : -3000 ≤ x ∧ x ≤ 3000) (h1 : -3000 ≤ y ∧ y ≤ 3000) : Calls Tryz.prog 113 #[.agg #[.int .i64 x, .int .i64 y], .pointer (some ⟨p, 0, none⟩)] w fun e w' => e = .returned (.bool ((qNear most).so x y)) ∧ Below w.heap.size w w' := by
  have hp1 := keepL (below_new w (.cells #[.int .i64 x, .int .i64 y] 46)) hp
  obtain ⟨c0, c1⟩ := (Blk.new w 46 #[.int .i64 x, .int .i64 y]).two
  go_enter Tryz.func113, Tryz.ntmps113
  go_wp2_with fail
  go_region_held3 (fun w' => w'.cell? ⟨p, 0, none⟩ = some (.int .i64 most) ∧ w'.cell? ⟨w.heap.size, 0, none⟩ = some (.int .i64 x) ∧ w'.cell? ⟨w.heap.size, 1, none⟩ = some (.int .i64 y)) (first | exact K3 | exact ⟨hp1, c0, c1⟩)
    ((go_at_call 114; refine (apart_any _ _ _ h0 h1).mono ?_; rintro e w3 ⟨rfl, hb3⟩; have K3 := And.intro (keepL hb3 hp1) (And.intro (keepL hb3 c0) (keepL hb3 c1))))
  go_wp2
  go_ret
  exact ⟨rfl, below_next (below_new _ _).drew (by simp) hb3⟩
set_option maxHeartbeats 800000 in
theorem bestNear_any (most s0 s1 t0 t1 : Int) (w : World) : Calls Tryz.prog 115 #[.agg #[.int .i64 s0, .int .i64 s1], .agg #[.int .i64 t0, .int .i64 t1]] w fun e w' => e = .returned (.agg #[.int .i64 ((qNear most).best s0 s1 t0 t1).1, .int .i64 ((qNear most).best s0 s1 t0 t1).2]) ∧ Below w.heap.size w w' := by
  have hS := ((Blk.new w 23 #[.int .i64 s0, .int .i64 s1]).alloc (.cells #[.int .i64 t0, .int .i64 t1] 23)).alloc (.cells #[.int .i64 0, .int .i64 0] 46)
  have hZ : Blk (((w.alloc (.cells #[.int .i64 s0, .int .i64 s1] 23)).alloc (.cells #[.int .i64 t0, .int .i64 t1] 23)).alloc (.cells #[.int .i64 0, .int .i64 0] 46)) (w.heap.size + 1 + 1) 46 #[.int .i64 0, .int .i64 0] := Blk.newAt (by simp)
  have hb0 : Below w.heap.size w (((w.alloc (.cells #[.int .i64 s0, .int .i64 s1] 23)).alloc (.cells #[.int .i64 t0, .int .i64 t1] 23)).alloc (.cells #[.int .i64 0, .int .i64 0] 46)) := ((below_new _ _).alloc (by simp) _).alloc (by simp; omega) _
  go_enter Tryz.func115, Tryz.ntmps115
  go_wp2_with fail
  refine (nearest_any _ _ _ _).mono ?_
  rintro e w1 ⟨rfl, hb1⟩
  have hS1 := hS.below hb1 (by simp; omega)
  have hZ1 := hZ.below hb1 (by simp)
  obtain ⟨c0, c1⟩ := hS1.two
  have hz1 : w.heap.size + 1 + 1 + 1 ≤ w1.heap.size := by have := hb1.size; simpa using this
  obtain ⟨y, hy⟩ : ∃ y, y = near1 t0 t1 s0 := ⟨_, rfl⟩
  rw [← hy]
  have HY := Lib.hid hy
  clear hy
  go_wp2_with (go_at_call 116; refine (nearest_any _ _ _ _).mono ?_; rintro e w2 ⟨rfl, hb2⟩; obtain ⟨d0, d1⟩ := (hZ1.below hb2 (by omega)).two; obtain ⟨d2, d3⟩ := (hZ1.below hb2 (by omega)).two_frozen)
  refine bodyPost_ret (resP1 rfl _ _ ((hZ1.below hb2 (by omega)).twoStore _ _) rfl) rfl ⟨?_, ((below_next (below_next hb0 (by simp; omega) hb1) (by omega) hb2).setCell (by show _ ≤ w.heap.size + 1 + 1; omega) _).setCell (by show _ ≤ w.heap.size + 1 + 1; omega) _⟩
  rw [HY.out]; rfl
end Go.Proofs.YtbhiphjifdnhmaaGreatDoor

/- The worst numbers of Near; the closures of In. -/
namespace Go.Proofs.YtbhiphjifdnhmaaGreatDoor
open Go.RowKit

theorem keepStore {W : World} {p q r g i0 i1 i2 i3 : Nat} {a b c d : Value} (h : W.cell? ⟨p, i0, none⟩ = some a ∧ W.cell? ⟨q, i1, none⟩ = some b ∧ W.cell? ⟨q, i2, none⟩ = some c ∧ W.cell? ⟨r, i3, none⟩ = some d) (x y : Int) (hp : p ≠ g) (hq : q ≠ g) (hr : r ≠ g) :
    ((W.setCell ⟨g, 0, none⟩ (.int .i64 x)).setCell ⟨g, 1, none⟩ (.int .i64 y)).cell? ⟨p, i0, none⟩ = some a ∧ ((W.setCell ⟨g, 0, none⟩ (.int .i64 x)).setCell ⟨g, 1, none⟩ (.int .i64 y)).cell? ⟨q, i1, none⟩ = some b ∧ ((W.setCell ⟨g, 0, none⟩ (.int .i64 x)).setCell ⟨g, 1, none⟩ (.int .i64 y)).cell? ⟨q, i2, none⟩ = some c ∧ ((W.setCell ⟨g, 0, none⟩ (.int .i64 x)).setCell ⟨g, 1, none⟩ (.int .i64 y)).cell? ⟨r, i3, none⟩ = some d := by
  have key : ∀ (W : World) (b o i : Nat) (u : Value), b ≠ g → (W.setCell ⟨g, i, none⟩ u).cell? ⟨b, o, none⟩ = W.cell? ⟨b, o, none⟩ := fun W b o i u hb => World.cell?_of_block (heap_setCell_other W ⟨g, i, none⟩ b u hb)
  rw [key _ _ _ _ _ hp, key _ _ _ _ _ hp, key _ _ _ _ _ hq, key _ _ _ _ _ hq, key _ _ _ _ _ hq, key _ _ _ _ _ hq, key _ _ _ _ _ hr, key _ _ _ _ _ hr]
  exact h
set_option maxHeartbeats 400000 in
theorem soIn_any (lo hi x y : Int) (p : Nat) (w : World) (hp : w.cell? ⟨p, 0, none⟩ = some (.int .i64 lo)) (hq : w.cell? ⟨p, 1, none⟩ = some (.int .i64 hi)) : Calls Tryz.prog 118 #[.agg #[.int .i64 x, .int .i64 y], .pointer (some ⟨p, 0, none⟩)] w fun e w' => e = .returned (.bool ((qIn lo hi).so x y)) ∧ Below w.heap.size w w' := by
  have hp1 := keepL (below_new w (.cells #[.int .i64 x, .int .i64 y] 46)) hp
  have hq1 := keepL (below_new w (.cells #[.int .i64 x, .int .i64 y] 46)) hq
  go_enter Tryz.func118, Tryz.ntmps118
  go_wp2_with (go_at_call 76; refine (has_any _ _ _ _).mono ?_; rintro e w3 ⟨rfl, hb3⟩)
  go_ret
  exact ⟨rfl, below_next (below_new _ _) (by simp) hb3⟩
set_option maxHeartbeats 800000 in
theorem bestIn_any (lo hi s0 s1 t0 t1 : Int) (p : Nat) (w : World) (hp : w.cell? ⟨p, 0, none⟩ = some (.int .i64 lo)) : Calls Tryz.prog 119 #[.agg #[.int .i64 s0, .int .i64 s1], .agg #[.int .i64 t0, .int .i64 t1], .pointer (some ⟨p, 0, none⟩)] w fun e w' => e = .returned (.agg #[.int .i64 ((qIn lo hi).best s0 s1 t0 t1).1, .int .i64 ((qIn lo hi).best s0 s1 t0 t1).2]) ∧ Below w.heap.size w w' := by
  obtain ⟨W, hW⟩ : ∃ W, W = ((w.alloc (.cells #[.int .i64 s0, .int .i64 s1] 23)).alloc (.cells #[.int .i64 t0, .int .i64 t1] 23)).alloc (.cells #[.int .i64 0, .int .i64 0] 46) := ⟨_, rfl⟩
  have hS : Blk W w.heap.size 23 #[.int .i64 s0, .int .i64 s1] := by rw [hW]; exact ((Blk.new w 23 #[.int .i64 s0, .int .i64 s1]).alloc (.cells #[.int .i64 t0, .int .i64 t1] 23)).alloc (.cells #[.int .i64 0, .int .i64 0] 46)
  have hT : Blk W (w.heap.size + 1) 23 #[.int .i64 t0, .int .i64 t1] := by rw [hW]; exact (Blk.newAt (by simp)).alloc _
  have hZ : Blk W (w.heap.size + 1 + 1) 46 #[.int .i64 0, .int .i64 0] := by rw [hW]; exact Blk.newAt (by simp)
  have hb0 : Below w.heap.size w W := by rw [hW]; exact ((below_new _ _).alloc (by simp) _).alloc (by simp; omega) _
  have hp1 := keepL hb0 hp
  obtain ⟨c0, c1⟩ := hS.two
  obtain ⟨d0, d1⟩ := hT.two
  have hz := hZ.lt
  obtain ⟨y, hy⟩ : ∃ y, y = near1 s0 s1 lo := ⟨_, rfl⟩
  have HY := Lib.hid hy
  clear hy
  go_enter Tryz.func119, Tryz.ntmps119
  go_wp2_with fail
  rw [← hW]
  clear hW
  go_region_held3 (fun w' => w'.cell? ⟨p, 0, none⟩ = some (.int .i64 lo) ∧ w'.cell? ⟨w.heap.size, 0, none⟩ = some (.int .i64 s0) ∧ w'.cell? ⟨w.heap.size, 1, none⟩ = some (.int .i64 s1) ∧ w'.cell? ⟨w.heap.size + 1, 0, none⟩ = some (.int .i64 t0)) (first | exact K3 | exact ⟨hp1, c0, c1, d0⟩ | exact K4)
    ((go_at_call 116; refine (nearest_any _ _ _ _).mono ?_; rw [← HY.out]; rintro e w3 ⟨rfl, hb3⟩; have K3 := And.intro (keepL hb3 hp1) (And.intro (keepL hb3 c0) (And.intro (keepL hb3 c1) (keepL hb3 d0))); have hZ3 := Blk.below (w := W.drew) hZ hb3 hz; obtain ⟨e0, e1⟩ := hZ3.two; obtain ⟨e2, e3⟩ := hZ3.two_frozen; have K4 := keepStore K3 y t0 (show p ≠ w.heap.size + 1 + 1 by have := World.block_lt_of_cell? w _ hp; simp at this; omega) (show w.heap.size ≠ w.heap.size + 1 + 1 by omega) (show w.heap.size + 1 ≠ w.heap.size + 1 + 1 by omega)))
  go_wp2
  refine bodyPost_ret (resP1 rfl _ _ (hZ3.twoStore _ _) rfl) rfl ⟨?_, ((below_next hb0.drew (by simp; omega) hb3).setCell (by show _ ≤ w.heap.size + 1 + 1; omega) _).setCell (by show _ ≤ w.heap.size + 1 + 1; omega) _⟩
  rw [HY.out]; rfl
set_option maxHeartbeats 800000 in
theorem worstIn_any (lo hi s0 s1 t0 t1 : Int) (p : Nat) (w : World) (hp : w.cell? ⟨p, 0, none⟩ = some (.int .i64 lo)) (hq : w.cell? ⟨p, 1, none⟩ = some (.int .i64 hi)) : Calls Tryz.prog 120 #[.agg #[.int .i64 s0, .int .i64 s1], .agg #[.int .i64 t0, .int .i64 t1], .pointer (some ⟨p, 0, none⟩)] w fun e w' => e = .returned (.agg #[.int .i64 ((qIn lo hi).worst s0 s1 t0 t1).1, .int .i64 ((qIn lo hi).worst s0 s1 t0 t1).2]) ∧ Below w.heap.size w w' := by
  obtain ⟨W, hW⟩ : ∃ W, W = ((w.alloc (.cells #[.int .i64 s0, .int .i64 s1] 23)).alloc (.cells #[.int .i64 t0, .int .i64 t1] 23)).alloc (.cells #[.int .i64 0, .int .i64 0] 46) := ⟨_, rfl⟩
  have hS : Blk W w.heap.size 23 #[.int .i64 s0, .int .i64 s1] := by rw [hW]; exact ((Blk.new w 23 #[.int .i64 s0, .int .i64 s1]).alloc (.cells #[.int .i64 t0, .int .i64 t1] 23)).alloc (.cells #[.int .i64 0, .int .i64 0] 46)
  have hT : Blk W (w.heap.size + 1) 23 #[.int .i64 t0, .int .i64 t1] := by rw [hW]; exact (Blk.newAt (by simp)).alloc _
  have hZ : Blk W (w.heap.size + 1 + 1) 46 #[.int .i64 0, .int .i64 0] := by rw [hW]; exact Blk.newAt (by simp)
  have hb0 : Below w.heap.size w W := by rw [hW]; exact ((below_new _ _).alloc (by simp) _).alloc (by simp; omega) _
  have hp1 := keepL hb0 hp
  have hq1 := keepL hb0 hq
  rw [hW] at hp1 hq1
  cases hd : (decide (lo ≤ s0) && decide (s0 ≤ hi))
  all_goals
    have HD := Lib.hid hd
    have HQ := Lib.hid (show (qIn lo hi).worst s0 s1 t0 t1 = if (decide (lo ≤ s0) && decide (s0 ≤ hi)) = true then (s1, t0) else (s0, t0) from rfl)
    rw [hd] at HQ
    clear hd
    go_enter Tryz.func120, Tryz.ntmps120
    go_wp2_with (go_at_call 76; refine (has_any _ _ _ _).mono ?_; rw [HD.out, ← hW]; rintro e w3 ⟨rfl, hb3⟩; obtain ⟨c0, c1⟩ := (hS.below hb3 hS.lt).two; obtain ⟨d0, d1⟩ := (hT.below hb3 hT.lt).two; have hZ3 := hZ.below hb3 hZ.lt; obtain ⟨e0, e1⟩ := hZ3.two; obtain ⟨e2, e3⟩ := hZ3.two_frozen)
    refine bodyPost_ret (resP1 rfl _ _ (hZ3.twoStore _ _) rfl) rfl ⟨?_, ((below_next hb0 hb0.size hb3).setCell (by show _ ≤ w.heap.size + 1 + 1; omega) _).setCell (by show _ ≤ w.heap.size + 1 + 1; omega) _⟩
    rw [HQ.out]; rfl

set_option maxHeartbeats 1600000 in
theorem worstNear_any (most s0 s1 t0 t1 : Int) (w : World) (h0 : -3000 ≤ s0 ∧ s0 ≤ 3000) (h1 : -3000 ≤ s1 ∧ s1 ≤ 3000) (h2 : -3000 ≤ t0 ∧ t0 ≤ 3000) (h3 : -3000 ≤ t1 ∧ t1 ≤ 3000) : Calls Tryz.prog 117 #[.agg #[.int .i64 s0, .int .i64 s1], .agg #[.int .i64 t0, .int .i64 t1]] w fun e w' => e = .returned (.agg #[.int .i64 ((qNear most).worst s0 s1 t0 t1).1, .int .i64 ((qNear most).worst s0 s1 t0 t1).2]) ∧ Below w.heap.size w w' := by
  go_enter Tryz.func117, Tryz.ntmps117
  go_wp2_with fail
  go_region
  · obtain ⟨W2, hW2, h5, h6, hZ, hb0⟩ : ∃ W2, W2 = (((((w.alloc (.cells #[.int .i64 s0, .int .i64 s1] 23)).alloc (.cells #[.int .i64 t0, .int .i64 t1] 23)).alloc (.cells #[.int .i64 0, .int .i64 0] 46)).alloc (.cells #[.int .i64 s0, .int .i64 t1] 46)).alloc (.cells #[.int .i64 s1, .int .i64 t0] 46)).drew ∧ Blk W2 (w.heap.size + 1 + 1 + 1) 46 #[.int .i64 s0, .int .i64 t1] ∧ Blk W2 (w.heap.size + 1 + 1 + 1 + 1) 46 #[.int .i64 s1, .int .i64 t0] ∧ Blk W2 (w.heap.size + 1 + 1) 46 #[.int .i64 0, .int .i64 0] ∧ Below w.heap.size w W2 :=
      ⟨_, rfl, ((Blk.newAt (by simp)).alloc _).drewN 1, (Blk.newAt (by simp)).drewN 1, ((Blk.newAt (by simp)).alloc _).alloc _, (((((below_new _ _).alloc (by simp) _).alloc (by simp; omega) _).alloc (by simp; omega) _).alloc (by simp; omega) _).drew⟩
    rw [← hW2]
    clear hW2
    obtain ⟨c0, c1⟩ := h5.two
    obtain ⟨d0, d1⟩ := h6.two
    have hz5 := h5.lt
    have hz6 := h6.lt
    have hzz := hZ.lt
    generalize w.heap.size + 1 + 1 + 1 + 1 = g6 at h6 d0 d1 hz6 ⊢
    generalize w.heap.size + 1 + 1 + 1 = g5 at h5 c0 c1 hz5 ⊢
    cases hd : decide (apartI s1 t0 < apartI s0 t1)
    all_goals
      have HQ := Lib.hid (show (qNear most).worst s0 s1 t0 t1 = if apartI s1 t0 < apartI s0 t1 then (s0, t1) else (s1, t0) from rfl)
      go_wp2_with fail
      go_region_held3 (fun w' => w'.cell? ⟨g5, 0, none⟩ = some (.int .i64 s0) ∧ w'.cell? ⟨g5, 1, none⟩ = some (.int .i64 t1) ∧ w'.cell? ⟨g6, 0, none⟩ = some (.int .i64 s1) ∧ w'.cell? ⟨g6, 1, none⟩ = some (.int .i64 t0)) (first | exact K4 | exact K3 | exact ⟨c0, c1, d0, d1⟩)
        (first
          | (have hh := K3; go_at_call 114; refine (apart_any _ _ _ (by omega) (by omega)).mono ?_; rintro e w4 ⟨rfl, hb4⟩; have K4 := And.intro (keepL hb4 K3.1) (And.intro (keepL hb4 K3.2.1) (And.intro (keepL hb4 K3.2.2.1) (keepL hb4 K3.2.2.2))))
          | (go_at_call 114; refine (apart_any _ _ _ (by omega) (by omega)).mono ?_; rintro e w3 ⟨rfl, hb3⟩; have K3 := And.intro (keepL hb3 c0) (And.intro (keepL hb3 c1) (And.intro (keepL hb3 d0) (keepL hb3 d1)))))
      all_goals
        have hZ3 := Blk.below (w := W2.drew) hZ hb3 hzz
        have hZ4 := hZ3.below hb4 hZ3.lt
        obtain ⟨e0, e1⟩ := hZ4.two
        obtain ⟨e2, e3⟩ := hZ4.two_frozen
        obtain ⟨k0, k1, k2, k3⟩ := K4
        go_wp2
        refine bodyPost_ret (resP1 rfl _ _ (hZ4.twoStore _ _) rfl) rfl ⟨?_, ((below_next (below_next hb0.drew hb0.size hb3) (by have := hb3.size; have := hb0.size; simp at *; omega) hb4).setCell (by show _ ≤ w.heap.size + 1 + 1; omega) _).setCell (by show _ ≤ w.heap.size + 1 + 1; omega) _⟩
        rw [HQ.out]
        first | rw [if_pos (by simpa using hd)] | rw [if_neg (by simpa using hd)]
  · obtain ⟨W2, hW2, h5, h6, hZ, hb0⟩ : ∃ W2, W2 = (((((w.alloc (.cells #[.int .i64 s0, .int .i64 s1] 23)).alloc (.cells #[.int .i64 t0, .int .i64 t1] 23)).alloc (.cells #[.int .i64 0, .int .i64 0] 46)).alloc (.cells #[.int .i64 s1, .int .i64 t0] 46)).alloc (.cells #[.int .i64 s0, .int .i64 t1] 46)).drew ∧ Blk W2 (w.heap.size + 1 + 1 + 1 + 1) 46 #[.int .i64 s0, .int .i64 t1] ∧ Blk W2 (w.heap.size + 1 + 1 + 1) 46 #[.int .i64 s1, .int .i64 t0] ∧ Blk W2 (w.heap.size + 1 + 1) 46 #[.int .i64 0, .int .i64 0] ∧ Below w.heap.size w W2 :=
      ⟨_, rfl, (Blk.newAt (by simp)).drewN 1, ((Blk.newAt (by simp)).alloc _).drewN 1, ((Blk.newAt (by simp)).alloc _).alloc _, (((((below_new _ _).alloc (by simp) _).alloc (by simp; omega) _).alloc (by simp; omega) _).alloc (by simp; omega) _).drew⟩
    rw [← hW2]
    clear hW2
    obtain ⟨c0, c1⟩ := h5.two
    obtain ⟨d0, d1⟩ := h6.two
    have hz5 := h5.lt
    have hz6 := h6.lt
    have hzz := hZ.lt
    generalize w.heap.size + 1 + 1 + 1 + 1 = g5 at h5 c0 c1 hz5 ⊢
    generalize w.heap.size + 1 + 1 + 1 = g6 at h6 d0 d1 hz6 ⊢
    cases hd : decide (apartI s1 t0 < apartI s0 t1)
    all_goals
      have HQ := Lib.hid (show (qNear most).worst s0 s1 t0 t1 = if apartI s1 t0 < apartI s0 t1 then (s0, t1) else (s1, t0) from rfl)
      go_wp2_with fail
      go_region_held3 (fun w' => w'.cell? ⟨g5, 0, none⟩ = some (.int .i64 s0) ∧ w'.cell? ⟨g5, 1, none⟩ = some (.int .i64 t1) ∧ w'.cell? ⟨g6, 0, none⟩ = some (.int .i64 s1) ∧ w'.cell? ⟨g6, 1, none⟩ = some (.int .i64 t0)) (first | exact K4 | exact K3 | exact ⟨c0, c1, d0, d1⟩)
        (first
          | (have hh := K3; go_at_call 114; refine (apart_any _ _ _ (by omega) (by omega)).mono ?_; rintro e w4 ⟨rfl, hb4⟩; have K4 := And.intro (keepL hb4 K3.1) (And.intro (keepL hb4 K3.2.1) (And.intro (keepL hb4 K3.2.2.1) (keepL hb4 K3.2.2.2))))
          | (go_at_call 114; refine (apart_any _ _ _ (by omega) (by omega)).mono ?_; rintro e w3 ⟨rfl, hb3⟩; have K3 := And.intro (keepL hb3 c0) (And.intro (keepL hb3 c1) (And.intro (keepL hb3 d0) (keepL hb3 d1)))))
      all_goals
        have hZ3 := Blk.below (w := W2.drew) hZ hb3 hzz
        have hZ4 := hZ3.below hb4 hZ3.lt
        obtain ⟨e0, e1⟩ := hZ4.two
        obtain ⟨e2, e3⟩ := hZ4.two_frozen
        obtain ⟨k0, k1, k2, k3⟩ := K4
        go_wp2
        refine bodyPost_ret (resP1 rfl _ _ (hZ4.twoStore _ _) rfl) rfl ⟨?_, ((below_next (below_next hb0.drew hb0.size hb3) (by have := hb3.size; have := hb0.size; simp at *; omega) hb4).setCell (by show _ ≤ w.heap.size + 1 + 1; omega) _).setCell (by show _ ≤ w.heap.size + 1 + 1; omega) _⟩
        rw [HQ.out]
        first | rw [if_pos (by simpa using hd)] | rw [if_neg (by simpa using hd)]
end Go.Proofs.YtbhiphjifdnhmaaGreatDoor

