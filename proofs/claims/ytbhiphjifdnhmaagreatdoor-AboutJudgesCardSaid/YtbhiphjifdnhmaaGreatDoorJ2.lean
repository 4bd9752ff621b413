import Derived.Test.YtbhiphjifdnhmaaGreatDoorJ1
import Derived.Test.YtbhiphjifdnhmaaGreatDoorR3
import Derived.Test.YtbhiphjifdnhmaaGreatDoorV0
set_option linter.unusedSimpArgs false
set_option linter.unusedVariables false
/- The reference: what is so for numbers and for spans. -/
namespace Go.Proofs.YtbhiphjifdnhmaaGreatDoor
open Go.RowKit

theorem Blk.fourC {w : World} {g : Nat} {t : TypeId} {a b c d : Value} (h : Blk w g t #[a, b, c, d]) : w.cell? ⟨g, 0, none⟩ = some a ∧ w.cell? ⟨g, 1, none⟩ = some b ∧ w.cell? ⟨g, 2, none⟩ = some c ∧ w.cell? ⟨g, 3, none⟩ = some d := ⟨h.cell 0, h.cell 1, h.cell 2, h.cell 3⟩
/-- a sort's cells -/
def sc (k m lo hi : Int) : Array Value := #[.int .i64 k, .int .i64 m, .int .i64 lo, .int .i64 hi]
set_option maxRecDepth 100000 in
set_option maxHeartbeats 1600000 in
theorem refSo_any (k m lo hi x y : Int) (hk : k = 0 ∨ k = 1 ∨ k = 2) (h0 : -3000 ≤ x ∧ x ≤ 3000) (h1 : -3000 ≤ y ∧ y ≤ 3000) (w : World) : Calls Tryz.prog 135 #[.agg (sc k m lo hi), .int .i64 x, .int .i64 y] w fun e w' => e = .returned (.bool (soS k m lo hi x y)) ∧ Below w.heap.size w w' := by
  have kS : Blk (w.alloc (.cells #[.int .i64 k, .int .i64 m, .int .i64 lo, .int .i64 hi] 86)) w.heap.size 86 #[.int .i64 k, .int .i64 m, .int .i64 lo, .int .i64 hi] := Blk.new _ _ _
  obtain ⟨c0, c1, c2, c3⟩ := kS.fourC
  have hb0 := below_new w (.cells #[.int .i64 k, .int .i64 m, .int .i64 lo, .int .i64 hi] 86)
  rcases hk with rfl | rfl | rfl
  · unfold sc
    go_enter Tryz.func135, Tryz.ntmps135
    go_wp2
    go_ret
    exact ⟨rfl, hb0⟩
  · have q1 : IntKind.i64.wrap (x - y) = x - y := IntWalk.i64_in _ (by omega)
    have q2 : IntKind.i64.wrap (y - x) = y - x := IntWalk.i64_in _ (by omega)
    unfold sc
    by_cases g1 : x - y ≤ m
    · have HR := Lib.hid (show soS 1 m lo hi x y = decide (y - x ≤ m) by simp [soS, g1])
      go_enter Tryz.func135, Tryz.ntmps135
      go_wp2
      go_ret
      exact ⟨ret_bool HR.out.symm, hb0⟩
    · have HR := Lib.hid (show soS 1 m lo hi x y = false by simp [soS, g1])
      go_enter Tryz.func135, Tryz.ntmps135
      go_wp2_with go_skip
      go_ret
      exact ⟨ret_bool HR.out.symm, hb0⟩
  · unfold sc
    go_enter Tryz.func135, Tryz.ntmps135
    go_wp2_with (go_at_call 93; refine (refWithin_any _ _ _ _).mono ?_; rintro e w1 ⟨rfl, rfl⟩)
    go_ret
    exact ⟨rfl, hb0⟩
set_option maxRecDepth 100000 in
set_option maxHeartbeats 1600000 in
theorem refCan_any (k m lo hi s0 s1 t0 t1 : Int) (hk : k = 0 ∨ k = 1 ∨ k = 2) (h0 : -3000 ≤ s0 ∧ s0 ≤ 3000) (h1 : -3000 ≤ s1 ∧ s1 ≤ 3000) (h2 : -3000 ≤ t0 ∧ t0 ≤ 3000) (h3 : -3000 ≤ t1 ∧ t1 ≤ 3000) (w : World) : Calls Tryz.prog 154 #[.agg (sc k m lo hi), .agg #[.int .i64 s0, .int .i64 s1], .agg #[.int .i64 t0, .int .i64 t1]] w fun e w' => e = .returned (.bool (canS k m lo hi s0 s1 t0 t1)) ∧ Below w.heap.size w w' := by
  have kS : Blk (((w.alloc (.cells #[.int .i64 k, .int .i64 m, .int .i64 lo, .int .i64 hi] 86)).alloc (.cells #[.int .i64 s0, .int .i64 s1] 23)).alloc (.cells #[.int .i64 t0, .int .i64 t1] 23)) w.heap.size 86 #[.int .i64 k, .int .i64 m, .int .i64 lo, .int .i64 hi] := ((Blk.new _ _ _).alloc _).alloc _
  have kA : Blk (((w.alloc (.cells #[.int .i64 k, .int .i64 m, .int .i64 lo, .int .i64 hi] 86)).alloc (.cells #[.int .i64 s0, .int .i64 s1] 23)).alloc (.cells #[.int .i64 t0, .int .i64 t1] 23)) (w.heap.size + 1) 23 #[.int .i64 s0, .int .i64 s1] := (Blk.newAt (by simp)).alloc _
  have kB : Blk (((w.alloc (.cells #[.int .i64 k, .int .i64 m, .int .i64 lo, .int .i64 hi] 86)).alloc (.cells #[.int .i64 s0, .int .i64 s1] 23)).alloc (.cells #[.int .i64 t0, .int .i64 t1] 23)) (w.heap.size + 1 + 1) 23 #[.int .i64 t0, .int .i64 t1] := Blk.newAt (by simp)
  obtain ⟨c0, c1, c2, c3⟩ := kS.fourC
  obtain ⟨d0, d1⟩ := kA.two
  obtain ⟨e0, e1⟩ := kB.two
  have hb0 : Below w.heap.size w (((w.alloc (.cells #[.int .i64 k, .int .i64 m, .int .i64 lo, .int .i64 hi] 86)).alloc (.cells #[.int .i64 s0, .int .i64 s1] 23)).alloc (.cells #[.int .i64 t0, .int .i64 t1] 23)) := ((below_new _ _).alloc (by simp) _).alloc (by simp; omega) _
  clear kS kA kB
  rcases hk with rfl | rfl | rfl
  · unfold sc
    go_enter Tryz.func154, Tryz.ntmps154
    go_wp2
    go_ret
    exact ⟨rfl, hb0⟩
  · have q1 : IntKind.i64.wrap (s0 - t1) = s0 - t1 := IntWalk.i64_in _ (by omega)
    have q2 : IntKind.i64.wrap (t0 - s1) = t0 - s1 := IntWalk.i64_in _ (by omega)
    unfold sc
    by_cases g1 : s0 - t1 ≤ m
    · have HR := Lib.hid (show canS 1 m lo hi s0 s1 t0 t1 = decide (t0 - s1 ≤ m) by simp [canS, g1])
      go_enter Tryz.func154, Tryz.ntmps154
      go_wp2
      go_ret
      exact ⟨ret_bool HR.out.symm, hb0⟩
    · have HR := Lib.hid (show canS 1 m lo hi s0 s1 t0 t1 = false by simp [canS, g1])
      go_enter Tryz.func154, Tryz.ntmps154
      go_wp2_with go_skip
      go_ret
      exact ⟨ret_bool HR.out.symm, hb0⟩
  · unfold sc
    by_cases g1 : s0 ≤ hi
    · have HR := Lib.hid (show canS 2 m lo hi s0 s1 t0 t1 = decide (lo ≤ s1) by simp [canS, g1])
      go_enter Tryz.func154, Tryz.ntmps154
      go_wp2
      go_ret
      exact ⟨ret_bool HR.out.symm, hb0⟩
    · have HR := Lib.hid (show canS 2 m lo hi s0 s1 t0 t1 = false by simp [canS, g1])
      go_enter Tryz.func154, Tryz.ntmps154
      go_wp2_with go_skip
      go_ret
      exact ⟨ret_bool HR.out.symm, hb0⟩
set_option maxRecDepth 100000 in
set_option maxHeartbeats 1600000 in
theorem refMust_any (k m lo hi s0 s1 t0 t1 : Int) (hk : k = 0 ∨ k = 1 ∨ k = 2) (h0 : -3000 ≤ s0 ∧ s0 ≤ 3000) (h1 : -3000 ≤ s1 ∧ s1 ≤ 3000) (h2 : -3000 ≤ t0 ∧ t0 ≤ 3000) (h3 : -3000 ≤ t1 ∧ t1 ≤ 3000) (w : World) : Calls Tryz.prog 155 #[.agg (sc k m lo hi), .agg #[.int .i64 s0, .int .i64 s1], .agg #[.int .i64 t0, .int .i64 t1]] w fun e w' => e = .returned (.bool (mustS k m lo hi s0 s1 t0 t1)) ∧ Below w.heap.size w w' := by
  have kS : Blk (((w.alloc (.cells #[.int .i64 k, .int .i64 m, .int .i64 lo, .int .i64 hi] 86)).alloc (.cells #[.int .i64 s0, .int .i64 s1] 23)).alloc (.cells #[.int .i64 t0, .int .i64 t1] 23)) w.heap.size 86 #[.int .i64 k, .int .i64 m, .int .i64 lo, .int .i64 hi] := ((Blk.new _ _ _).alloc _).alloc _
  have kA : Blk (((w.alloc (.cells #[.int .i64 k, .int .i64 m, .int .i64 lo, .int .i64 hi] 86)).alloc (.cells #[.int .i64 s0, .int .i64 s1] 23)).alloc (.cells #[.int .i64 t0, .int .i64 t1] 23)) (w.heap.size + 1) 23 #[.int .i64 s0, .int .i64 s1] := (Blk.newAt (by simp)).alloc _
  have kB : Blk (((w.alloc (.cells #[.int .i64 k, .int .i64 m, .int .i64 lo, .int .i64 hi] 86)).alloc (.cells #[.int .i64 s0, .int .i64 s1] 23)).alloc (.cells #[.int .i64 t0, .int .i64 t1] 23)) (w.heap.size + 1 + 1) 23 #[.int .i64 t0, .int .i64 t1] := Blk.newAt (by simp)
  obtain ⟨c0, c1, c2, c3⟩ := kS.fourC
  obtain ⟨d0, d1⟩ := kA.two
  obtain ⟨e0, e1⟩ := kB.two
  have hb0 : Below w.heap.size w (((w.alloc (.cells #[.int .i64 k, .int .i64 m, .int .i64 lo, .int .i64 hi] 86)).alloc (.cells #[.int .i64 s0, .int .i64 s1] 23)).alloc (.cells #[.int .i64 t0, .int .i64 t1] 23)) := ((below_new _ _).alloc (by simp) _).alloc (by simp; omega) _
  clear kS kA kB
  rcases hk with rfl | rfl | rfl
  · unfold sc
    go_enter Tryz.func155, Tryz.ntmps155
    go_wp2
    go_ret
    exact ⟨rfl, hb0⟩
  · have q1 : IntKind.i64.wrap (s1 - t0) = s1 - t0 := IntWalk.i64_in _ (by omega)
    have q2 : IntKind.i64.wrap (t1 - s0) = t1 - s0 := IntWalk.i64_in _ (by omega)
    unfold sc
    by_cases g1 : s1 - t0 ≤ m
    · have HR := Lib.hid (show mustS 1 m lo hi s0 s1 t0 t1 = decide (t1 - s0 ≤ m) by simp [mustS, g1])
      go_enter Tryz.func155, Tryz.ntmps155
      go_wp2
      go_ret
      exact ⟨ret_bool HR.out.symm, hb0⟩
    · have HR := Lib.hid (show mustS 1 m lo hi s0 s1 t0 t1 = false by simp [mustS, g1])
      go_enter Tryz.func155, Tryz.ntmps155
      go_wp2_with go_skip
      go_ret
      exact ⟨ret_bool HR.out.symm, hb0⟩
  · unfold sc
    by_cases g1 : lo ≤ s0
    · have HR := Lib.hid (show mustS 2 m lo hi s0 s1 t0 t1 = decide (s1 ≤ hi) by simp [mustS, g1])
      go_enter Tryz.func155, Tryz.ntmps155
      go_wp2
      go_ret
      exact ⟨ret_bool HR.out.symm, hb0⟩
    · have HR := Lib.hid (show mustS 2 m lo hi s0 s1 t0 t1 = false by simp [mustS, g1])
      go_enter Tryz.func155, Tryz.ntmps155
      go_wp2_with go_skip
      go_ret
      exact ⟨ret_bool HR.out.symm, hb0⟩
end Go.Proofs.YtbhiphjifdnhmaaGreatDoor
