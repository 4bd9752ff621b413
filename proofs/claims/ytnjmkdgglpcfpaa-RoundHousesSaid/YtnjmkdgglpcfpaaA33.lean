import Derived.Test.YtnjmkdgglpcfpaaA32
import Derived.Test.YtnjmkdgglpcfpaaA28
import Derived.Test.YtnjmkdgglpcfpaaA22
namespace Go.Proofs.Ytnjmkdgglpcfpaa
open Go.RowKit

set_option maxRecDepth 100000 in
set_option maxHeartbeats 400000 in
theorem refTurned_any (C R B F : Int) (A : Option Addr) (cap : Nat) (cl : List Int) (s : Int) (D : Option Addr) (dap : Nat) (l : List Int) (w : World) (hcl : cl.length ≤ 1000000) (hll : l.length ≤ 1000000) (hr : Ints w w.heap.size A cl) (hl : Ints w w.heap.size D l) :
    Calls Try.prog 105 #[.agg #[.int .i64 C, .int .i64 R, .int .i64 B, .int .i64 F, .slice A cl.length cap], .int .i64 s, .slice D l.length dap] w fun e w' => e = .returned (.int .i64 (wayErr C R B F cl s l)) ∧ Below w.heap.size w w' := by
  have hb0 := below_new w (.cells #[.int .i64 C, .int .i64 R, .int .i64 B, .int .i64 F, .slice A cl.length cap] 24)
  have hr1 := hr.behind hb0
  have hl1 := hl.behind hb0
  by_cases he : colErr C R B F cl s = 0
  · obtain ⟨hok, hs⟩ := colErr_zero he
    have k1 := hok.c3
    have k2 := hok.c120
    have hw : wayErr C R B F cl s l = standsErr C cl l := by unfold wayErr; rw [if_neg (by simp [he])]
    rw [hw]
    have HE := Lib.hid he
    clear hw he
    have hbk : Blk (w.alloc (.cells #[.int .i64 C, .int .i64 R, .int .i64 B, .int .i64 F, .slice A cl.length cap] 24)) w.heap.size 24 #[.int .i64 C, .int .i64 R, .int .i64 B, .int .i64 F, .slice A cl.length cap] := Blk.new _ _ _
    go_enter Try.func105, Try.ntmps105
    go_wp2_with (first
      | (go_at_call 65; refine (refColumn_any C R B F A cap cl s _ hcl hr1).mono ?_; rw [HE.out]; rintro e w1 ⟨rfl, hb1⟩; obtain ⟨d0, d1, d2, d3, d4⟩ := (hbk.below hb1 (by simp)).five)
      | (go_at_call 82; refine (stood_any _ _ _ _ _ _ _ _ _ _ _ (by omega) k2 hcl hll (hr1.behind hb1) (hl1.behind hb1)).mono ?_; rintro e w2 ⟨rfl, hb2⟩))
    go_ret
    exact ⟨rfl, below_next (below_next hb0 (by simp) hb1) (by have := hb1.size; simp at this; omega) hb2⟩
  · have hw : wayErr C R B F cl s l = colErr C R B F cl s := by unfold wayErr; rw [if_pos he]
    have hn1 : (colErr C R B F cl s == 0) = false := by simpa using he
    have hn2 : (colErr C R B F cl s != 0) = true := by simpa using he
    rw [hw]
    clear hw he
    go_enter Try.func105, Try.ntmps105
    go_wp2_with (first
      | (go_at_call 65; refine (refColumn_any C R B F A cap cl s _ hcl hr1).mono ?_; rintro e w1 ⟨rfl, hb1⟩))
    go_ret
    exact ⟨rfl, below_next hb0 (by simp) hb1⟩

end Go.Proofs.Ytnjmkdgglpcfpaa
