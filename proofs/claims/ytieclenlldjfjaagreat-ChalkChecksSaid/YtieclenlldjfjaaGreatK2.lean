import Derived.Test.YtieclenlldjfjaaGreatE33
import Derived.Test.YtieclenlldjfjaaGreatProg
import Derived.KernelRfl
set_option autoImplicit false
set_option maxRecDepth 1000000
namespace Go.Proofs.YtieclenlldjfjaaGreat.Ev
open Go Go.Proofs
noncomputable def kl0 : Known :=
  ⟨36, [(.agg ⟨[(.int .i64 (2)), (.int .i64 (1)), (.slice (some ⟨4, 0, none⟩) 4 4), (.int .i64 (5)), (.int .i64 (4)), (.int .i64 (3)), (.int .i64 (1))]⟩), (.slice (some ⟨441, 0, none⟩) 1 1), (.agg ⟨[(.int .i64 (1)), (.int .i64 (0)), (.int .i64 (1))]⟩)],
    [(4, .cells 4 12 3 true (rleB 4 [(1, (.int .i64 (1))), (1, (.slice (some ⟨1, 0, none⟩) 2 2)), (1, (.int .i64 (1))), (1, (.int .i64 (2))), (1, (.slice (some ⟨2, 0, none⟩) 2 2)), (1, (.int .i64 (1))), (1, (.int .i64 (2))), (1, (.slice (some ⟨3, 0, none⟩) 1 1)), (1, (.int .i64 (2))), (1, (.int .i64 (1))), (1, (.slice none 0 0)), (1, (.int .i64 (9)))])),
    (1, .cells 1 2 1 true (rleB 1 [(1, (.int .i64 (-1))), (1, (.int .i64 (2)))])),
    (2, .cells 1 2 1 true (rleB 1 [(1, (.int .i64 (2))), (1, (.int .i64 (-2)))])),
    (3, .cells 0 1 1 true (rleB 0 [(1, (.int .i64 (-2)))])),
    (441, .cells 0 1 1 true (rleB 0 [(1, (.int .i64 (2)))]))], 442,
    (.tuple ⟨[(.int .i64 (7)), (.int .i64 (0))]⟩),
    []⟩
theorem kl0_run : kl0.run Tryz.prog noOrc 100000 = true := by kernel_rfl
noncomputable def kl1 : Known :=
  ⟨36, [(.agg ⟨[(.int .i64 (2)), (.int .i64 (1)), (.slice (some ⟨4, 0, none⟩) 4 4), (.int .i64 (5)), (.int .i64 (4)), (.int .i64 (3)), (.int .i64 (1))]⟩), (.slice none 0 0), (.agg ⟨[(.int .i64 (1)), (.int .i64 (0)), (.int .i64 (0))]⟩)],
    [(4, .cells 4 12 3 true (rleB 4 [(1, (.int .i64 (1))), (1, (.slice (some ⟨1, 0, none⟩) 2 2)), (1, (.int .i64 (1))), (1, (.int .i64 (2))), (1, (.slice (some ⟨2, 0, none⟩) 2 2)), (1, (.int .i64 (1))), (1, (.int .i64 (2))), (1, (.slice (some ⟨3, 0, none⟩) 1 1)), (1, (.int .i64 (2))), (1, (.int .i64 (1))), (1, (.slice none 0 0)), (1, (.int .i64 (9)))])),
    (1, .cells 1 2 1 true (rleB 1 [(1, (.int .i64 (-1))), (1, (.int .i64 (2)))])),
    (2, .cells 1 2 1 true (rleB 1 [(1, (.int .i64 (2))), (1, (.int .i64 (-2)))])),
    (3, .cells 0 1 1 true (rleB 0 [(1, (.int .i64 (-2)))]))], 442,
    (.tuple ⟨[(.int .i64 (9)), (.int .i64 (0))]⟩),
    []⟩
theorem kl1_run : kl1.run Tryz.prog noOrc 100000 = true := by kernel_rfl
end Go.Proofs.YtieclenlldjfjaaGreat.Ev
