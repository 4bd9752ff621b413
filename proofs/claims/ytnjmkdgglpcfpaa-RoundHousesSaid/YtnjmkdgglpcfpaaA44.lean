import Derived.Test.YtnjmkdgglpcfpaaA43
namespace Go.Proofs.Ytnjmkdgglpcfpaa
set_option linter.unusedSimpArgs false
set_option linter.unusedVariables false
open Go.RowKit

set_option maxRecDepth 100000 in
set_option maxHeartbeats 1000000 in
theorem refReaches21_any (C R B F : Int) (A : Option Addr) (cap : Nat) (cl : List Int) (c : Int) (w : World) (hcl : cl.length ≤ 1000000) (hr : Ints w w.heap.size A cl) :
    Calls Try.prog 21 #[.agg #[.int .i64 C, .int .i64 R, .int .i64 B, .int .i64 F, .slice A cl.length cap], .int .i64 c] w (RetIntsE w (if colErr C R B F cl c = 0 then rchL C B c (B + F + 1).toNat else []) (colErr C R B F cl c)) := by
  have hb0 : Below w.heap.size w ((w.alloc (.cells #[.int .i64 C, .int .i64 R, .int .i64 B, .int .i64 F, .slice A cl.length cap] 24)).alloc (.cells #[.slice none 0 0, .int .i64 0] 36)) := (below_new w (.cells #[.int .i64 C, .int .i64 R, .int .i64 B, .int .i64 F, .slice A cl.length cap] 24)).alloc (by simp) _
  have hbk : Blk ((w.alloc (.cells #[.int .i64 C, .int .i64 R, .int .i64 B, .int .i64 F, .slice A cl.length cap] 24)).alloc (.cells #[.slice none 0 0, .int .i64 0] 36)) w.heap.size 24 #[.int .i64 C, .int .i64 R, .int .i64 B, .int .i64 F, .slice A cl.length cap] := (Blk.new _ _ _).alloc _
  have hbq : Blk ((w.alloc (.cells #[.int .i64 C, .int .i64 R, .int .i64 B, .int .i64 F, .slice A cl.length cap] 24)).alloc (.cells #[.slice none 0 0, .int .i64 0] 36)) (w.heap.size + 1) 36 #[.slice none 0 0, .int .i64 0] := Blk.newAt (by simp)
  have hr1 := hr.behind hb0
  by_cases he : colErr C R B F cl c = 0
  · obtain ⟨hok, hc⟩ := colErr_zero he
    have k1 := hok.c3
    have k2 := hok.c120
    have k3 := hok.b0
    have k4 := hok.f0
    have k5 := hok.bf
    rw [if_pos he, he]
    have HE := Lib.hid he
    clear he hok
    go_enter Try.func21, Try.ntmps21
    go_wp2_with (first
      | (go_at_call 65; refine (refColumn_any C R B F A cap cl c _ hcl hr1).mono ?_; rw [HE.out]; rintro e w1 ⟨rfl, hb1⟩; have hbq1 := hbq.below hb1 (by simp); have hbk1 := hbk.below hb1 (by simp; omega); obtain ⟨d0, d1, d2, d3, d4⟩ := hbk1.five)
      | (go_at_call 66; refine (refReaches_own C R B F _ c _ (by omega) k2 hc.1 hc.2 k3 k4 k5).mono ?_; rintro e w2 ⟨S, sap, rfl, hown, hb2⟩; have hbq2 := hbq1.below hb2 hbq1.lt; obtain ⟨m0, m1, m2, m3⟩ : w2.cell? ⟨w.heap.size + 1, 0, none⟩ = some (.slice none 0 0) ∧ w2.cell? ⟨w.heap.size + 1, 1, none⟩ = some (.int .i64 0) ∧ w2.frozen? ⟨w.heap.size + 1, 0, none⟩ = false ∧ w2.frozen? ⟨w.heap.size + 1, 1, none⟩ = false := ⟨hbq2.cell 0, hbq2.cell 1, hbq2.frozen 0, hbq2.frozen 1⟩))
    have hz1 := hb1.size
    have hz2 := hb2.size
    have hq1 := hbq1.lt
    simp at hz1
    obtain ⟨s1, s2, _⟩ := own_facts hown
    have ho2 := ownsRow_setCell_below (ownsRow_setCell_below hown (a := ⟨w.heap.size + 1, 0, none⟩) (show w.heap.size + 1 < w1.heap.size by omega) (.slice S (rchL C B c (B + F + 1).toNat).length sap)) (a := ⟨w.heap.size + 1, 1, none⟩) (show w.heap.size + 1 < w1.heap.size by omega) (.int .i64 0)
    refine bodyPost_ret (v := .agg #[.slice S (rchL C B c (B + F + 1).toNat).length sap, .int .i64 0]) (results_cell_row (g := w.heap.size + 1) rfl _ _ 36 _ (0, 0) _ rfl ((hbq2.store 0 (.slice S (rchL C B c (B + F + 1).toNat).length sap)).store 1 (.int .i64 0)) Try.underlying36 rfl info36) rfl ?_
    exact ⟨S, sap, rfl, s1, s2, Ints.of_own ho2, ((below_next (below_next hb0 (by simp; omega) hb1) (by omega) hb2).setCell (p := ⟨w.heap.size + 1, 0, none⟩) (by simp) _).setCell (p := ⟨w.heap.size + 1, 1, none⟩) (by simp) _⟩
  · have n1 : (colErr C R B F cl c == 0) = false := by simpa using he
    have n2 : (colErr C R B F cl c != 0) = true := by simpa using he
    rw [if_neg he]
    clear he
    go_enter Try.func21, Try.ntmps21
    go_wp2_with (first
      | (go_at_call 65; refine (refColumn_any C R B F A cap cl c _ hcl hr1).mono ?_; rintro e w1 ⟨rfl, hb1⟩; have hbq1 := hbq.below hb1 (by simp); obtain ⟨m0, m1, m2, m3⟩ : w1.cell? ⟨w.heap.size + 1, 0, none⟩ = some (.slice none 0 0) ∧ w1.cell? ⟨w.heap.size + 1, 1, none⟩ = some (.int .i64 0) ∧ w1.frozen? ⟨w.heap.size + 1, 0, none⟩ = false ∧ w1.frozen? ⟨w.heap.size + 1, 1, none⟩ = false := ⟨hbq1.cell 0, hbq1.cell 1, hbq1.frozen 0, hbq1.frozen 1⟩))
    refine bodyPost_ret (v := .agg #[.slice none 0 0, .int .i64 (colErr C R B F cl c)]) (results_cell_row (g := w.heap.size + 1) rfl _ _ 36 _ (0, 0) _ rfl ((hbq1.store 0 (.slice none 0 0)).store 1 (.int .i64 (colErr C R B F cl c))) Try.underlying36 rfl info36) rfl ?_
    exact ⟨none, 0, rfl, Nat.le_refl _, by simp [maxLen], Ints.nil, ((below_next hb0 (by simp; omega) hb1).setCell (p := ⟨w.heap.size + 1, 0, none⟩) (by simp) _).setCell (p := ⟨w.heap.size + 1, 1, none⟩) (by simp) _⟩

set_option maxRecDepth 100000 in
set_option maxHeartbeats 1000000 in
theorem refStands23_any (C R B F : Int) (A : Option Addr) (cap : Nat) (cl : List Int) (c : Int) (w : World) (hcl : cl.length ≤ 1000000) (hr : Ints w w.heap.size A cl) :
    Calls Try.prog 23 #[.agg #[.int .i64 C, .int .i64 R, .int .i64 B, .int .i64 F, .slice A cl.length cap], .int .i64 c] w (RetIntsE w (if colErr C R B F cl c = 0 then rstL C B F cl c else []) (colErr C R B F cl c)) := by
  have hb0 : Below w.heap.size w ((w.alloc (.cells #[.int .i64 C, .int .i64 R, .int .i64 B, .int .i64 F, .slice A cl.length cap] 24)).alloc (.cells #[.slice none 0 0, .int .i64 0] 36)) := (below_new w (.cells #[.int .i64 C, .int .i64 R, .int .i64 B, .int .i64 F, .slice A cl.length cap] 24)).alloc (by simp) _
  have hbk : Blk ((w.alloc (.cells #[.int .i64 C, .int .i64 R, .int .i64 B, .int .i64 F, .slice A cl.length cap] 24)).alloc (.cells #[.slice none 0 0, .int .i64 0] 36)) w.heap.size 24 #[.int .i64 C, .int .i64 R, .int .i64 B, .int .i64 F, .slice A cl.length cap] := (Blk.new _ _ _).alloc _
  have hbq : Blk ((w.alloc (.cells #[.int .i64 C, .int .i64 R, .int .i64 B, .int .i64 F, .slice A cl.length cap] 24)).alloc (.cells #[.slice none 0 0, .int .i64 0] 36)) (w.heap.size + 1) 36 #[.slice none 0 0, .int .i64 0] := Blk.newAt (by simp)
  have hr1 := hr.behind hb0
  by_cases he : colErr C R B F cl c = 0
  · obtain ⟨hok, hc⟩ := colErr_zero he
    have k1 := hok.c3
    have k2 := hok.c120
    have k3 := hok.b0
    have k4 := hok.f0
    have k5 := hok.bf
    rw [if_pos he, he]
    have HE := Lib.hid he
    clear he hok
    go_enter Try.func23, Try.ntmps23
    go_wp2_with (first
      | (go_at_call 65; refine (refColumn_any C R B F A cap cl c _ hcl hr1).mono ?_; rw [HE.out]; rintro e w1 ⟨rfl, hb1⟩; have hbq1 := hbq.below hb1 (by simp); have hbk1 := hbk.below hb1 (by simp; omega); obtain ⟨d0, d1, d2, d3, d4⟩ := hbk1.five)
      | (go_at_call 69; refine (refStands_own C R B F A cap cl c _ (by omega) k2 k3 k4 k5 hcl (hr1.behind hb1)).mono ?_; rintro e w2 ⟨S, sap, rfl, hown, hb2⟩; have hbq2 := hbq1.below hb2 hbq1.lt; obtain ⟨m0, m1, m2, m3⟩ : w2.cell? ⟨w.heap.size + 1, 0, none⟩ = some (.slice none 0 0) ∧ w2.cell? ⟨w.heap.size + 1, 1, none⟩ = some (.int .i64 0) ∧ w2.frozen? ⟨w.heap.size + 1, 0, none⟩ = false ∧ w2.frozen? ⟨w.heap.size + 1, 1, none⟩ = false := ⟨hbq2.cell 0, hbq2.cell 1, hbq2.frozen 0, hbq2.frozen 1⟩))
    have hz1 := hb1.size
    have hz2 := hb2.size
    have hq1 := hbq1.lt
    simp at hz1
    obtain ⟨s1, s2, _⟩ := own_facts hown
    have ho2 := ownsRow_setCell_below (ownsRow_setCell_below hown (a := ⟨w.heap.size + 1, 0, none⟩) (show w.heap.size + 1 < w1.heap.size by omega) (.slice S (rstL C B F cl c).length sap)) (a := ⟨w.heap.size + 1, 1, none⟩) (show w.heap.size + 1 < w1.heap.size by omega) (.int .i64 0)
    refine bodyPost_ret (v := .agg #[.slice S (rstL C B F cl c).length sap, .int .i64 0]) (results_cell_row (g := w.heap.size + 1) rfl _ _ 36 _ (0, 0) _ rfl ((hbq2.store 0 (.slice S (rstL C B F cl c).length sap)).store 1 (.int .i64 0)) Try.underlying36 rfl info36) rfl ?_
    exact ⟨S, sap, rfl, s1, s2, Ints.of_own ho2, ((below_next (below_next hb0 (by simp; omega) hb1) (by omega) hb2).setCell (p := ⟨w.heap.size + 1, 0, none⟩) (by simp) _).setCell (p := ⟨w.heap.size + 1, 1, none⟩) (by simp) _⟩
  · have n1 : (colErr C R B F cl c == 0) = false := by simpa using he
    have n2 : (colErr C R B F cl c != 0) = true := by simpa using he
    rw [if_neg he]
    clear he
    go_enter Try.func23, Try.ntmps23
    go_wp2_with (first
      | (go_at_call 65; refine (refColumn_any C R B F A cap cl c _ hcl hr1).mono ?_; rintro e w1 ⟨rfl, hb1⟩; have hbq1 := hbq.below hb1 (by simp); obtain ⟨m0, m1, m2, m3⟩ : w1.cell? ⟨w.heap.size + 1, 0, none⟩ = some (.slice none 0 0) ∧ w1.cell? ⟨w.heap.size + 1, 1, none⟩ = some (.int .i64 0) ∧ w1.frozen? ⟨w.heap.size + 1, 0, none⟩ = false ∧ w1.frozen? ⟨w.heap.size + 1, 1, none⟩ = false := ⟨hbq1.cell 0, hbq1.cell 1, hbq1.frozen 0, hbq1.frozen 1⟩))
    refine bodyPost_ret (v := .agg #[.slice none 0 0, .int .i64 (colErr C R B F cl c)]) (results_cell_row (g := w.heap.size + 1) rfl _ _ 36 _ (0, 0) _ rfl ((hbq1.store 0 (.slice none 0 0)).store 1 (.int .i64 (colErr C R B F cl c))) Try.underlying36 rfl info36) rfl ?_
    exact ⟨none, 0, rfl, Nat.le_refl _, by simp [maxLen], Ints.nil, ((below_next hb0 (by simp; omega) hb1).setCell (p := ⟨w.heap.size + 1, 0, none⟩) (by simp) _).setCell (p := ⟨w.heap.size + 1, 1, none⟩) (by simp) _⟩

set_option maxRecDepth 100000 in
set_option maxHeartbeats 1000000 in
/-- Stands: whatever the house and the column -/
theorem stands22_any (C R B F : Int) (A : Option Addr) (cap : Nat) (cl : List Int) (c : Int) (w : World) (hB : B ≤ 9223372036854775807) (hcl : cl.length ≤ 9223372036854775807) (hr : Ints w w.heap.size A cl) :
    Calls Try.prog 22 #[.agg #[.int .i64 C, .int .i64 R, .int .i64 B, .int .i64 F, .slice A cl.length cap], .int .i64 c] w (RetInts2 w (if colErr C R B F cl c = 0 then opens C B F (isIn cl) c else []) (colErr C R B F cl c)) := by
  by_cases he : colErr C R B F cl c = 0
  · obtain ⟨hok, hc⟩ := colErr_zero he
    rw [if_pos he, he]
    exact stands_ok w hok hr hc
  · have n1 : (colErr C R B F cl c == 0) = false := by simpa using he
    have n2 : (colErr C R B F cl c != 0) = true := by simpa using he
    have hb0 := below_new w (.cells #[.int .i64 C, .int .i64 R, .int .i64 B, .int .i64 F, .slice A cl.length cap] 24)
    have hr1 := hr.behind hb0
    rw [if_neg he]
    clear he
    go_enter Try.func22, Try.ntmps22
    go_wp2_with (first
      | (go_at_call 62; refine (checkColumn_any C R B F A cap cl c _ hB hcl hr1).mono ?_; rintro e w1 ⟨rfl, hb1⟩))
    go_ret2
    exact RetInts2.err (below_next hb0 (by simp) hb1)

set_option maxRecDepth 100000 in
set_option maxHeartbeats 1000000 in
/-- SameHouse -/
theorem sameHouse_any (C R B F : Int) (A : Option Addr) (cap : Nat) (l m : List Int) (D : Option Addr) (dap : Nat) (w : World) (he : l = m) (hll : l.length ≤ 1000000) (hr : Ints w w.heap.size A l) (hs : Ints w w.heap.size D m) :
    Calls Try.prog 29 #[.agg #[.int .i64 C, .int .i64 R, .int .i64 B, .int .i64 F, .slice A l.length cap], .agg #[.int .i64 C, .int .i64 R, .int .i64 B, .int .i64 F, .slice D m.length dap]] w fun e w' => e = .returned (.bool true) ∧ Below w.heap.size w w' := by
  subst he
  have hb0 : Below w.heap.size w ((w.alloc (.cells #[.int .i64 C, .int .i64 R, .int .i64 B, .int .i64 F, .slice A l.length cap] 24)).alloc (.cells #[.int .i64 C, .int .i64 R, .int .i64 B, .int .i64 F, .slice D l.length dap] 24)) := (below_new w _).alloc (by simp) _
  have hbk : Blk ((w.alloc (.cells #[.int .i64 C, .int .i64 R, .int .i64 B, .int .i64 F, .slice A l.length cap] 24)).alloc (.cells #[.int .i64 C, .int .i64 R, .int .i64 B, .int .i64 F, .slice D l.length dap] 24)) w.heap.size 24 #[.int .i64 C, .int .i64 R, .int .i64 B, .int .i64 F, .slice A l.length cap] := (Blk.new _ _ _).alloc _
  have hbq : Blk ((w.alloc (.cells #[.int .i64 C, .int .i64 R, .int .i64 B, .int .i64 F, .slice A l.length cap] 24)).alloc (.cells #[.int .i64 C, .int .i64 R, .int .i64 B, .int .i64 F, .slice D l.length dap] 24)) (w.heap.size + 1) 24 #[.int .i64 C, .int .i64 R, .int .i64 B, .int .i64 F, .slice D l.length dap] := Blk.newAt (by simp)
  have hr1 := hr.behind hb0
  have hs1 := hs.behind hb0
  go_enter Try.func29, Try.ntmps29
  go_wp2_with (first
    | (go_at_call 28; refine (same_n _ hr1 hs1 rfl rfl hll rfl).mono ?_; rintro e w1 ⟨rfl, hb1⟩; obtain ⟨d0, d1, d2, d3, d4⟩ := (hbk.below hb1 (by simp; omega)).five; obtain ⟨e0, e1, e2, e3, e4⟩ := (hbq.below hb1 (by simp)).five))
  go_ret
  exact ⟨rfl, below_next hb0 (by simp; omega) hb1⟩

end Go.Proofs.Ytnjmkdgglpcfpaa
