import Derived.Test.YtnjmkdgglpcfpaaA42
namespace Go.Proofs.Ytnjmkdgglpcfpaa
set_option linter.unusedSimpArgs false
set_option linter.unusedVariables false
open Go.RowKit

/-- is a house one of those that a law plays with -/
def fewB (C : Int) (cl : List Int) : Bool := decide ((C ≤ 24 ∨ 120 < C) ∧ cl.length ≤ 130)
set_option maxRecDepth 100000 in
set_option maxHeartbeats 400000 in
theorem few_any (C R B F : Int) (A : Option Addr) (cap : Nat) (cl : List Int) (w : World) :
    Calls Try.prog 14 #[.agg #[.int .i64 C, .int .i64 R, .int .i64 B, .int .i64 F, .slice A cl.length cap]] w fun e w' => e = .returned (.bool (fewB C cl)) ∧ Below w.heap.size w w' := by
  have hbk := Blk.new w 24 #[.int .i64 C, .int .i64 R, .int .i64 B, .int .i64 F, .slice A cl.length cap]
  obtain ⟨d0, d1, d2, d3, d4⟩ := hbk.five
  have hb := below_new w (.cells #[.int .i64 C, .int .i64 R, .int .i64 B, .int .i64 F, .slice A cl.length cap] 24)
  by_cases c1 : C ≤ 24
  · have e1 : decide (C ≤ 24) = true := decide_eq_true c1
    by_cases c3 : cl.length ≤ 130
    · have e3 : ((cl.length : Nat) : Int) ≤ 130 := by omega
      have e4 : decide (((cl.length : Nat) : Int) ≤ 130) = true := decide_eq_true e3
      have hr : fewB C cl = true := decide_eq_true ⟨.inl c1, c3⟩
      rw [hr]
      go_enter Try.func14, Try.ntmps14
      go_wp2_with fail
      go_ret
      exact ⟨rfl, hb⟩
    · have e3 : ¬ ((cl.length : Nat) : Int) ≤ 130 := by omega
      have e4 : decide (((cl.length : Nat) : Int) ≤ 130) = false := decide_eq_false e3
      have hr : fewB C cl = false := decide_eq_false fun h => c3 h.2
      rw [hr]
      go_enter Try.func14, Try.ntmps14
      go_wp2_with fail
      go_ret
      exact ⟨rfl, hb⟩
  · have e1 : decide (C ≤ 24) = false := decide_eq_false c1
    by_cases c2 : 120 < C
    · have e2 : decide ((120 : Int) < C) = true := decide_eq_true c2
      by_cases c3 : cl.length ≤ 130
      · have e3 : ((cl.length : Nat) : Int) ≤ 130 := by omega
        have e4 : decide (((cl.length : Nat) : Int) ≤ 130) = true := decide_eq_true e3
        have hr : fewB C cl = true := decide_eq_true ⟨.inr c2, c3⟩
        rw [hr]
        go_enter Try.func14, Try.ntmps14
        go_wp2_with fail
        go_ret
        exact ⟨rfl, hb⟩
      · have e3 : ¬ ((cl.length : Nat) : Int) ≤ 130 := by omega
        have e4 : decide (((cl.length : Nat) : Int) ≤ 130) = false := decide_eq_false e3
        have hr : fewB C cl = false := decide_eq_false fun h => c3 h.2
        rw [hr]
        go_enter Try.func14, Try.ntmps14
        go_wp2_with fail
        go_ret
        exact ⟨rfl, hb⟩
    · have e2 : decide ((120 : Int) < C) = false := decide_eq_false c2
      have hr : fewB C cl = false := decide_eq_false fun h => h.1.elim c1 c2
      rw [hr]
      go_enter Try.func14, Try.ntmps14
      go_wp2_with fail
      go_ret
      exact ⟨rfl, hb⟩

/-- the error of a house and a hole -/
def holeErr (C R B F : Int) (cl : List Int) (n : Int) : Int := if chk C R B F cl ≠ 0 then chk C R B F cl else if 0 ≤ n ∧ n < C * R then 0 else 1
theorem holeErr_bad {C R B F : Int} {cl : List Int} (n : Int) (h : ¬ Ok C R B F cl) : holeErr C R B F cl n = chk C R B F cl ∧ holeErr C R B F cl n ≠ 0 := by
  have h0 : chk C R B F cl ≠ 0 := fun e => h (chk_ok.1 e)
  have h1 : holeErr C R B F cl n = chk C R B F cl := if_pos h0
  exact ⟨h1, by rw [h1]; exact h0⟩
theorem holeErr_ok {C R B F : Int} {cl : List Int} (n : Int) (h : Ok C R B F cl) : holeErr C R B F cl n = if 0 ≤ n ∧ n < C * R then 0 else 1 := if_neg fun e => e (chk_ok.2 h)
def colN (C R B F : Int) (cl : List Int) (n : Int) : Int := if holeErr C R B F cl n = 0 then n % C else 0
def ringN (C R B F : Int) (cl : List Int) (n : Int) : Int := if holeErr C R B F cl n = 0 then n / C else 0

theorem column_any (C R B F : Int) (A : Option Addr) (cap : Nat) (cl : List Int) (n : Int) (w : World) (hB : B ≤ 9223372036854775807) (hcl : cl.length ≤ 9223372036854775807) (hr : Ints w w.heap.size A cl) :
    Calls Try.prog 16 #[.agg #[.int .i64 C, .int .i64 R, .int .i64 B, .int .i64 F, .slice A cl.length cap], .int .i64 n] w fun e w' => e = .returned (.tuple #[.int .i64 (colN C R B F cl n), .int .i64 (holeErr C R B F cl n)]) ∧ Below w.heap.size w w' := by
  by_cases hok : Ok C R B F cl
  · have he := holeErr_ok n hok
    by_cases hn : 0 ≤ n ∧ n < C * R
    · rw [if_pos hn] at he
      have hc : colN C R B F cl n = n % C := if_pos he
      rw [hc, he]
      exact column_ok w hok hr hn
    · rw [if_neg hn] at he
      have hc : colN C R B F cl n = 0 := if_neg (by rw [he]; decide)
      rw [hc, he]
      exact column_out w hok hr hn
  · obtain ⟨he, hne⟩ := holeErr_bad n hok
    have hc : colN C R B F cl n = 0 := if_neg hne
    rw [hc, he]
    exact column_bad w hok hB hcl hr
theorem ring_any (C R B F : Int) (A : Option Addr) (cap : Nat) (cl : List Int) (n : Int) (w : World) (hB : B ≤ 9223372036854775807) (hcl : cl.length ≤ 9223372036854775807) (hr : Ints w w.heap.size A cl) :
    Calls Try.prog 18 #[.agg #[.int .i64 C, .int .i64 R, .int .i64 B, .int .i64 F, .slice A cl.length cap], .int .i64 n] w fun e w' => e = .returned (.tuple #[.int .i64 (ringN C R B F cl n), .int .i64 (holeErr C R B F cl n)]) ∧ Below w.heap.size w w' := by
  by_cases hok : Ok C R B F cl
  · have he := holeErr_ok n hok
    by_cases hn : 0 ≤ n ∧ n < C * R
    · rw [if_pos hn] at he
      have hc : ringN C R B F cl n = n / C := if_pos he
      rw [hc, he]
      exact ring_ok w hok hr hn
    · rw [if_neg hn] at he
      have hc : ringN C R B F cl n = 0 := if_neg (by rw [he]; decide)
      rw [hc, he]
      exact ring_out w hok hr hn
  · obtain ⟨he, hne⟩ := holeErr_bad n hok
    have hc : ringN C R B F cl n = 0 := if_neg hne
    rw [hc, he]
    exact ring_bad w hok hB hcl hr

theorem info31 {a b : Value} : (Try.prog.info? 31).map (·.size) = some #[a, b].size := by
  show _ = some 2
  kernel_rfl
theorem info36 {a b : Value} : (Try.prog.info? 36).map (·.size) = some #[a, b].size := by
  show _ = some 2
  kernel_rfl

set_option maxRecDepth 100000 in
set_option maxHeartbeats 1000000 in
theorem refColumn17_any (C R B F : Int) (A : Option Addr) (cap : Nat) (cl : List Int) (n : Int) (w : World) (hcl : cl.length ≤ 1000000) (hr : Ints w w.heap.size A cl) :
    Calls Try.prog 17 #[.agg #[.int .i64 C, .int .i64 R, .int .i64 B, .int .i64 F, .slice A cl.length cap], .int .i64 n] w fun e w' => e = .returned (.agg #[.int .i64 (colN C R B F cl n), .int .i64 (holeErr C R B F cl n)]) ∧ Below w.heap.size w w' := by
  have hb0 : Below w.heap.size w ((w.alloc (.cells #[.int .i64 C, .int .i64 R, .int .i64 B, .int .i64 F, .slice A cl.length cap] 24)).alloc (.cells #[.int .i64 0, .int .i64 0] 31)) := (below_new w (.cells #[.int .i64 C, .int .i64 R, .int .i64 B, .int .i64 F, .slice A cl.length cap] 24)).alloc (by simp) _
  have hbk : Blk ((w.alloc (.cells #[.int .i64 C, .int .i64 R, .int .i64 B, .int .i64 F, .slice A cl.length cap] 24)).alloc (.cells #[.int .i64 0, .int .i64 0] 31)) w.heap.size 24 #[.int .i64 C, .int .i64 R, .int .i64 B, .int .i64 F, .slice A cl.length cap] := (Blk.new _ _ _).alloc _
  have hbq : Blk ((w.alloc (.cells #[.int .i64 C, .int .i64 R, .int .i64 B, .int .i64 F, .slice A cl.length cap] 24)).alloc (.cells #[.int .i64 0, .int .i64 0] 31)) (w.heap.size + 1) 31 #[.int .i64 0, .int .i64 0] := Blk.newAt (by simp)
  have hr1 := hr.behind hb0
  by_cases hok : Ok C R B F cl
  · have hz : Hid (chk C R B F cl = 0) := chk_ok.2 hok
    have k1 := hok.c3
    have k2 := hok.c120
    have g0 := hok.holes0
    have g1 := hok.holes
    have he := holeErr_ok n hok
    have hC : (C == 0) = false := by simp; omega
    have hw1 : IntKind.i64.wrap (R * C) = R * C := IntWalk.i64_in _ (by rw [Int.mul_comm]; omega)
    have hw2 : IntKind.i64.wrap (R * C - 1) = R * C - 1 := IntWalk.i64_in _ (by rw [Int.mul_comm]; omega)
    by_cases hn : 0 ≤ n ∧ n < C * R
    · rw [if_pos hn] at he
      have hc : colN C R B F cl n = n % C := if_pos he
      rw [hc, he]
      have D1 : Hid (decide (0 ≤ n ∧ n ≤ R * C - 1) = true) := decide_eq_true (by rw [Int.mul_comm R C]; omega)
      obtain ⟨h0, h1⟩ := hn
      clear he hc hok
      go_enter Try.func17, Try.ntmps17
      go_wp2_with (first
        | (go_at_call 27; refine (refCheck_any C R B F A cap cl _ hcl hr1).mono ?_; rw [hz.out]; rintro e w1 ⟨rfl, hb1⟩; have hbq1 := hbq.below hb1 (by simp); have hbk1 := hbk.below hb1 (by simp; omega); obtain ⟨d0, d1, d2, d3, d4⟩ := hbk1.five; obtain ⟨m0, m1, m2, m3⟩ : w1.cell? ⟨w.heap.size + 1, 0, none⟩ = some (.int .i64 0) ∧ w1.cell? ⟨w.heap.size + 1, 1, none⟩ = some (.int .i64 0) ∧ w1.frozen? ⟨w.heap.size + 1, 0, none⟩ = false ∧ w1.frozen? ⟨w.heap.size + 1, 1, none⟩ = false := ⟨hbq1.cell 0, hbq1.cell 1, hbq1.frozen 0, hbq1.frozen 1⟩)
        | (go_at_call 61; refine (in_any _ _ _ _).mono ?_; rw [D1.out]; rintro e w2 ⟨rfl, rfl⟩))
      refine bodyPost_ret (v := .agg #[.int .i64 (n % C), .int .i64 0]) (results_cell_row (g := w.heap.size + 1) rfl _ _ 31 _ (0, 0) _ rfl ((hbq1.store 0 (.int .i64 (n % C))).store 1 (.int .i64 0)) Try.underlying31 rfl info31) rfl ?_
      exact ⟨rfl, ((below_next hb0 (by simp; omega) hb1).setCell (p := ⟨w.heap.size + 1, 0, none⟩) (by simp) _).setCell (p := ⟨w.heap.size + 1, 1, none⟩) (by simp) _⟩
    · rw [if_neg hn] at he
      have hc : colN C R B F cl n = 0 := if_neg (by rw [he]; decide)
      rw [hc, he]
      have D1 : Hid (decide (0 ≤ n ∧ n ≤ R * C - 1) = false) := decide_eq_false (by rw [Int.mul_comm R C]; omega)
      clear he hc hok hn
      go_enter Try.func17, Try.ntmps17
      go_wp2_with (first
        | (go_at_call 27; refine (refCheck_any C R B F A cap cl _ hcl hr1).mono ?_; rw [hz.out]; rintro e w1 ⟨rfl, hb1⟩; have hbq1 := hbq.below hb1 (by simp); have hbk1 := hbk.below hb1 (by simp; omega); obtain ⟨d0, d1, d2, d3, d4⟩ := hbk1.five; obtain ⟨m0, m1, m2, m3⟩ : w1.cell? ⟨w.heap.size + 1, 0, none⟩ = some (.int .i64 0) ∧ w1.cell? ⟨w.heap.size + 1, 1, none⟩ = some (.int .i64 0) ∧ w1.frozen? ⟨w.heap.size + 1, 0, none⟩ = false ∧ w1.frozen? ⟨w.heap.size + 1, 1, none⟩ = false := ⟨hbq1.cell 0, hbq1.cell 1, hbq1.frozen 0, hbq1.frozen 1⟩)
        | (go_at_call 61; refine (in_any _ _ _ _).mono ?_; rw [D1.out]; rintro e w2 ⟨rfl, rfl⟩))
      refine bodyPost_ret (v := .agg #[.int .i64 0, .int .i64 1]) (results_cell_row (g := w.heap.size + 1) rfl _ _ 31 _ (0, 0) _ rfl ((hbq1.store 0 (.int .i64 0)).store 1 (.int .i64 1)) Try.underlying31 rfl info31) rfl ?_
      exact ⟨rfl, ((below_next hb0 (by simp; omega) hb1).setCell (p := ⟨w.heap.size + 1, 0, none⟩) (by simp) _).setCell (p := ⟨w.heap.size + 1, 1, none⟩) (by simp) _⟩
  · obtain ⟨n1, n2⟩ := chk_ne hok
    obtain ⟨he, hne⟩ := holeErr_bad n hok
    have hc : colN C R B F cl n = 0 := if_neg hne
    rw [hc, he]
    clear hok he hne hc
    go_enter Try.func17, Try.ntmps17
    go_wp2_with (first
      | (go_at_call 27; refine (refCheck_any C R B F A cap cl _ hcl hr1).mono ?_; rintro e w1 ⟨rfl, hb1⟩; have hbq1 := hbq.below hb1 (by simp); obtain ⟨m0, m1, m2, m3⟩ : w1.cell? ⟨w.heap.size + 1, 0, none⟩ = some (.int .i64 0) ∧ w1.cell? ⟨w.heap.size + 1, 1, none⟩ = some (.int .i64 0) ∧ w1.frozen? ⟨w.heap.size + 1, 0, none⟩ = false ∧ w1.frozen? ⟨w.heap.size + 1, 1, none⟩ = false := ⟨hbq1.cell 0, hbq1.cell 1, hbq1.frozen 0, hbq1.frozen 1⟩))
    refine bodyPost_ret (v := .agg #[.int .i64 0, .int .i64 (chk C R B F cl)]) (results_cell_row (g := w.heap.size + 1) rfl _ _ 31 _ (0, 0) _ rfl ((hbq1.store 0 (.int .i64 0)).store 1 (.int .i64 (chk C R B F cl))) Try.underlying31 rfl info31) rfl ?_
    exact ⟨rfl, ((below_next hb0 (by simp; omega) hb1).setCell (p := ⟨w.heap.size + 1, 0, none⟩) (by simp) _).setCell (p := ⟨w.heap.size + 1, 1, none⟩) (by simp) _⟩

set_option maxRecDepth 100000 in
set_option maxHeartbeats 1000000 in
theorem refRing19_any (C R B F : Int) (A : Option Addr) (cap : Nat) (cl : List Int) (n : Int) (w : World) (hcl : cl.length ≤ 1000000) (hr : Ints w w.heap.size A cl) :
    Calls Try.prog 19 #[.agg #[.int .i64 C, .int .i64 R, .int .i64 B, .int .i64 F, .slice A cl.length cap], .int .i64 n] w fun e w' => e = .returned (.agg #[.int .i64 (ringN C R B F cl n), .int .i64 (holeErr C R B F cl n)]) ∧ Below w.heap.size w w' := by
  have hb0 : Below w.heap.size w ((w.alloc (.cells #[.int .i64 C, .int .i64 R, .int .i64 B, .int .i64 F, .slice A cl.length cap] 24)).alloc (.cells #[.int .i64 0, .int .i64 0] 31)) := (below_new w (.cells #[.int .i64 C, .int .i64 R, .int .i64 B, .int .i64 F, .slice A cl.length cap] 24)).alloc (by simp) _
  have hbk : Blk ((w.alloc (.cells #[.int .i64 C, .int .i64 R, .int .i64 B, .int .i64 F, .slice A cl.length cap] 24)).alloc (.cells #[.int .i64 0, .int .i64 0] 31)) w.heap.size 24 #[.int .i64 C, .int .i64 R, .int .i64 B, .int .i64 F, .slice A cl.length cap] := (Blk.new _ _ _).alloc _
  have hbq : Blk ((w.alloc (.cells #[.int .i64 C, .int .i64 R, .int .i64 B, .int .i64 F, .slice A cl.length cap] 24)).alloc (.cells #[.int .i64 0, .int .i64 0] 31)) (w.heap.size + 1) 31 #[.int .i64 0, .int .i64 0] := Blk.newAt (by simp)
  have hr1 := hr.behind hb0
  by_cases he : holeErr C R B F cl n = 0
  · have hc : ringN C R B F cl n = n / C := if_pos he
    have hd : colN C R B F cl n = n % C := if_pos he
    have hok : Ok C R B F cl := by
      refine Classical.byContradiction fun h => ?_
      exact (holeErr_bad n h).2 he
    have k1 := hok.c3
    have k2 := hok.c120
    have hhn := holeErr_ok n hok
    have hnn : 0 ≤ n ∧ n < C * R := by
      refine Classical.byContradiction fun h => ?_
      rw [if_neg h, he] at hhn
      cases hhn
    have g1 := hok.holes
    have hC : (C == 0) = false := by simp; omega
    obtain ⟨h0, h1⟩ := hnn
    have hq0 : 0 ≤ n / C := Int.ediv_nonneg h0 (by omega)
    have hq1 : n / C ≤ n := Int.ediv_le_self _ h0
    rw [hc, he]
    have HE := Lib.hid he
    have HD := Lib.hid hd
    clear hc hok he hd hhn
    go_enter Try.func19, Try.ntmps19
    go_wp2_with (first
      | (go_at_call 17; refine (refColumn17_any C R B F A cap cl n _ hcl hr1).mono ?_; rw [HE.out, HD.out]; rintro e w1 ⟨rfl, hb1⟩; have hbk1 := (hbk.below hb1 (by simp; omega)).alloc (.cells #[.int .i64 (n % C), .int .i64 0] 31); obtain ⟨d0, d1, d2, d3, d4⟩ := hbk1.five; have hbq1 := (hbq.below hb1 (by simp)).alloc (.cells #[.int .i64 (n % C), .int .i64 0] 31); obtain ⟨m0, m1, m2, m3⟩ : (w1.alloc (.cells #[.int .i64 (n % C), .int .i64 0] 31)).cell? ⟨w.heap.size + 1, 0, none⟩ = some (.int .i64 0) ∧ (w1.alloc (.cells #[.int .i64 (n % C), .int .i64 0] 31)).cell? ⟨w.heap.size + 1, 1, none⟩ = some (.int .i64 0) ∧ (w1.alloc (.cells #[.int .i64 (n % C), .int .i64 0] 31)).frozen? ⟨w.heap.size + 1, 0, none⟩ = false ∧ (w1.alloc (.cells #[.int .i64 (n % C), .int .i64 0] 31)).frozen? ⟨w.heap.size + 1, 1, none⟩ = false := ⟨hbq1.cell 0, hbq1.cell 1, hbq1.frozen 0, hbq1.frozen 1⟩))
    refine bodyPost_ret (v := .agg #[.int .i64 (n / C), .int .i64 0]) (results_cell_row (g := w.heap.size + 1) rfl _ _ 31 _ (0, 0) _ rfl ((hbq1.store 0 (.int .i64 (n / C))).store 1 (.int .i64 0)) Try.underlying31 rfl info31) rfl ?_
    have hz1 := hb1.size
    simp at hz1
    exact ⟨rfl, (((below_next hb0 (by simp; omega) hb1).alloc (by omega) _).setCell (p := ⟨w.heap.size + 1, 0, none⟩) (by simp) _).setCell (p := ⟨w.heap.size + 1, 1, none⟩) (by simp) _⟩
  · have hc : ringN C R B F cl n = 0 := if_neg he
    have hd : colN C R B F cl n = 0 := if_neg he
    have n1 : (holeErr C R B F cl n == 0) = false := by simpa using he
    have n2 : (holeErr C R B F cl n != 0) = true := by simpa using he
    rw [hc]
    have HD := Lib.hid hd
    clear hc he hd
    go_enter Try.func19, Try.ntmps19
    go_wp2_with (first
      | (go_at_call 17; refine (refColumn17_any C R B F A cap cl n _ hcl hr1).mono ?_; rw [HD.out]; rintro e w1 ⟨rfl, hb1⟩; have hbq1 := (hbq.below hb1 (by simp)).alloc (.cells #[.int .i64 0, .int .i64 (holeErr C R B F cl n)] 31); obtain ⟨m0, m1, m2, m3⟩ : (w1.alloc (.cells #[.int .i64 0, .int .i64 (holeErr C R B F cl n)] 31)).cell? ⟨w.heap.size + 1, 0, none⟩ = some (.int .i64 0) ∧ (w1.alloc (.cells #[.int .i64 0, .int .i64 (holeErr C R B F cl n)] 31)).cell? ⟨w.heap.size + 1, 1, none⟩ = some (.int .i64 0) ∧ (w1.alloc (.cells #[.int .i64 0, .int .i64 (holeErr C R B F cl n)] 31)).frozen? ⟨w.heap.size + 1, 0, none⟩ = false ∧ (w1.alloc (.cells #[.int .i64 0, .int .i64 (holeErr C R B F cl n)] 31)).frozen? ⟨w.heap.size + 1, 1, none⟩ = false := ⟨hbq1.cell 0, hbq1.cell 1, hbq1.frozen 0, hbq1.frozen 1⟩))
    refine bodyPost_ret (v := .agg #[.int .i64 0, .int .i64 (holeErr C R B F cl n)]) (results_cell_row (g := w.heap.size + 1) rfl _ _ 31 _ (0, 0) _ rfl ((hbq1.store 0 (.int .i64 0)).store 1 (.int .i64 (holeErr C R B F cl n))) Try.underlying31 rfl info31) rfl ?_
    have hz1 := hb1.size
    simp at hz1
    exact ⟨rfl, (((below_next hb0 (by simp; omega) hb1).alloc (by omega) _).setCell (p := ⟨w.heap.size + 1, 0, none⟩) (by simp) _).setCell (p := ⟨w.heap.size + 1, 1, none⟩) (by simp) _⟩

/-- what one of the reference's functions hands back that makes numbers or has an error -/
def RetIntsE (w : World) (l : List Int) (er : Int) (e : Ending) (w' : World) : Prop :=
  ∃ A c, e = .returned (.agg #[.slice A l.length c, .int .i64 er]) ∧ l.length ≤ c ∧ c ≤ maxLen ∧ Ints w' w'.heap.size A l ∧ Below w.heap.size w w'

end Go.Proofs.Ytnjmkdgglpcfpaa

namespace Go.Proofs.Ytnjmkdgglpcfpaa
set_option linter.unusedSimpArgs false
set_option linter.unusedVariables false
open Go.RowKit

set_option maxRecDepth 100000 in
set_option maxHeartbeats 1000000 in
theorem refReaches21_any (C R B F : Int) (A : Option Addr) (cap : Nat) (cl : List Int) (c : Int) (w : World) (hcl : cl.length ≤ 1000000) (hr : Ints w w.heap.size A cl) :
    Calls Try.prog 21 #[.agg #[.int .i64 C, .int .i64 R, .int .i64 B, .int .i64 F, .slice A cl.length cap], .int .i64 c] w (RetIntsE w (if colErr C R B F cl c = 0 then rchL C B c (B + F + 1).toNat else []) (colErr C R B F cl c)) := by
  have hb0 : Below w.heap.size w ((w.alloc (.cells #[.int .i64 C, .int .i64 R, .int .i64 B, .int .i64 F, .slice A cl.length cap] 24)).alloc (.cells #[.slice none 0 0, .int .i64 0] 36)) := (below_new w (.cells #[.int .i64 C, .int .i64 R, .int .i64 B, .int .i64 F, .slice A cl.length cap] 24)).alloc (by simp) _
  have hbk : Blk ((w.alloc (.cells #[.int .i64 C, .int .i64 R, .int .i64 B, .int .i64 F, .slice A cl.length cap] 24)).alloc (.cells #[.slice none 0 0, .int .i64 0] 36)) w.heap.size 24 #[.int .i64 C, .int .i64 R, .int .i64 B, .int .i64 F, .slice A cl.length cap] := (Blk.new _ _ _).alloc _
  have hbq : Blk ((w.alloc (.cells #[.int .i64 C, .int .i64 R, .int .i64 B, .int .i64 F, .slice A cl.length cap] 24)).alloc (.cells #[.slice none 0 0, .int .i64 0] 36)) (w.heap.size + 1) 36 #[.slice none 0 0, .int .i64 0] := Blk.newAt (by simp)
  have hr1 := hr.behind hb0
  by_cases he : colErr C R B F cl c = 0
  · obtain ⟨hok, hc⟩ := colErr_zero he
    have k1 := hok.c3
    have k2 := hok.c120
    have k3 := hok.b0
    have k4 := hok.f0
    have k5 := hok.bf
    rw [if_pos he, he]
    have HE := Lib.hid he
    clear he hok
    go_enter Try.func21, Try.ntmps21
    go_wp2_with (first
      | (go_at_call 65; refine (refColumn_any C R B F A cap cl c _ hcl hr1).mono ?_; rw [HE.out]; rintro e w1 ⟨rfl, hb1⟩; have hbq1 := hbq.below hb1 (by simp); have hbk1 := hbk.below hb1 (by simp; omega); obtain ⟨d0, d1, d2, d3, d4⟩ := hbk1.five)
      | (go_at_call 66; refine (refReaches_own C R B F _ c _ (by omega) k2 hc.1 hc.2 k3 k4 k5).mono ?_; rintro e w2 ⟨S, sap, rfl, hown, hb2⟩; have hbq2 := hbq1.below hb2 hbq1.lt; obtain ⟨m0, m1, m2, m3⟩ : w2.cell? ⟨w.heap.size + 1, 0, none⟩ = some (.slice none 0 0) ∧ w2.cell? ⟨w.heap.size + 1, 1, none⟩ = some (.int .i64 0) ∧ w2.frozen? ⟨w.heap.size + 1, 0, none⟩ = false ∧ w2.frozen? ⟨w.heap.size + 1, 1, none⟩ = false := ⟨hbq2.cell 0, hbq2.cell 1, hbq2.frozen 0, hbq2.frozen 1⟩))
    have hz1 := hb1.size
    have hz2 := hb2.size
    have hq1 := hbq1.lt
    simp at hz1
    obtain ⟨s1, s2, _⟩ := own_facts hown
    have ho2 := ownsRow_setCell_below (ownsRow_setCell_below hown (a := ⟨w.heap.size + 1, 0, none⟩) (show w.heap.size + 1 < w1.heap.size by omega) (.slice S (rchL C B c (B + F + 1).toNat).length sap)) (a := ⟨w.heap.size + 1, 1, none⟩) (show w.heap.size + 1 < w1.heap.size by omega) (.int .i64 0)
    refine bodyPost_ret (v := .agg #[.slice S (rchL C B c (B + F + 1).toNat).length sap, .int .i64 0]) (results_cell_row (g := w.heap.size + 1) rfl _ _ 36 _ (0, 0) _ rfl ((hbq2.store 0 (.slice S (rchL C B c (B + F + 1).toNat).length sap)).store 1 (.int .i64 0)) Try.underlying36 rfl info36) rfl ?_
    exact ⟨S, sap, rfl, s1, s2, Ints.of_own ho2, ((below_next (below_next hb0 (by simp; omega) hb1) (by omega) hb2).setCell (p := ⟨w.heap.size + 1, 0, none⟩) (by simp) _).setCell (p := ⟨w.heap.size + 1, 1, none⟩) (by simp) _⟩
  · have n1 : (colErr C R B F cl c == 0) = false := by simpa using he
    have n2 : (colErr C R B F cl c != 0) = true := by simpa using he
    rw [if_neg he]
    clear he
    go_enter Try.func21, Try.ntmps21
    go_wp2_with (first
      | (go_at_call 65; refine (refColumn_any C R B F A cap cl c _ hcl hr1).mono ?_; rintro e w1 ⟨rfl, hb1⟩; have hbq1 := hbq.below hb1 (by simp); obtain ⟨m0, m1, m2, m3⟩ : w1.cell? ⟨w.heap.size + 1, 0, none⟩ = some (.slice none 0 0) ∧ w1.cell? ⟨w.heap.size + 1, 1, none⟩ = some (.int .i64 0) ∧ w1.frozen? ⟨w.heap.size + 1, 0, none⟩ = false ∧ w1.frozen? ⟨w.heap.size + 1, 1, none⟩ = false := ⟨hbq1.cell 0, hbq1.cell 1, hbq1.frozen 0, hbq1.frozen 1⟩))
    refine bodyPost_ret (v := .agg #[.slice none 0 0, .int .i64 (colErr C R B F cl c)]) (results_cell_row (g := w.heap.size + 1) rfl _ _ 36 _ (0, 0) _ rfl ((hbq1.store 0 (.slice none 0 0)).store 1 (.int .i64 (colErr C R B F cl c))) Try.underlying36 rfl info36) rfl ?_
    exact ⟨none, 0, rfl, Nat.le_refl _, by simp [maxLen], Ints.nil, ((below_next hb0 (by simp; omega) hb1).setCell (p := ⟨w.heap.size + 1, 0, none⟩) (by simp) _).setCell (p := ⟨w.heap.size + 1, 1, none⟩) (by simp) _⟩

set_option maxRecDepth 100000 in
set_option maxHeartbeats 1000000 in
theorem refStands23_any (C R B F : Int) (A : Option Addr) (cap : Nat) (cl : List Int) (c : Int) (w : World) (hcl : cl.length ≤ 1000000) (hr : Ints w w.heap.size A cl) :
    Calls Try.prog 23 #[.agg #[.int .i64 C, .int .i64 R, .int .i64 B, .int .i64 F, .slice A cl.length cap], .int .i64 c] w (RetIntsE w (if colErr C R B F cl c = 0 then rstL C B F cl c else []) (colErr C R B F cl c)) := by
  have hb0 : Below w.heap.size w ((w.alloc (.cells #[.int .i64 C, .int .i64 R, .int .i64 B, .int .i64 F, .slice A cl.length cap] 24)).alloc (.cells #[.slice none 0 0, .int .i64 0] 36)) := (below_new w (.cells #[.int .i64 C, .int .i64 R, .int .i64 B, .int .i64 F, .slice A cl.length cap] 24)).alloc (by simp) _
  have hbk : Blk ((w.alloc (.cells #[.int .i64 C, .int .i64 R, .int .i64 B, .int .i64 F, .slice A cl.length cap] 24)).alloc (.cells #[.slice none 0 0, .int .i64 0] 36)) w.heap.size 24 #[.int .i64 C, .int .i64 R, .int .i64 B, .int .i64 F, .slice A cl.length cap] := (Blk.new _ _ _).alloc _
  have hbq : Blk ((w.alloc (.cells #[.int .i64 C, .int .i64 R, .int .i64 B, .int .i64 F, .slice A cl.length cap] 24)).alloc (.cells #[.slice none 0 0, .int .i64 0] 36)) (w.heap.size + 1) 36 #[.slice none 0 0, .int .i64 0] := Blk.newAt (by simp)
  have hr1 := hr.behind hb0
  by_cases he : colErr C R B F cl c = 0
  · obtain ⟨hok, hc⟩ := colErr_zero he
    have k1 := hok.c3
    have k2 := hok.c120
    have k3 := hok.b0
    have k4 := hok.f0
    have k5 := hok.bf
    rw [if_pos he, he]
    have HE := Lib.hid he
    clear he hok
    go_enter Try.func23, Try.ntmps23
    go_wp2_with (first
      | (go_at_call 65; refine (refColumn_any C R B F A cap cl c _ hcl hr1).mono ?_; rw [HE.out]; rintro e w1 ⟨rfl, hb1⟩; have hbq1 := hbq.below hb1 (by simp); have hbk1 := hbk.below hb1 (by simp; omega); obtain ⟨d0, d1, d2, d3, d4⟩ := hbk1.five)
      | (go_at_call 69; refine (refStands_own C R B F A cap cl c _ (by omega) k2 k3 k4 k5 hcl (hr1.behind hb1)).mono ?_; rintro e w2 ⟨S, sap, rfl, hown, hb2⟩; have hbq2 := hbq1.below hb2 hbq1.lt; obtain ⟨m0, m1, m2, m3⟩ : w2.cell? ⟨w.heap.size + 1, 0, none⟩ = some (.slice none 0 0) ∧ w2.cell? ⟨w.heap.size + 1, 1, none⟩ = some (.int .i64 0) ∧ w2.frozen? ⟨w.heap.size + 1, 0, none⟩ = false ∧ w2.frozen? ⟨w.heap.size + 1, 1, none⟩ = false := ⟨hbq2.cell 0, hbq2.cell 1, hbq2.frozen 0, hbq2.frozen 1⟩))
    have hz1 := hb1.size
    have hz2 := hb2.size
    have hq1 := hbq1.lt
    simp at hz1
    obtain ⟨s1, s2, _⟩ := own_facts hown
    have ho2 := ownsRow_setCell_below (ownsRow_setCell_below hown (a := ⟨w.heap.size + 1, 0, none⟩) (show w.heap.size + 1 < w1.heap.size by omega) (.slice S (rstL C B F cl c).length sap)) (a := ⟨w.heap.size + 1, 1, none⟩) (show w.heap.size + 1 < w1.heap.size by omega) (.int .i64 0)
    refine bodyPost_ret (v := .agg #[.slice S (rstL C B F cl c).length sap, .int .i64 0]) (results_cell_row (g := w.heap.size + 1) rfl _ _ 36 _ (0, 0) _ rfl ((hbq2.store 0 (.slice S (rstL C B F cl c).length sap)).store 1 (.int .i64 0)) Try.underlying36 rfl info36) rfl ?_
    exact ⟨S, sap, rfl, s1, s2, Ints.of_own ho2, ((below_next (below_next hb0 (by simp; omega) hb1) (by omega) hb2).setCell (p := ⟨w.heap.size + 1, 0, none⟩) (by simp) _).setCell (p := ⟨w.heap.size + 1, 1, none⟩) (by simp) _⟩
  · have n1 : (colErr C R B F cl c == 0) = false := by simpa using he
    have n2 : (colErr C R B F cl c != 0) = true := by simpa using he
    rw [if_neg he]
    clear he
    go_enter Try.func23, Try.ntmps23
    go_wp2_with (first
      | (go_at_call 65; refine (refColumn_any C R B F A cap cl c _ hcl hr1).mono ?_; rintro e w1 ⟨rfl, hb1⟩; have hbq1 := hbq.below hb1 (by simp); obtain ⟨m0, m1, m2, m3⟩ : w1.cell? ⟨w.heap.size + 1, 0, none⟩ = some (.slice none 0 0) ∧ w1.cell? ⟨w.heap.size + 1, 1, none⟩ = some (.int .i64 0) ∧ w1.frozen? ⟨w.heap.size + 1, 0, none⟩ = false ∧ w1.frozen? ⟨w.heap.size + 1, 1, none⟩ = false := ⟨hbq1.cell 0, hbq1.cell 1, hbq1.frozen 0, hbq1.frozen 1⟩))
    refine bodyPost_ret (v := .agg #[.slice none 0 0, .int .i64 (colErr C R B F cl c)]) (results_cell_row (g := w.heap.size + 1) rfl _ _ 36 _ (0, 0) _ rfl ((hbq1.store 0 (.slice none 0 0)).store 1 (.int .i64 (colErr C R B F cl c))) Try.underlying36 rfl info36) rfl ?_
    exact ⟨none, 0, rfl, Nat.le_refl _, by simp [maxLen], Ints.nil, ((below_next hb0 (by simp; omega) hb1).setCell (p := ⟨w.heap.size + 1, 0, none⟩) (by simp) _).setCell (p := ⟨w.heap.size + 1, 1, none⟩) (by simp) _⟩

set_option maxRecDepth 100000 in
set_option maxHeartbeats 1000000 in
/-- Stands: whatever the house and the column -/
theorem stands22_any (C R B F : Int) (A : Option Addr) (cap : Nat) (cl : List Int) (c : Int) (w : World) (hB : B ≤ 9223372036854775807) (hcl : cl.length ≤ 9223372036854775807) (hr : Ints w w.heap.size A cl) :
    Calls Try.prog 22 #[.agg #[.int .i64 C, .int .i64 R, .int .i64 B, .int .i64 F, .slice A cl.length cap], .int .i64 c] w (RetInts2 w (if colErr C R B F cl c = 0 then opens C B F (isIn cl) c else []) (colErr C R B F cl c)) := by
  by_cases he : colErr C R B F cl c = 0
  · obtain ⟨hok, hc⟩ := colErr_zero he
    rw [if_pos he, he]
    exact stands_ok w hok hr hc
  · have n1 : (colErr C R B F cl c == 0) = false := by simpa using he
    have n2 : (colErr C R B F cl c != 0) = true := by simpa using he
    have hb0 := below_new w (.cells #[.int .i64 C, .int .i64 R, .int .i64 B, .int .i64 F, .slice A cl.length cap] 24)
    have hr1 := hr.behind hb0
    rw [if_neg he]
    clear he
    go_enter Try.func22, Try.ntmps22
    go_wp2_with (first
      | (go_at_call 62; refine (checkColumn_any C R B F A cap cl c _ hB hcl hr1).mono ?_; rintro e w1 ⟨rfl, hb1⟩))
    go_ret2
    exact RetInts2.err (below_next hb0 (by simp) hb1)

set_option maxRecDepth 100000 in
set_option maxHeartbeats 1000000 in
/-- SameHouse -/
theorem sameHouse_any (C R B F : Int) (A : Option Addr) (cap : Nat) (l m : List Int) (D : Option Addr) (dap : Nat) (w : World) (he : l = m) (hll : l.length ≤ 1000000) (hr : Ints w w.heap.size A l) (hs : Ints w w.heap.size D m) :
    Calls Try.prog 29 #[.agg #[.int .i64 C, .int .i64 R, .int .i64 B, .int .i64 F, .slice A l.length cap], .agg #[.int .i64 C, .int .i64 R, .int .i64 B, .int .i64 F, .slice D m.length dap]] w fun e w' => e = .returned (.bool true) ∧ Below w.heap.size w w' := by
  subst he
  have hb0 : Below w.heap.size w ((w.alloc (.cells #[.int .i64 C, .int .i64 R, .int .i64 B, .int .i64 F, .slice A l.length cap] 24)).alloc (.cells #[.int .i64 C, .int .i64 R, .int .i64 B, .int .i64 F, .slice D l.length dap] 24)) := (below_new w _).alloc (by simp) _
  have hbk : Blk ((w.alloc (.cells #[.int .i64 C, .int .i64 R, .int .i64 B, .int .i64 F, .slice A l.length cap] 24)).alloc (.cells #[.int .i64 C, .int .i64 R, .int .i64 B, .int .i64 F, .slice D l.length dap] 24)) w.heap.size 24 #[.int .i64 C, .int .i64 R, .int .i64 B, .int .i64 F, .slice A l.length cap] := (Blk.new _ _ _).alloc _
  have hbq : Blk ((w.alloc (.cells #[.int .i64 C, .int .i64 R, .int .i64 B, .int .i64 F, .slice A l.length cap] 24)).alloc (.cells #[.int .i64 C, .int .i64 R, .int .i64 B, .int .i64 F, .slice D l.length dap] 24)) (w.heap.size + 1) 24 #[.int .i64 C, .int .i64 R, .int .i64 B, .int .i64 F, .slice D l.length dap] := Blk.newAt (by simp)
  have hr1 := hr.behind hb0
  have hs1 := hs.behind hb0
  go_enter Try.func29, Try.ntmps29
  go_wp2_with (first
    | (go_at_call 28; refine (same_n _ hr1 hs1 rfl rfl hll rfl).mono ?_; rintro e w1 ⟨rfl, hb1⟩; obtain ⟨d0, d1, d2, d3, d4⟩ := (hbk.below hb1 (by simp; omega)).five; obtain ⟨e0, e1, e2, e3, e4⟩ := (hbq.below hb1 (by simp)).five))
  go_ret
  exact ⟨rfl, below_next hb0 (by simp; omega) hb1⟩

end Go.Proofs.Ytnjmkdgglpcfpaa

namespace Go.Proofs.Ytnjmkdgglpcfpaa
set_option linter.unusedSimpArgs false
set_option linter.unusedVariables false
open Go.RowKit

theorem Blk.fz5 {w : World} {g : Nat} {t : TypeId} {a b c d e : Value} (h : Blk w g t #[a, b, c, d, e]) :
    w.frozen? ⟨g, 0, none⟩ = false ∧ w.frozen? ⟨g, 1, none⟩ = false ∧ w.frozen? ⟨g, 2, none⟩ = false ∧ w.frozen? ⟨g, 3, none⟩ = false ∧ w.frozen? ⟨g, 4, none⟩ = false :=
  ⟨h.frozen 0, h.frozen 1, h.frozen 2, h.frozen 3, h.frozen 4⟩
/-- the error of 'Turned' -/
def turnErr (C R B F : Int) (cl : List Int) (y : Int) : Int := if chk C R B F cl ≠ 0 then chk C R B F cl else if -120 ≤ y ∧ y ≤ 120 then 0 else 1
theorem turnErr_bad {C R B F : Int} {cl : List Int} (y : Int) (h : ¬ Ok C R B F cl) : turnErr C R B F cl y = chk C R B F cl ∧ turnErr C R B F cl y ≠ 0 := by
  have h0 : chk C R B F cl ≠ 0 := fun e => h (chk_ok.1 e)
  have h1 : turnErr C R B F cl y = chk C R B F cl := if_pos h0
  exact ⟨h1, by rw [h1]; exact h0⟩
theorem turnErr_ok {C R B F : Int} {cl : List Int} (y : Int) (h : Ok C R B F cl) : turnErr C R B F cl y = if -120 ≤ y ∧ y ≤ 120 then 0 else 1 := if_neg fun e => e (chk_ok.2 h)
/-- the closed stands of a house that is turned -/
def turnedL (C : Int) (cl : List Int) (y : Int) : List Int := srt (cl.map fun c => (c + y) % C)
/-- what is handed back: a house and an error -/
def RetHouse (w : World) (C R B F : Int) (l : List Int) (er : Int) (e : Ending) (w' : World) : Prop :=
  ∃ A c, e = .returned (.tuple #[.agg #[.int .i64 C, .int .i64 R, .int .i64 B, .int .i64 F, .slice A l.length c], .int .i64 er]) ∧ l.length ≤ c ∧ c ≤ maxLen ∧ Ints w' w'.heap.size A l ∧ Below w.heap.size w w'
/-- k numbers, and zeros behind them -/
def part (l : List Int) (m : Nat) : Array Value := (l.map (Value.int .i64) ++ List.replicate m (Value.int .i64 0)).toArray
theorem part_set (l : List Int) (m : Nat) (x : Int) : (part l (m + 1)).setIfInBounds l.length (.int .i64 x) = part (l ++ [x]) m := by
  unfold part
  rw [List.setIfInBounds_toArray]
  congr 1
  rw [List.set_append_right _ _ (by simp)]
  simp [List.replicate_succ]
theorem part_get (l : List Int) (m : Nat) : (part l (m + 1))[l.length]? = some (.int .i64 0) := by
  unfold part
  simp [List.getElem?_append_right, List.replicate_succ]
theorem own_part {w : World} {g base : Nat} {l : List Int} (h : Blk w g 3 (part l 0)) (hb : base ≤ g) (hm : l.length ≤ maxLen) : w.ownsRow base 3 1 (.slice (some ⟨g, 0, none⟩) l.length l.length) l.length (l.map (Value.int .i64)) := by
  refine ⟨by simp, .inr ⟨g, l.length, part l 0, rfl, hb, h, Nat.le_refl _, hm, by simp [part], ?_⟩⟩
  simp [part, List.take_of_length_le]

set_option maxRecDepth 100000 in
set_option maxHeartbeats 2000000 in
theorem turned24_any (C R B F : Int) (A : Option Addr) (cap : Nat) (cl : List Int) (y : Int) (w : World) (hB : B ≤ 9223372036854775807) (hcl : cl.length ≤ 9223372036854775807) (hr : Ints w w.heap.size A cl) :
    Calls Try.prog 24 #[.agg #[.int .i64 C, .int .i64 R, .int .i64 B, .int .i64 F, .slice A cl.length cap], .int .i64 y] w (RetHouse w (if turnErr C R B F cl y = 0 then C else 0) (if turnErr C R B F cl y = 0 then R else 0) (if turnErr C R B F cl y = 0 then B else 0) (if turnErr C R B F cl y = 0 then F else 0) (if turnErr C R B F cl y = 0 then turnedL C cl y else []) (turnErr C R B F cl y)) := by
  have hb0 : Below w.heap.size w ((w.alloc (.cells #[.int .i64 C, .int .i64 R, .int .i64 B, .int .i64 F, .slice A cl.length cap] 24)).alloc (.cells #[.int .i64 0, .int .i64 0, .int .i64 0, .int .i64 0, .slice none 0 0] 24)) := (below_new w (.cells #[.int .i64 C, .int .i64 R, .int .i64 B, .int .i64 F, .slice A cl.length cap] 24)).alloc (by simp) _
  have hbk : Blk ((w.alloc (.cells #[.int .i64 C, .int .i64 R, .int .i64 B, .int .i64 F, .slice A cl.length cap] 24)).alloc (.cells #[.int .i64 0, .int .i64 0, .int .i64 0, .int .i64 0, .slice none 0 0] 24)) w.heap.size 24 #[.int .i64 C, .int .i64 R, .int .i64 B, .int .i64 F, .slice A cl.length cap] := (Blk.new _ _ _).alloc _
  have hbq : Blk ((w.alloc (.cells #[.int .i64 C, .int .i64 R, .int .i64 B, .int .i64 F, .slice A cl.length cap] 24)).alloc (.cells #[.int .i64 0, .int .i64 0, .int .i64 0, .int .i64 0, .slice none 0 0] 24)) (w.heap.size + 1) 24 #[.int .i64 0, .int .i64 0, .int .i64 0, .int .i64 0, .slice none 0 0] := Blk.newAt (by simp)
  have hr1 := hr.behind hb0
  by_cases hok : Ok C R B F cl
  case neg =>
    obtain ⟨n1, n2⟩ := chk_ne hok
    obtain ⟨he, hne⟩ := turnErr_bad y hok
    rw [if_neg hne, if_neg hne, if_neg hne, if_neg hne, if_neg hne, he]
    clear hok he hne
    go_enter Try.func24, Try.ntmps24
    go_wp2_with (first
      | (go_at_call 26; refine (check_any C R B F A cap cl _ hB hcl hr1).mono ?_; rintro e w1 ⟨rfl, hb1⟩; have hbq1 := hbq.below hb1 (by simp); obtain ⟨m0, m1, m2, m3, m4⟩ := hbq1.five; obtain ⟨m5, m6, m7, m8, m9⟩ := hbq1.fz5))
    refine bodyPost_ret (results_cell2 (g := w.heap.size + 1) rfl _ _ 24 _ (0, 0) _ rfl (((((hbq1.store 0 (.int .i64 0)).store 1 (.int .i64 0)).store 2 (.int .i64 0)).store 3 (.int .i64 0)).store 4 (.slice none 0 0)) Try.underlying24 rfl (info24 _ _ _ _ _)) rfl ?_
    exact ⟨none, 0, rfl, Nat.le_refl _, by simp [maxLen], Ints.nil, ((((((below_next hb0 (by simp; omega) hb1).setCell (p := ⟨w.heap.size + 1, 0, none⟩) (by simp) _).setCell (p := ⟨w.heap.size + 1, 1, none⟩) (by simp) _).setCell (p := ⟨w.heap.size + 1, 2, none⟩) (by simp) _).setCell (p := ⟨w.heap.size + 1, 3, none⟩) (by simp) _).setCell (p := ⟨w.heap.size + 1, 4, none⟩) (by simp) _)⟩
  case pos =>
  have hz : Hid (chk C R B F cl = 0) := chk_ok.2 hok
  have k1 := hok.c3
  have k2 := hok.c120
  have hte := turnErr_ok y hok
  by_cases hy : -120 ≤ y ∧ y ≤ 120
  case neg =>
    rw [if_neg hy] at hte
    have hne : ¬ turnErr C R B F cl y = 0 := by rw [hte]; decide
    rw [if_neg hne, if_neg hne, if_neg hne, if_neg hne, if_neg hne, hte]
    clear hok hte hne
    by_cases hy1 : y < -120
    · have e1 : decide (y < -120) = true := decide_eq_true hy1
      go_enter Try.func24, Try.ntmps24
      go_wp2_with (first
        | (go_at_call 26; refine (check_any C R B F A cap cl _ hB hcl hr1).mono ?_; rw [hz.out]; rintro e w1 ⟨rfl, hb1⟩; have hbq1 := hbq.below hb1 (by simp); obtain ⟨m0, m1, m2, m3, m4⟩ := hbq1.five; obtain ⟨m5, m6, m7, m8, m9⟩ := hbq1.fz5))
      refine bodyPost_ret (results_cell2 (g := w.heap.size + 1) rfl _ _ 24 _ (0, 0) _ rfl (((((hbq1.store 0 (.int .i64 0)).store 1 (.int .i64 0)).store 2 (.int .i64 0)).store 3 (.int .i64 0)).store 4 (.slice none 0 0)) Try.underlying24 rfl (info24 _ _ _ _ _)) rfl ?_
      exact ⟨none, 0, rfl, Nat.le_refl _, by simp [maxLen], Ints.nil, ((((((below_next hb0 (by simp; omega) hb1).setCell (p := ⟨w.heap.size + 1, 0, none⟩) (by simp) _).setCell (p := ⟨w.heap.size + 1, 1, none⟩) (by simp) _).setCell (p := ⟨w.heap.size + 1, 2, none⟩) (by simp) _).setCell (p := ⟨w.heap.size + 1, 3, none⟩) (by simp) _).setCell (p := ⟨w.heap.size + 1, 4, none⟩) (by simp) _)⟩
    · have e1 : decide (y < -120) = false := decide_eq_false hy1
      have e2 : decide ((120 : Int) < y) = true := decide_eq_true (by omega)
      have e3 : (120 : Int) < y := by omega
      go_enter Try.func24, Try.ntmps24
      go_wp2_with (first
        | (go_at_call 26; refine (check_any C R B F A cap cl _ hB hcl hr1).mono ?_; rw [hz.out]; rintro e w1 ⟨rfl, hb1⟩; have hbq1 := hbq.below hb1 (by simp); obtain ⟨m0, m1, m2, m3, m4⟩ := hbq1.five; obtain ⟨m5, m6, m7, m8, m9⟩ := hbq1.fz5))
      refine bodyPost_ret (results_cell2 (g := w.heap.size + 1) rfl _ _ 24 _ (0, 0) _ rfl (((((hbq1.store 0 (.int .i64 0)).store 1 (.int .i64 0)).store 2 (.int .i64 0)).store 3 (.int .i64 0)).store 4 (.slice none 0 0)) Try.underlying24 rfl (info24 _ _ _ _ _)) rfl ?_
      exact ⟨none, 0, rfl, Nat.le_refl _, by simp [maxLen], Ints.nil, ((((((below_next hb0 (by simp; omega) hb1).setCell (p := ⟨w.heap.size + 1, 0, none⟩) (by simp) _).setCell (p := ⟨w.heap.size + 1, 1, none⟩) (by simp) _).setCell (p := ⟨w.heap.size + 1, 2, none⟩) (by simp) _).setCell (p := ⟨w.heap.size + 1, 3, none⟩) (by simp) _).setCell (p := ⟨w.heap.size + 1, 4, none⟩) (by simp) _)⟩
  case pos =>
    rw [if_pos hy] at hte
    rw [if_pos hte, if_pos hte, if_pos hte, if_pos hte, if_pos hte, hte]
    have k6 := hok.len
    have hM : Hid (∀ x ∈ cl, 0 ≤ x ∧ x < C) := hok.rise.2
    have e1 : decide (y < -120) = false := decide_eq_false (by omega)
    have e2 : decide ((120 : Int) < y) = false := decide_eq_false (by omega)
    have e3 : ¬ (120 : Int) < y := by omega
    have e4 : ¬ y < -120 := by omega
    obtain ⟨y1, y2⟩ := hy
    generalize htl : turnedL C cl y = tl
    have HTL : Hid (srt (cl.map fun c => (c + y) % C) = tl) := htl
    clear hok hte htl
    obtain ⟨i0, hi, hz0, hz1, hz2⟩ := info_parts int_info
    go_enter Try.func24, Try.ntmps24
    go_wp2_with (first
      | (go_at_call 26; refine (check_any C R B F A cap cl _ hB hcl hr1).mono ?_; rw [hz.out]; rintro e w1 ⟨rfl, hb1⟩; have hbq1 := hbq.below hb1 (by simp); have hbk1 := hbk.below hb1 (by simp; omega); obtain ⟨d0, d1, d2, d3, d4⟩ := hbk1.five)
      | (at_make; refine wpList_make_full _ rfl _ _ 22 rfl w1.heap.size 3 i0 (.int .i64 0) 1 Try.underlying22 hi hz0 hz1 .i64 .i64 (cl.length : Int) (cl.length : Int) cl.length rfl rfl rfl rfl (by rw [hz2]; omega) (by simp only [maxLen]; omega) (Nat.le_refl _) ?_; intro w2 hown2 hgr2; have hb2 : Below w1.heap.size w1 w2 := (Below.refl _ _).grown hgr2 (Nat.le_refl _) (fun k hk => (by cases hk)); have hbk2 := hbk1.below hb2 hbk1.lt; clear d0 d1 d2 d3 d4; obtain ⟨d0, d1, d2, d3, d4⟩ := hbk2.five))
    have hB2 : Blk w2 w1.heap.size 3 (part [] cl.length) := by
      rcases hown2.2 with ⟨hv, _⟩ | ⟨g, cap', cur, hv, _, hg, _, _, h3, h4⟩
      · cases hv
      · cases hv
        have e5 : cur = part [] cl.length := by
          rw [List.take_of_length_le (by simp; omega)] at h4
          apply Array.toList_inj.1
          rw [h4]
          simp [part, toList_madeCells_one, Value.cells]
        rw [← e5]
        exact hg
    have hlt1 := hbk1.lt
    have hltq := hbq1.lt
    have hba : Below w.heap.size w w1 := (below_next hb0 (by simp; omega) hb1)
    clear hown2 hgr2 hb1 hb0 hbk hbq hr1 hi hz0 hz1 hz2
    clear d0 d1 d2 d3 d4
    go_loopw [8, 9, 30] (fun _ _ i wr => ∃ k : Nat, k ≤ cl.length ∧ i = .int .i64 k ∧ Below w1.heap.size w1 wr ∧ Blk wr w1.heap.size 3 (part ((cl.take k).map fun c => (c + y) % C) (cl.length - k)))
      (fun _ _ i _ => cl.length - (intOf i).toNat)
    case atStart => exact ⟨0, Nat.zero_le _, rfl, hb2, hB2⟩
    case round =>
      obtain ⟨k, hk, rfl, hb, hP⟩ := hrel
      have hbw := below_next hba hba.size hb
      have hbkr := hbk1.below hb hlt1
      have hzr := hb.size
      have hgl := hP.lt
      obtain ⟨d0, d1, d2, d3, d4⟩ := hbkr.five
      by_cases hlt : k < cl.length
      · obtain ⟨ad, hA, hadb, hce⟩ := (hr.below hbw).get hlt
        subst hA
        have hlt2 : (k : Int) < (cl.length : Int) := by omega
        have hx := hM.out _ (List.getElem_mem hlt)
        have hS : Hid ((cl.take (k + 1)).map (fun c => (c + y) % C) = (cl.take k).map (fun c => (c + y) % C) ++ [(cl[k] + y) % C]) := by
          unfold Hid; rw [List.take_succ_eq_append_getElem hlt, List.map_append]; rfl
        have hLk : Hid (((cl.take k).map fun c => (c + y) % C).length = k) := by unfold Hid; simp; omega
        have hNk : Hid (cl.length - k = (cl.length - (k + 1)) + 1) := by unfold Hid; omega
        generalize (cl.take k).map (fun c => (c + y) % C) = lk at *
        generalize cl[k] = x at *
        rw [hNk.out] at hP
        go_wp2_with (first
          | (go_at_call 70; refine (further_any C R B F _ x y _ (by omega) k2 (by omega) (by omega) (by omega) (by omega)).mono ?_; rintro e w3 ⟨rfl, hb3⟩; have hP3 := hP.below hb3 hgl; have c1 : w3.cell? ⟨w1.heap.size, k, none⟩ = some (.int .i64 0) := (by rw [hP3.cell, ← hLk.out]; exact part_get _ _); have c2 : w3.frozen? ⟨w1.heap.size, k, none⟩ = false := hP3.frozen k))
        go_roundw
        case rel =>
          refine ⟨k + 1, by omega, by go_num, ((hb.trans (hb3.mono hzr)).setCell (p := ⟨w1.heap.size, k, none⟩) (Nat.le_refl _) _), ?_⟩
          have h5 := hP3.store k (.int .i64 ((x + y) % C))
          rw [hS.out]
          have h6 : (part lk (cl.length - (k + 1) + 1)).setIfInBounds k (.int .i64 ((x + y) % C)) = part (lk ++ [(x + y) % C]) (cl.length - (k + 1)) := by
            have := part_set lk (cl.length - (k + 1)) ((x + y) % C)
            rwa [hLk.out] at this
          rw [h6] at h5
          exact h5
        case measure => simp [intOf]; try omega
      · have ek : cl.take k = cl := List.take_of_length_le (by omega)
        have e0 : cl.length - k = 0 := by omega
        rw [ek, e0] at hP
        clear ek e0
        have hLen : Hid ((cl.map fun c => (c + y) % C).length = cl.length) := by unfold Hid; simp
        generalize (cl.map fun c => (c + y) % C) = lk at *
        have hown := own_part hP (base := w1.heap.size) (Nat.le_refl _) (by rw [hLen.out]; simp only [maxLen]; omega)
        have hsort := sort_any.out w1.heap.size (some ⟨w1.heap.size, 0, none⟩) lk.length lk wr hzr (by rw [hLen.out]; omega) hown
        rw [hLen.out, HTL.out] at hsort
        have hTl : Hid (tl.length = cl.length) := by unfold Hid; rw [← HTL.out, srt_len, hLen.out]
        have HSO := Lib.hid hsort
        clear hsort hown
        have hbqr := hbq1.below hb hltq
        go_wp2_with (first
          | (go_at_call 71; refine HSO.out.mono ?_; rintro e w5 ⟨rfl, hown5, hb5⟩; have hbk5 := hbkr.below hb5 hlt1; have hbq5 := hbqr.below hb5 hltq; clear d0 d1 d2 d3 d4; obtain ⟨d0, d1, d2, d3, d4⟩ := hbk5.five; obtain ⟨d5, d6, d7, d8, d9⟩ := hbk5.fz5; obtain ⟨m0, m1, m2, m3, m4⟩ := hbq5.five; obtain ⟨m5, m6, m7, m8, m9⟩ := hbq5.fz5))
        rw [← hTl.out] at hown5
        obtain ⟨s1, s2, _⟩ := own_facts hown5
        refine bodyPost_ret (results_cell2 (g := w.heap.size + 1) rfl _ _ 24 _ (0, 0) _ rfl ((((((hbq5.far (p := ⟨w.heap.size, 4, none⟩) (by simp) _).store 0 (.int .i64 C)).store 1 (.int .i64 R)).store 2 (.int .i64 B)).store 3 (.int .i64 F)).store 4 _) Try.underlying24 rfl (info24 _ _ _ _ _)) rfl ?_
        refine ⟨some ⟨w1.heap.size, 0, none⟩, tl.length, ?_, s1, s2, Ints.of_own (ownsRow_setCell_below (ownsRow_setCell_below (ownsRow_setCell_below (ownsRow_setCell_below (ownsRow_setCell_below (ownsRow_setCell_below hown5 (a := ⟨w.heap.size, 4, none⟩) (show w.heap.size < w1.heap.size by omega) _) (a := ⟨w.heap.size + 1, 0, none⟩) (show w.heap.size + 1 < w1.heap.size by omega) _) (a := ⟨w.heap.size + 1, 1, none⟩) (show w.heap.size + 1 < w1.heap.size by omega) _) (a := ⟨w.heap.size + 1, 2, none⟩) (show w.heap.size + 1 < w1.heap.size by omega) _) (a := ⟨w.heap.size + 1, 3, none⟩) (show w.heap.size + 1 < w1.heap.size by omega) _) (a := ⟨w.heap.size + 1, 4, none⟩) (show w.heap.size + 1 < w1.heap.size by omega) _), (((((((hbw.trans (hb5.mono (by have := hba.size; omega))).setCell (p := ⟨w.heap.size, 4, none⟩) (by simp) _).setCell (p := ⟨w.heap.size + 1, 0, none⟩) (by simp) _).setCell (p := ⟨w.heap.size + 1, 1, none⟩) (by simp) _).setCell (p := ⟨w.heap.size + 1, 2, none⟩) (by simp) _).setCell (p := ⟨w.heap.size + 1, 3, none⟩) (by simp) _).setCell (p := ⟨w.heap.size + 1, 4, none⟩) (by simp) _)⟩
        rw [hTl.out]
        rfl

end Go.Proofs.Ytnjmkdgglpcfpaa

namespace Go.Proofs.Ytnjmkdgglpcfpaa
set_option linter.unusedSimpArgs false
set_option linter.unusedVariables false
open Go.RowKit

theorem Blk.six {w : World} {g : Nat} {t : TypeId} {a b c d e f : Value} (h : Blk w g t #[a, b, c, d, e, f]) :
    w.cell? ⟨g, 0, none⟩ = some a ∧ w.cell? ⟨g, 1, none⟩ = some b ∧ w.cell? ⟨g, 2, none⟩ = some c ∧ w.cell? ⟨g, 3, none⟩ = some d ∧ w.cell? ⟨g, 4, none⟩ = some e ∧ w.cell? ⟨g, 5, none⟩ = some f :=
  ⟨h.cell 0, h.cell 1, h.cell 2, h.cell 3, h.cell 4, h.cell 5⟩
theorem Blk.fz6 {w : World} {g : Nat} {t : TypeId} {a b c d e f : Value} (h : Blk w g t #[a, b, c, d, e, f]) :
    w.frozen? ⟨g, 0, none⟩ = false ∧ w.frozen? ⟨g, 1, none⟩ = false ∧ w.frozen? ⟨g, 2, none⟩ = false ∧ w.frozen? ⟨g, 3, none⟩ = false ∧ w.frozen? ⟨g, 4, none⟩ = false ∧ w.frozen? ⟨g, 5, none⟩ = false :=
  ⟨h.frozen 0, h.frozen 1, h.frozen 2, h.frozen 3, h.frozen 4, h.frozen 5⟩
theorem info41 {a b c d e f : Value} : (Try.prog.info? 41).map (·.size) = some #[a, b, c, d, e, f].size := by
  show _ = some 6
  kernel_rfl
/-- what the reference hands back: a house with an error -/
def RetMade (w : World) (C R B F : Int) (l : List Int) (er : Int) (e : Ending) (w' : World) : Prop :=
  ∃ A c, e = .returned (.agg #[.int .i64 C, .int .i64 R, .int .i64 B, .int .i64 F, .slice A l.length c, .int .i64 er]) ∧ l.length ≤ c ∧ c ≤ maxLen ∧ Ints w' w'.heap.size A l ∧ Below w.heap.size w w'
/-- the closed stands of a turned house, as the reference finds them -/
def turnedR (C : Int) (cl : List Int) (y : Int) : List Int := colsTo (fun c => decide (((c : Int) + -y) % C ∈ cl)) C.toNat

set_option maxRecDepth 100000 in
set_option maxHeartbeats 800000 in
theorem refTurned25_any (C R B F : Int) (A : Option Addr) (cap : Nat) (cl : List Int) (y : Int) (w : World) (hcl : cl.length ≤ 1000000) (hr : Ints w w.heap.size A cl) :
    Calls Try.prog 25 #[.agg #[.int .i64 C, .int .i64 R, .int .i64 B, .int .i64 F, .slice A cl.length cap], .int .i64 y] w (RetMade w (if turnErr C R B F cl y = 0 then C else 0) (if turnErr C R B F cl y = 0 then R else 0) (if turnErr C R B F cl y = 0 then B else 0) (if turnErr C R B F cl y = 0 then F else 0) (if turnErr C R B F cl y = 0 then turnedR C cl y else []) (turnErr C R B F cl y)) := by
  have hb0 : Below w.heap.size w ((w.alloc (.cells #[.int .i64 C, .int .i64 R, .int .i64 B, .int .i64 F, .slice A cl.length cap] 24)).alloc (.cells #[.int .i64 0, .int .i64 0, .int .i64 0, .int .i64 0, .slice none 0 0, .int .i64 0] 41)) := (below_new w (.cells #[.int .i64 C, .int .i64 R, .int .i64 B, .int .i64 F, .slice A cl.length cap] 24)).alloc (by simp) _
  have hbk : Blk ((w.alloc (.cells #[.int .i64 C, .int .i64 R, .int .i64 B, .int .i64 F, .slice A cl.length cap] 24)).alloc (.cells #[.int .i64 0, .int .i64 0, .int .i64 0, .int .i64 0, .slice none 0 0, .int .i64 0] 41)) w.heap.size 24 #[.int .i64 C, .int .i64 R, .int .i64 B, .int .i64 F, .slice A cl.length cap] := (Blk.new _ _ _).alloc _
  have hbq : Blk ((w.alloc (.cells #[.int .i64 C, .int .i64 R, .int .i64 B, .int .i64 F, .slice A cl.length cap] 24)).alloc (.cells #[.int .i64 0, .int .i64 0, .int .i64 0, .int .i64 0, .slice none 0 0, .int .i64 0] 41)) (w.heap.size + 1) 41 #[.int .i64 0, .int .i64 0, .int .i64 0, .int .i64 0, .slice none 0 0, .int .i64 0] := Blk.newAt (by simp)
  have hr1 := hr.behind hb0
  by_cases hok : Ok C R B F cl
  case neg =>
    obtain ⟨n1, n2⟩ := chk_ne hok
    obtain ⟨he, hne⟩ := turnErr_bad y hok
    rw [if_neg hne, if_neg hne, if_neg hne, if_neg hne, if_neg hne, he]
    clear hok he hne
    go_enter Try.func25, Try.ntmps25
    go_wp2_with (first
      | (go_at_call 27; refine (refCheck_any C R B F A cap cl _ hcl hr1).mono ?_; rintro e w1 ⟨rfl, hb1⟩; have hbq1 := hbq.below hb1 (by simp); obtain ⟨m0, m1, m2, m3, m4, m5⟩ := hbq1.six; obtain ⟨m6, m7, m8, m9, m10, m11⟩ := hbq1.fz6))
    refine bodyPost_ret (v := .agg #[.int .i64 0, .int .i64 0, .int .i64 0, .int .i64 0, .slice none 0 0, .int .i64 (chk C R B F cl)]) (results_cell_row (g := w.heap.size + 1) rfl _ _ 41 _ (0, 0) _ rfl ((((((hbq1.store 0 (.int .i64 0)).store 1 (.int .i64 0)).store 2 (.int .i64 0)).store 3 (.int .i64 0)).store 4 (.slice none 0 0)).store 5 (.int .i64 (chk C R B F cl))) Try.underlying41 rfl info41) rfl ?_
    exact ⟨none, 0, rfl, Nat.le_refl _, by simp [maxLen], Ints.nil, (((((((below_next hb0 (by simp; omega) hb1).setCell (p := ⟨w.heap.size + 1, 0, none⟩) (by simp) _).setCell (p := ⟨w.heap.size + 1, 1, none⟩) (by simp) _).setCell (p := ⟨w.heap.size + 1, 2, none⟩) (by simp) _).setCell (p := ⟨w.heap.size + 1, 3, none⟩) (by simp) _).setCell (p := ⟨w.heap.size + 1, 4, none⟩) (by simp) _).setCell (p := ⟨w.heap.size + 1, 5, none⟩) (by simp) _)⟩
  case pos =>
  have hz : Hid (chk C R B F cl = 0) := chk_ok.2 hok
  have k1 := hok.c3
  have k2 := hok.c120
  have hte := turnErr_ok y hok
  by_cases hy : -120 ≤ y ∧ y ≤ 120
  case neg =>
    rw [if_neg hy] at hte
    have hne : ¬ turnErr C R B F cl y = 0 := by rw [hte]; decide
    rw [if_neg hne, if_neg hne, if_neg hne, if_neg hne, if_neg hne, hte]
    have D1 : Hid (decide (-120 ≤ y ∧ y ≤ 120) = false) := decide_eq_false hy
    clear hok hte hne hy
    go_enter Try.func25, Try.ntmps25
    go_wp2_with (first
      | (go_at_call 27; refine (refCheck_any C R B F A cap cl _ hcl hr1).mono ?_; rw [hz.out]; rintro e w1 ⟨rfl, hb1⟩; have hbq1 := hbq.below hb1 (by simp); obtain ⟨m0, m1, m2, m3, m4, m5⟩ := hbq1.six; obtain ⟨m6, m7, m8, m9, m10, m11⟩ := hbq1.fz6)
      | (go_at_call 61; refine (in_any _ _ _ _).mono ?_; rw [D1.out]; rintro e w2 ⟨rfl, rfl⟩))
    refine bodyPost_ret (v := .agg #[.int .i64 0, .int .i64 0, .int .i64 0, .int .i64 0, .slice none 0 0, .int .i64 1]) (results_cell_row (g := w.heap.size + 1) rfl _ _ 41 _ (0, 0) _ rfl ((((((hbq1.store 0 (.int .i64 0)).store 1 (.int .i64 0)).store 2 (.int .i64 0)).store 3 (.int .i64 0)).store 4 (.slice none 0 0)).store 5 (.int .i64 1)) Try.underlying41 rfl info41) rfl ?_
    exact ⟨none, 0, rfl, Nat.le_refl _, by simp [maxLen], Ints.nil, (((((((below_next hb0 (by simp; omega) hb1).setCell (p := ⟨w.heap.size + 1, 0, none⟩) (by simp) _).setCell (p := ⟨w.heap.size + 1, 1, none⟩) (by simp) _).setCell (p := ⟨w.heap.size + 1, 2, none⟩) (by simp) _).setCell (p := ⟨w.heap.size + 1, 3, none⟩) (by simp) _).setCell (p := ⟨w.heap.size + 1, 4, none⟩) (by simp) _).setCell (p := ⟨w.heap.size + 1, 5, none⟩) (by simp) _)⟩
  case pos =>
    rw [if_pos hy] at hte
    rw [if_pos hte, if_pos hte, if_pos hte, if_pos hte, if_pos hte, hte]
    have k6 := hok.len
    have D1 : Hid (decide (-120 ≤ y ∧ y ≤ 120) = true) := decide_eq_true hy
    obtain ⟨y1, y2⟩ := hy
    obtain ⟨n, rfl⟩ := Int.eq_ofNat_of_zero_le (show 0 ≤ C by omega)
    generalize htl : turnedR n cl y = tl
    have HTL : Hid (colsTo (fun c => decide (((c : Int) + -y) % (n : Int) ∈ cl)) n = tl) := by unfold Hid; rw [← htl]; rfl
    generalize hp : (fun c : Nat => decide (((c : Int) + -y) % (n : Int) ∈ cl)) = pu at HTL
    have HP : Hid (∀ c : Nat, pu c = decide (((c : Int) + -y) % (n : Int) ∈ cl)) := fun c => by rw [← hp]
    clear hok hte htl hp
    go_enter Try.func25, Try.ntmps25
    go_wp2_with (first
      | (go_at_call 27; refine (refCheck_any n R B F A cap cl _ hcl hr1).mono ?_; rw [hz.out]; rintro e w1 ⟨rfl, hb1⟩; have hbq1 := hbq.below hb1 (by simp); have hbk1 := hbk.below hb1 (by simp; omega))
      | (go_at_call 61; refine (in_any _ _ _ _).mono ?_; rw [D1.out]; rintro e w2 ⟨rfl, rfl⟩))
    have hlt1 := hbk1.lt
    have hltq := hbq1.lt
    have hba : Below w.heap.size w w1 := (below_next hb0 (by simp; omega) hb1)
    clear hb1 hb0 hbk hbq hr1
    go_loopw [6, 7, 8] (fun v i _ wr => ∃ k : Nat, ∃ A' c', k ≤ n ∧ i = .int .i64 k ∧ v = .slice A' (colsTo pu k).length c' ∧ Below w1.heap.size w1 wr ∧ wr.ownsRow w1.heap.size 3 1 (.slice A' (colsTo pu k).length c') (colsTo pu k).length ((colsTo pu k).map (Value.int .i64)))
      (fun _ i _ _ => n - (intOf i).toNat)
    case atStart => exact ⟨0, none, 0, Nat.zero_le _, rfl, rfl, Below.refl _ _, World.ownsRow_nil _ _ _ _⟩
    case round =>
      obtain ⟨k, A', c', hk, rfl, rfl, hb, hown⟩ := hrel
      have hbw := below_next hba hba.size hb
      have hbkr := hbk1.below hb hlt1
      have hbqr := hbq1.below hb hltq
      have hltr := hbkr.lt
      have hzr := hb.size
      obtain ⟨d0, d1, d2, d3, d4⟩ := hbkr.five
      have hrw : Ints wr wr.heap.size A cl := (hr.below hbw).more hbw.size
      have hln := colsTo_len pu k
      by_cases hlt : k < n
      · cases hf : decide (((k : Int) + -y) % (n : Int) ∈ cl) with
        | true =>
          have HD := Lib.hid hf
          have HY := Lib.hid (colsTo_yes ((HP.out k).trans hf))
          clear hf
          go_wp2_with fail
          have hw1 : IntKind.i64.wrap (-y) = -y := IntWalk.i64_in _ (by omega)
          go_region_held3 (fun w' => w'.cell? ⟨w.heap.size, 0, none⟩ = some (.int .i64 n) ∧ w'.cell? ⟨w.heap.size, 1, none⟩ = some (.int .i64 R) ∧ w'.cell? ⟨w.heap.size, 2, none⟩ = some (.int .i64 B) ∧ w'.cell? ⟨w.heap.size, 3, none⟩ = some (.int .i64 F) ∧ w'.cell? ⟨w.heap.size, 4, none⟩ = some (.slice A cl.length cap)) (first | exact K1 | exact ⟨d0, d1, d2, d3, d4⟩)
            (first
              | (go_at_call 73; refine (refFurther_any n R B F _ k (-y) _ (by omega) k2 (by omega) (by omega) (by omega) (by omega)).mono ?_; rintro e w3 ⟨rfl, hb3⟩; obtain ⟨q1, q2⟩ := bcell hb3; have K1 : w3.cell? ⟨w.heap.size, 0, none⟩ = some (.int .i64 n) ∧ w3.cell? ⟨w.heap.size, 1, none⟩ = some (.int .i64 R) ∧ w3.cell? ⟨w.heap.size, 2, none⟩ = some (.int .i64 B) ∧ w3.cell? ⟨w.heap.size, 3, none⟩ = some (.int .i64 F) ∧ w3.cell? ⟨w.heap.size, 4, none⟩ = some (.slice A cl.length cap) := ⟨(q1 _ _ hltr).trans d0, (q1 _ _ hltr).trans d1, (q1 _ _ hltr).trans d2, (q1 _ _ hltr).trans d3, (q1 _ _ hltr).trans d4⟩; have hrw3 : Ints w3 w3.heap.size A cl := hrw.behind ((Below.refl _ _).drew.trans hb3))
              | (go_at_call 72; refine (has_any cl _ _ _ _ (by omega) hrw3).mono ?_; rw [HD.out]; rintro e w4 ⟨rfl, rfl⟩))
          clear hw1
          have hb5 : Below wr.heap.size wr w3 := (Below.refl _ _).drew.trans hb3
          have hz5 := hb5.size
          go_wp2_with (at_builtin; refine app1 (by rfl) _ _ (by rfl) w1.heap.size (colsTo pu k) k _ (by rfl) (own_below hown hb5) (by rfl) (by omega) (by omega) ?_; intro A6 c6 w6 hown6 hb6)
          go_roundw
          case rel => exact ⟨k + 1, A6, c6, by omega, by go_num, by rw [HY.out]; simp, (below_next hb hzr hb5).trans hb6, by rw [HY.out]; exact hown6⟩
          case measure => simp [intOf]; try omega
        | false =>
          have HD := Lib.hid hf
          have HY := Lib.hid (colsTo_no ((HP.out k).trans hf))
          clear hf
          go_wp2_with fail
          have hw1 : IntKind.i64.wrap (-y) = -y := IntWalk.i64_in _ (by omega)
          go_region_held3 (fun w' => w'.cell? ⟨w.heap.size, 0, none⟩ = some (.int .i64 n) ∧ w'.cell? ⟨w.heap.size, 1, none⟩ = some (.int .i64 R) ∧ w'.cell? ⟨w.heap.size, 2, none⟩ = some (.int .i64 B) ∧ w'.cell? ⟨w.heap.size, 3, none⟩ = some (.int .i64 F) ∧ w'.cell? ⟨w.heap.size, 4, none⟩ = some (.slice A cl.length cap)) (first | exact K1 | exact ⟨d0, d1, d2, d3, d4⟩)
            (first
              | (go_at_call 73; refine (refFurther_any n R B F _ k (-y) _ (by omega) k2 (by omega) (by omega) (by omega) (by omega)).mono ?_; rintro e w3 ⟨rfl, hb3⟩; obtain ⟨q1, q2⟩ := bcell hb3; have K1 : w3.cell? ⟨w.heap.size, 0, none⟩ = some (.int .i64 n) ∧ w3.cell? ⟨w.heap.size, 1, none⟩ = some (.int .i64 R) ∧ w3.cell? ⟨w.heap.size, 2, none⟩ = some (.int .i64 B) ∧ w3.cell? ⟨w.heap.size, 3, none⟩ = some (.int .i64 F) ∧ w3.cell? ⟨w.heap.size, 4, none⟩ = some (.slice A cl.length cap) := ⟨(q1 _ _ hltr).trans d0, (q1 _ _ hltr).trans d1, (q1 _ _ hltr).trans d2, (q1 _ _ hltr).trans d3, (q1 _ _ hltr).trans d4⟩; have hrw3 : Ints w3 w3.heap.size A cl := hrw.behind ((Below.refl _ _).drew.trans hb3))
              | (go_at_call 72; refine (has_any cl _ _ _ _ (by omega) hrw3).mono ?_; rw [HD.out]; rintro e w4 ⟨rfl, rfl⟩))
          clear hw1
          have hb5 : Below wr.heap.size wr w3 := (Below.refl _ _).drew.trans hb3
          go_wp2_with fail
          go_roundw
          case rel => exact ⟨k + 1, A', c', by omega, by go_num, by rw [HY.out], below_next hb hzr hb5, by rw [HY.out]; exact own_below hown hb5⟩
          case measure => simp [intOf]; try omega
      · obtain rfl : k = n := by omega
        rw [HTL.out] at hown hln ⊢
        obtain ⟨s1, s2, _⟩ := own_facts hown
        clear d0 d1 d2 d3 d4
        obtain ⟨d0, d1, d2, d3, d4⟩ := hbkr.five
        obtain ⟨d5, d6, d7, d8, d9⟩ := hbkr.fz5
        obtain ⟨m0, m1, m2, m3, m4, m5⟩ := hbqr.six
        obtain ⟨m6, m7, m8, m9, m10, m11⟩ := hbqr.fz6
        go_wp2_with fail
        refine bodyPost_ret (v := .agg #[.int .i64 k, .int .i64 R, .int .i64 B, .int .i64 F, .slice A' tl.length c', .int .i64 0]) (results_cell_row (g := w.heap.size + 1) rfl _ _ 41 _ (0, 0) _ rfl (((((((hbqr.far (p := ⟨w.heap.size, 4, none⟩) (by simp) _).store 0 (.int .i64 k)).store 1 (.int .i64 R)).store 2 (.int .i64 B)).store 3 (.int .i64 F)).store 4 (.slice A' tl.length c')).store 5 (.int .i64 0)) Try.underlying41 rfl info41) rfl ?_
        exact ⟨A', c', rfl, s1, s2, Ints.of_own (ownsRow_setCell_below (ownsRow_setCell_below (ownsRow_setCell_below (ownsRow_setCell_below (ownsRow_setCell_below (ownsRow_setCell_below (ownsRow_setCell_below hown (a := ⟨w.heap.size, 4, none⟩) (show w.heap.size < w1.heap.size by omega) _) (a := ⟨w.heap.size + 1, 0, none⟩) (show w.heap.size + 1 < w1.heap.size by omega) _) (a := ⟨w.heap.size + 1, 1, none⟩) (show w.heap.size + 1 < w1.heap.size by omega) _) (a := ⟨w.heap.size + 1, 2, none⟩) (show w.heap.size + 1 < w1.heap.size by omega) _) (a := ⟨w.heap.size + 1, 3, none⟩) (show w.heap.size + 1 < w1.heap.size by omega) _) (a := ⟨w.heap.size + 1, 4, none⟩) (show w.heap.size + 1 < w1.heap.size by omega) _) (a := ⟨w.heap.size + 1, 5, none⟩) (show w.heap.size + 1 < w1.heap.size by omega) _), (((((((hbw.setCell (p := ⟨w.heap.size, 4, none⟩) (by simp) _).setCell (p := ⟨w.heap.size + 1, 0, none⟩) (by simp) _).setCell (p := ⟨w.heap.size + 1, 1, none⟩) (by simp) _).setCell (p := ⟨w.heap.size + 1, 2, none⟩) (by simp) _).setCell (p := ⟨w.heap.size + 1, 3, none⟩) (by simp) _).setCell (p := ⟨w.heap.size + 1, 4, none⟩) (by simp) _).setCell (p := ⟨w.heap.size + 1, 5, none⟩) (by simp) _)⟩

end Go.Proofs.Ytnjmkdgglpcfpaa

