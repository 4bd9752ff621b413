import Derived.Test.YtnjmkdgglpcfpaaA42
namespace Go.Proofs.Ytnjmkdgglpcfpaa
set_option linter.unusedSimpArgs false
set_option linter.unusedVariables false
open Go.RowKit

/-- is a house one of those that a law plays with -/
def fewB (C : Int) (cl : List Int) : Bool := decide ((C ≤ 24 ∨ 120 < C) ∧ cl.length ≤ 130)
set_option maxRecDepth 100000 in
set_option maxHeartbeats 400000 in
theorem few_any (C R B F : Int) (A : Option Addr) (cap : Nat) (cl : List Int) (w : World) :
    Calls Try.prog 14 #[.agg #[.int .i64 C, .int .i64 R, .int .i64 B, .int .i64 F, .slice A cl.length cap]] w fun e w' => e = .returned (.bool (fewB C cl)) ∧ Below w.heap.size w w' := by
  have hbk := Blk.new w 24 #[.int .i64 C, .int .i64 R, .int .i64 B, .int .i64 F, .slice A cl.length cap]
  obtain ⟨d0, d1, d2, d3, d4⟩ := hbk.five
  have hb := below_new w (.cells #[.int .i64 C, .int .i64 R, .int .i64 B, .int .i64 F, .slice A cl.length cap] 24)
  by_cases c1 : C ≤ 24
  · have e1 : decide (C ≤ 24) = true := decide_eq_true c1
    by_cases c3 : cl.length ≤ 130
    · have e3 : ((cl.length : Nat) : Int) ≤ 130 := by omega
      have e4 : decide (((cl.length : Nat) : Int) ≤ 130) = true := decide_eq_true e3
      have hr : fewB C cl = true := decide_eq_true ⟨.inl c1, c3⟩
      rw [hr]
      go_enter Try.func14, Try.ntmps14
      go_wp2_with fail
      go_ret
      exact ⟨rfl, hb⟩
    · have e3 : ¬ ((cl.length : Nat) : Int) ≤ 130 := by omega
      have e4 : decide (((cl.length : Nat) : Int) ≤ 130) = false := decide_eq_false e3
      have hr : fewB C cl = false := decide_eq_false fun h => c3 h.2
      rw [hr]
      go_enter Try.func14, Try.ntmps14
      go_wp2_with fail
      go_ret
      exact ⟨rfl, hb⟩
  · have e1 : decide (C ≤ 24) = false := decide_eq_false c1
    by_cases c2 : 120 < C
    · have e2 : decide ((120 : Int) < C) = true := decide_eq_true c2
      by_cases c3 : cl.length ≤ 130
      · have e3 : ((cl.length : Nat) : Int) ≤ 130 := by omega
        have e4 : decide (((cl.length : Nat) : Int) ≤ 130) = true := decide_eq_true e3
        have hr : fewB C cl = true := decide_eq_true ⟨.inr c2, c3⟩
        rw [hr]
        go_enter Try.func14, Try.ntmps14
        go_wp2_with fail
        go_ret
        exact ⟨rfl, hb⟩
      · have e3 : ¬ ((cl.length : Nat) : Int) ≤ 130 := by omega
        have e4 : decide (((cl.length : Nat) : Int) ≤ 130) = false := decide_eq_false e3
        have hr : fewB C cl = false := decide_eq_false fun h => c3 h.2
        rw [hr]
        go_enter Try.func14, Try.ntmps14
        go_wp2_with fail
        go_ret
        exact ⟨rfl, hb⟩
    · have e2 : decide ((120 : Int) < C) = false := decide_eq_false c2
      have hr : fewB C cl = false := decide_eq_false fun h => h.1.elim c1 c2
      rw [hr]
      go_enter Try.func14, Try.ntmps14
      go_wp2_with fail
      go_ret
      exact ⟨rfl, hb⟩

/-- the error of a house and a hole -/
def holeErr (C R B F : Int) (cl : List Int) (n : Int) : Int := if chk C R B F cl ≠ 0 then chk C R B F cl else if 0 ≤ n ∧ n < C * R then 0 else 1
theorem holeErr_bad {C R B F : Int} {cl : List Int} (n : Int) (h : ¬ Ok C R B F cl) : holeErr C R B F cl n = chk C R B F cl ∧ holeErr C R B F cl n ≠ 0 := by
  have h0 : chk C R B F cl ≠ 0 := fun e => h (chk_ok.1 e)
  have h1 : holeErr C R B F cl n = chk C R B F cl := if_pos h0
  exact ⟨h1, by rw [h1]; exact h0⟩
theorem holeErr_ok {C R B F : Int} {cl : List Int} (n : Int) (h : Ok C R B F cl) : holeErr C R B F cl n = if 0 ≤ n ∧ n < C * R then 0 else 1 := if_neg fun e => e (chk_ok.2 h)
def colN (C R B F : Int) (cl : List Int) (n : Int) : Int := if holeErr C R B F cl n = 0 then n % C else 0
def ringN (C R B F : Int) (cl : List Int) (n : Int) : Int := if holeErr C R B F cl n = 0 then n / C else 0

theorem column_any (C R B F : Int) (A : Option Addr) (cap : Nat) (cl : List Int) (n : Int) (w : World) (hB : B ≤ 9223372036854775807) (hcl : cl.length ≤ 9223372036854775807) (hr : Ints w w.heap.size A cl) :
    Calls Try.prog 16 #[.agg #[.int .i64 C, .int .i64 R, .int .i64 B, .int .i64 F, .slice A cl.length cap], .int .i64 n] w fun e w' => e = .returned (.tuple #[.int .i64 (colN C R B F cl n), .int .i64 (holeErr C R B F cl n)]) ∧ Below w.heap.size w w' := by
  by_cases hok : Ok C R B F cl
  · have he := holeErr_ok n hok
    by_cases hn : 0 ≤ n ∧ n < C * R
    · rw [if_pos hn] at he
      have hc : colN C R B F cl n = n % C := if_pos he
      rw [hc, he]
      exact column_ok w hok hr hn
    · rw [if_neg hn] at he
      have hc : colN C R B F cl n = 0 := if_neg (by rw [he]; decide)
      rw [hc, he]
      exact column_out w hok hr hn
  · obtain ⟨he, hne⟩ := holeErr_bad n hok
    have hc : colN C R B F cl n = 0 := if_neg hne
    rw [hc, he]
    exact column_bad w hok hB hcl hr
theorem ring_any (C R B F : Int) (A : Option Addr) (cap : Nat) (cl : List Int) (n : Int) (w : World) (hB : B ≤ 9223372036854775807) (hcl : cl.length ≤ 9223372036854775807) (hr : Ints w w.heap.size A cl) :
    Calls Try.prog 18 #[.agg #[.int .i64 C, .int .i64 R, .int .i64 B, .int .i64 F, .slice A cl.length cap], .int .i64 n] w fun e w' => e = .returned (.tuple #[.int .i64 (ringN C R B F cl n), .int .i64 (holeErr C R B F cl n)]) ∧ Below w.heap.size w w' := by
  by_cases hok : Ok C R B F cl
  · have he := holeErr_ok n hok
    by_cases hn : 0 ≤ n ∧ n < C * R
    · rw [if_pos hn] at he
      have hc : ringN C R B F cl n = n / C := if_pos he
      rw [hc, he]
      exact ring_ok w hok hr hn
    · rw [if_neg hn] at he
      have hc : ringN C R B F cl n = 0 := if_neg (by rw [he]; decide)
      rw [hc, he]
      exact ring_out w hok hr hn
  · obtain ⟨he, hne⟩ := holeErr_bad n hok
    have hc : ringN C R B F cl n = 0 := if_neg hne
    rw [hc, he]
    exact ring_bad w hok hB hcl hr

theorem info31 {a b : Value} : (Try.prog.info? 31).map (·.size) = some #[a, b].size := by
  show _ = some 2
  kernel_rfl
theorem info36 {a b : Value} : (Try.prog.info? 36).map (·.size) = some #[a, b].size := by
  show _ = some 2
  kernel_rfl

set_option maxRecDepth 100000 in
set_option maxHeartbeats 1000000 in
theorem refColumn17_any (C R B F : Int) (A : Option Addr) (cap : Nat) (cl : List Int) (n : Int) (w : World) (hcl : cl.length ≤ 1000000) (hr : Ints w w.heap.size A cl) :
    Calls Try.prog 17 #[.agg #[.int .i64 C, .int .i64 R, .int .i64 B, .int .i64 F, .slice A cl.length cap], .int .i64 n] w fun e w' => e = .returned (.agg #[.int .i64 (colN C R B F cl n), .int .i64 (holeErr C R B F cl n)]) ∧ Below w.heap.size w w' := by
  have hb0 : Below w.heap.size w ((w.alloc (.cells #[.int .i64 C, .int .i64 R, .int .i64 B, .int .i64 F, .slice A cl.length cap] 24)).alloc (.cells #[.int .i64 0, .int .i64 0] 31)) := (below_new w (.cells #[.int .i64 C, .int .i64 R, .int .i64 B, .int .i64 F, .slice A cl.length cap] 24)).alloc (by simp) _
  have hbk : Blk ((w.alloc (.cells #[.int .i64 C, .int .i64 R, .int .i64 B, .int .i64 F, .slice A cl.length cap] 24)).alloc (.cells #[.int .i64 0, .int .i64 0] 31)) w.heap.size 24 #[.int .i64 C, .int .i64 R, .int .i64 B, .int .i64 F, .slice A cl.length cap] := (Blk.new _ _ _).alloc _
  have hbq : Blk ((w.alloc (.cells #[.int .i64 C, .int .i64 R, .int .i64 B, .int .i64 F, .slice A cl.length cap] 24)).alloc (.cells #[.int .i64 0, .int .i64 0] 31)) (w.heap.size + 1) 31 #[.int .i64 0, .int .i64 0] := Blk.newAt (by simp)
  have hr1 := hr.behind hb0
  by_cases hok : Ok C R B F cl
  · have hz : Hid (chk C R B F cl = 0) := chk_ok.2 hok
    have k1 := hok.c3
    have k2 := hok.c120
    have g0 := hok.holes0
    have g1 := hok.holes
    have he := holeErr_ok n hok
    have hC : (C == 0) = false := by simp; omega
    have hw1 : IntKind.i64.wrap (R * C) = R * C := IntWalk.i64_in _ (by rw [Int.mul_comm]; omega)
    have hw2 : IntKind.i64.wrap (R * C - 1) = R * C - 1 := IntWalk.i64_in _ (by rw [Int.mul_comm]; omega)
    by_cases hn : 0 ≤ n ∧ n < C * R
    · rw [if_pos hn] at he
      have hc : colN C R B F cl n = n % C := if_pos he
      rw [hc, he]
      have D1 : Hid (decide (0 ≤ n ∧ n ≤ R * C - 1) = true) := decide_eq_true (by rw [Int.mul_comm R C]; omega)
      obtain ⟨h0, h1⟩ := hn
      clear he hc hok
      go_enter Try.func17, Try.ntmps17
      go_wp2_with (first
        | (go_at_call 27; refine (refCheck_any C R B F A cap cl _ hcl hr1).mono ?_; rw [hz.out]; rintro e w1 ⟨rfl, hb1⟩; have hbq1 := hbq.below hb1 (by simp); have hbk1 := hbk.below hb1 (by simp; omega); obtain ⟨d0, d1, d2, d3, d4⟩ := hbk1.five; obtain ⟨m0, m1, m2, m3⟩ : w1.cell? ⟨w.heap.size + 1, 0, none⟩ = some (.int .i64 0) ∧ w1.cell? ⟨w.heap.size + 1, 1, none⟩ = some (.int .i64 0) ∧ w1.frozen? ⟨w.heap.size + 1, 0, none⟩ = false ∧ w1.frozen? ⟨w.heap.size + 1, 1, none⟩ = false := ⟨hbq1.cell 0, hbq1.cell 1, hbq1.frozen 0, hbq1.frozen 1⟩)
        | (go_at_call 61; refine (in_any _ _ _ _).mono ?_; rw [D1.out]; rintro e w2 ⟨rfl, rfl⟩))
      refine bodyPost_ret (v := .agg #[.int .i64 (n % C), .int .i64 0]) (results_cell_row (g := w.heap.size + 1) rfl _ _ 31 _ (0, 0) _ rfl ((hbq1.store 0 (.int .i64 (n % C))).store 1 (.int .i64 0)) Try.underlying31 rfl info31) rfl ?_
      exact ⟨rfl, ((below_next hb0 (by simp; omega) hb1).setCell (p := ⟨w.heap.size + 1, 0, none⟩) (by simp) _).setCell (p := ⟨w.heap.size + 1, 1, none⟩) (by simp) _⟩
    · rw [if_neg hn] at he
      have hc : colN C R B F cl n = 0 := if_neg (by rw [he]; decide)
      rw [hc, he]
      have D1 : Hid (decide (0 ≤ n ∧ n ≤ R * C - 1) = false) := decide_eq_false (by rw [Int.mul_comm R C]; omega)
      clear he hc hok hn
      go_enter Try.func17, Try.ntmps17
      go_wp2_with (first
        | (go_at_call 27; refine (refCheck_any C R B F A cap cl _ hcl hr1).mono ?_; rw [hz.out]; rintro e w1 ⟨rfl, hb1⟩; have hbq1 := hbq.below hb1 (by simp); have hbk1 := hbk.below hb1 (by simp; omega); obtain ⟨d0, d1, d2, d3, d4⟩ := hbk1.five; obtain ⟨m0, m1, m2, m3⟩ : w1.cell? ⟨w.heap.size + 1, 0, none⟩ = some (.int .i64 0) ∧ w1.cell? ⟨w.heap.size + 1, 1, none⟩ = some (.int .i64 0) ∧ w1.frozen? ⟨w.heap.size + 1, 0, none⟩ = false ∧ w1.frozen? ⟨w.heap.size + 1, 1, none⟩ = false := ⟨hbq1.cell 0, hbq1.cell 1, hbq1.frozen 0, hbq1.frozen 1⟩)
        | (go_at_call 61; refine (in_any _ _ _ _).mono ?_; rw [D1.out]; rintro e w2 ⟨rfl, rfl⟩))
      refine bodyPost_ret (v := .agg #[.int .i64 0, .int .i64 1]) (results_cell_row (g := w.heap.size + 1) rfl _ _ 31 _ (0, 0) _ rfl ((hbq1.store 0 (.int .i64 0)).store 1 (.int .i64 1)) Try.underlying31 rfl info31) rfl ?_
      exact ⟨rfl, ((below_next hb0 (by simp; omega) hb1).setCell (p := ⟨w.heap.size + 1, 0, none⟩) (by simp) _).setCell (p := ⟨w.heap.size + 1, 1, none⟩) (by simp) _⟩
  · obtain ⟨n1, n2⟩ := chk_ne hok
    obtain ⟨he, hne⟩ := holeErr_bad n hok
    have hc : colN C R B F cl n = 0 := if_neg hne
    rw [hc, he]
    clear hok he hne hc
    go_enter Try.func17, Try.ntmps17
    go_wp2_with (first
      | (go_at_call 27; refine (refCheck_any C R B F A cap cl _ hcl hr1).mono ?_; rintro e w1 ⟨rfl, hb1⟩; have hbq1 := hbq.below hb1 (by simp); obtain ⟨m0, m1, m2, m3⟩ : w1.cell? ⟨w.heap.size + 1, 0, none⟩ = some (.int .i64 0) ∧ w1.cell? ⟨w.heap.size + 1, 1, none⟩ = some (.int .i64 0) ∧ w1.frozen? ⟨w.heap.size + 1, 0, none⟩ = false ∧ w1.frozen? ⟨w.heap.size + 1, 1, none⟩ = false := ⟨hbq1.cell 0, hbq1.cell 1, hbq1.frozen 0, hbq1.frozen 1⟩))
    refine bodyPost_ret (v := .agg #[.int .i64 0, .int .i64 (chk C R B F cl)]) (results_cell_row (g := w.heap.size + 1) rfl _ _ 31 _ (0, 0) _ rfl ((hbq1.store 0 (.int .i64 0)).store 1 (.int .i64 (chk C R B F cl))) Try.underlying31 rfl info31) rfl ?_
    exact ⟨rfl, ((below_next hb0 (by simp; omega) hb1).setCell (p := ⟨w.heap.size + 1, 0, none⟩) (by simp) _).setCell (p := ⟨w.heap.size + 1, 1, none⟩) (by simp) _⟩

set_option maxRecDepth 100000 in
set_option maxHeartbeats 1000000 in
theorem refRing19_any (C R B F : Int) (A : Option Addr) (cap : Nat) (cl : List Int) (n : Int) (w : World) (hcl : cl.length ≤ 1000000) (hr : Ints w w.heap.size A cl) :
    Calls Try.prog 19 #[.agg #[.int .i64 C, .int .i64 R, .int .i64 B, .int .i64 F, .slice A cl.length cap], .int .i64 n] w fun e w' => e = .returned (.agg #[.int .i64 (ringN C R B F cl n), .int .i64 (holeErr C R B F cl n)]) ∧ Below w.heap.size w w' := by
  have hb0 : Below w.heap.size w ((w.alloc (.cells #[.int .i64 C, .int .i64 R, .int .i64 B, .int .i64 F, .slice A cl.length cap] 24)).alloc (.cells #[.int .i64 0, .int .i64 0] 31)) := (below_new w (.cells #[.int .i64 C, .int .i64 R, .int .i64 B, .int .i64 F, .slice A cl.length cap] 24)).alloc (by simp) _
  have hbk : Blk ((w.alloc (.cells #[.int .i64 C, .int .i64 R, .int .i64 B, .int .i64 F, .slice A cl.length cap] 24)).alloc (.cells #[.int .i64 0, .int .i64 0] 31)) w.heap.size 24 #[.int .i64 C, .int .i64 R, .int .i64 B, .int .i64 F, .slice A cl.length cap] := (Blk.new _ _ _).alloc _
  have hbq : Blk ((w.alloc (.cells #[.int .i64 C, .int .i64 R, .int .i64 B, .int .i64 F, .slice A cl.length cap] 24)).alloc (.cells #[.int .i64 0, .int .i64 0] 31)) (w.heap.size + 1) 31 #[.int .i64 0, .int .i64 0] := Blk.newAt (by simp)
  have hr1 := hr.behind hb0
  by_cases he : holeErr C R B F cl n = 0
  · have hc : ringN C R B F cl n = n / C := if_pos he
    have hd : colN C R B F cl n = n % C := if_pos he
    have hok : Ok C R B F cl := by
      refine Classical.byContradiction fun h => ?_
      exact (holeErr_bad n h).2 he
    have k1 := hok.c3
    have k2 := hok.c120
    have hhn := holeErr_ok n hok
    have hnn : 0 ≤ n ∧ n < C * R := by
      refine Classical.byContradiction fun h => ?_
      rw [if_neg h, he] at hhn
      cases hhn
    have g1 := hok.holes
    have hC : (C == 0) = false := by simp; omega
    obtain ⟨h0, h1⟩ := hnn
    have hq0 : 0 ≤ n / C := Int.ediv_nonneg h0 (by omega)
    have hq1 : n / C ≤ n := Int.ediv_le_self _ h0
    rw [hc, he]
    have HE := Lib.hid he
    have HD := Lib.hid hd
    clear hc hok he hd hhn
    go_enter Try.func19, Try.ntmps19
    go_wp2_with (first
      | (go_at_call 17; refine (refColumn17_any C R B F A cap cl n _ hcl hr1).mono ?_; rw [HE.out, HD.out]; rintro e w1 ⟨rfl, hb1⟩; have hbk1 := (hbk.below hb1 (by simp; omega)).alloc (.cells #[.int .i64 (n % C), .int .i64 0] 31); obtain ⟨d0, d1, d2, d3, d4⟩ := hbk1.five; have hbq1 := (hbq.below hb1 (by simp)).alloc (.cells #[.int .i64 (n % C), .int .i64 0] 31); obtain ⟨m0, m1, m2, m3⟩ : (w1.alloc (.cells #[.int .i64 (n % C), .int .i64 0] 31)).cell? ⟨w.heap.size + 1, 0, none⟩ = some (.int .i64 0) ∧ (w1.alloc (.cells #[.int .i64 (n % C), .int .i64 0] 31)).cell? ⟨w.heap.size + 1, 1, none⟩ = some (.int .i64 0) ∧ (w1.alloc (.cells #[.int .i64 (n % C), .int .i64 0] 31)).frozen? ⟨w.heap.size + 1, 0, none⟩ = false ∧ (w1.alloc (.cells #[.int .i64 (n % C), .int .i64 0] 31)).frozen? ⟨w.heap.size + 1, 1, none⟩ = false := ⟨hbq1.cell 0, hbq1.cell 1, hbq1.frozen 0, hbq1.frozen 1⟩))
    refine bodyPost_ret (v := .agg #[.int .i64 (n / C), .int .i64 0]) (results_cell_row (g := w.heap.size + 1) rfl _ _ 31 _ (0, 0) _ rfl ((hbq1.store 0 (.int .i64 (n / C))).store 1 (.int .i64 0)) Try.underlying31 rfl info31) rfl ?_
    have hz1 := hb1.size
    simp at hz1
    exact ⟨rfl, (((below_next hb0 (by simp; omega) hb1).alloc (by omega) _).setCell (p := ⟨w.heap.size + 1, 0, none⟩) (by simp) _).setCell (p := ⟨w.heap.size + 1, 1, none⟩) (by simp) _⟩
  · have hc : ringN C R B F cl n = 0 := if_neg he
    have hd : colN C R B F cl n = 0 := if_neg he
    have n1 : (holeErr C R B F cl n == 0) = false := by simpa using he
    have n2 : (holeErr C R B F cl n != 0) = true := by simpa using he
    rw [hc]
    have HD := Lib.hid hd
    clear hc he hd
    go_enter Try.func19, Try.ntmps19
    go_wp2_with (first
      | (go_at_call 17; refine (refColumn17_any C R B F A cap cl n _ hcl hr1).mono ?_; rw [HD.out]; rintro e w1 ⟨rfl, hb1⟩; have hbq1 := (hbq.below hb1 (by simp)).alloc (.cells #[.int .i64 0, .int .i64 (holeErr C R B F cl n)] 31); obtain ⟨m0, m1, m2, m3⟩ : (w1.alloc (.cells #[.int .i64 0, .int .i64 (holeErr C R B F cl n)] 31)).cell? ⟨w.heap.size + 1, 0, none⟩ = some (.int .i64 0) ∧ (w1.alloc (.cells #[.int .i64 0, .int .i64 (holeErr C R B F cl n)] 31)).cell? ⟨w.heap.size + 1, 1, none⟩ = some (.int .i64 0) ∧ (w1.alloc (.cells #[.int .i64 0, .int .i64 (holeErr C R B F cl n)] 31)).frozen? ⟨w.heap.size + 1, 0, none⟩ = false ∧ (w1.alloc (.cells #[.int .i64 0, .int .i64 (holeErr C R B F cl n)] 31)).frozen? ⟨w.heap.size + 1, 1, none⟩ = false := ⟨hbq1.cell 0, hbq1.cell 1, hbq1.frozen 0, hbq1.frozen 1⟩))
    refine bodyPost_ret (v := .agg #[.int .i64 0, .int .i64 (holeErr C R B F cl n)]) (results_cell_row (g := w.heap.size + 1) rfl _ _ 31 _ (0, 0) _ rfl ((hbq1.store 0 (.int .i64 0)).store 1 (.int .i64 (holeErr C R B F cl n))) Try.underlying31 rfl info31) rfl ?_
    have hz1 := hb1.size
    simp at hz1
    exact ⟨rfl, (((below_next hb0 (by simp; omega) hb1).alloc (by omega) _).setCell (p := ⟨w.heap.size + 1, 0, none⟩) (by simp) _).setCell (p := ⟨w.heap.size + 1, 1, none⟩) (by simp) _⟩

/-- what one of the reference's functions hands back that makes numbers or has an error -/
def RetIntsE (w : World) (l : List Int) (er : Int) (e : Ending) (w' : World) : Prop :=
  ∃ A c, e = .returned (.agg #[.slice A l.length c, .int .i64 er]) ∧ l.length ≤ c ∧ c ≤ maxLen ∧ Ints w' w'.heap.size A l ∧ Below w.heap.size w w'

end Go.Proofs.Ytnjmkdgglpcfpaa
