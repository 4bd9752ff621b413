import Derived.Test.YtnjmkdgglpcfpaaA4
namespace Go.Proofs.Ytnjmkdgglpcfpaa
open Go.RowKit

set_option maxRecDepth 100000 in
set_option maxHeartbeats 400000 in
theorem checkColumn_any (C R B F : Int) (A : Option Addr) (cap : Nat) (cl : List Int) (c : Int) (w : World) (hB : B ≤ 9223372036854775807) (hcl : cl.length ≤ 9223372036854775807) (hr : Ints w w.heap.size A cl) :
    Calls Try.prog 62 #[.agg #[.int .i64 C, .int .i64 R, .int .i64 B, .int .i64 F, .slice A cl.length cap], .int .i64 c] w fun e w' => e = .returned (.int .i64 (colErr C R B F cl c)) ∧ Below w.heap.size w w' := by
  by_cases hok : Ok C R B F cl
  · rw [colErr_ok c hok]
    have hr1 := hr.alloc (Nat.le_refl _) (.cells #[.int .i64 C, .int .i64 R, .int .i64 B, .int .i64 F, .slice A cl.length cap] 24)
    by_cases hc : 0 ≤ c ∧ c < C
    · rw [if_pos hc]
      have hd : decide (0 ≤ c ∧ c < C) = true := by simpa using hc
      clear hc
      go_enter Try.func62, Try.ntmps62
      go_wp2_with (first
        | (go_at_call 26; refine (check_ok _ hok (hr1.more (by simp))).mono ?_; rintro e w1 ⟨rfl, hb1⟩; obtain ⟨q1, q2⟩ := bcell hb1)
        | (go_at_call 74; refine (isColumn_any _ _ _ _ _ _ _).mono ?_; rw [hd]; rintro e w2 ⟨rfl, hb2⟩))
      go_ret
      exact ⟨rfl, below_next (below_next (below_new _ _) (by simp) hb1) (by have := hb1.size; simp at this; omega) hb2⟩
    · rw [if_neg hc]
      have hd : decide (0 ≤ c ∧ c < C) = false := by simpa using hc
      clear hc
      go_enter Try.func62, Try.ntmps62
      go_wp2_with (first
        | (go_at_call 26; refine (check_ok _ hok (hr1.more (by simp))).mono ?_; rintro e w1 ⟨rfl, hb1⟩; obtain ⟨q1, q2⟩ := bcell hb1)
        | (go_at_call 74; refine (isColumn_any _ _ _ _ _ _ _).mono ?_; rw [hd]; rintro e w2 ⟨rfl, hb2⟩))
      go_ret
      exact ⟨rfl, below_next (below_next (below_new _ _) (by simp) hb1) (by have := hb1.size; simp at this; omega) hb2⟩
  · rw [colErr_bad c hok]
    obtain ⟨n1, n2⟩ := chk_ne hok
    have hr1 := hr.alloc (Nat.le_refl _) (.cells #[.int .i64 C, .int .i64 R, .int .i64 B, .int .i64 F, .slice A cl.length cap] 24)
    go_enter Try.func62, Try.ntmps62
    go_wp2_with (first
      | (go_at_call 26; refine (check_any _ _ _ _ _ _ _ _ hB hcl (hr1.more (by simp))).mono ?_; rintro e w1 ⟨rfl, hb1⟩; obtain ⟨q1, q2⟩ := bcell hb1))
    go_ret
    exact ⟨rfl, below_next (below_new _ _) (by simp) hb1⟩


set_option maxRecDepth 100000 in
set_option maxHeartbeats 400000 in
theorem column_ok {C R B F : Int} {A : Option Addr} {cap : Nat} {cl : List Int} {c : Int} (w : World) (hok : Ok C R B F cl) (hr : Ints w w.heap.size A cl) (hc : 0 ≤ c ∧ c < C * R) :
    Calls Try.prog 16 #[.agg #[.int .i64 C, .int .i64 R, .int .i64 B, .int .i64 F, .slice A cl.length cap], .int .i64 c] w fun e w' => e = .returned (.tuple #[.int .i64 (c % C), .int .i64 0]) ∧ Below w.heap.size w w' := by
  have hr1 := hr.alloc (Nat.le_refl _) (.cells #[.int .i64 C, .int .i64 R, .int .i64 B, .int .i64 F, .slice A cl.length cap] 24)
  have h0 := hok.holes0
  have h1 := hok.holes
  have hd : decide (0 ≤ c ∧ c < C * R) = true := by simpa using hc
  have hC0 := hok.c3
  have hC1 := hok.c120
  have hC : (C == 0) = false := by simp; omega
  have hc0 := hc.1
  have hc1 : c ≤ 1920 := by omega
  have hq0 : 0 ≤ c / C := Int.ediv_nonneg hc0 (by omega)
  have hq1 : c / C ≤ 1920 := by have := Int.ediv_le_self C hc0; omega
  clear hc
  go_enter Try.func16, Try.ntmps16
  go_wp2_with (first
    | (go_at_call 26; refine (check_ok _ hok (hr1.more (by simp))).mono ?_; rintro e w1 ⟨rfl, hb1⟩; obtain ⟨q1, q2⟩ := bcell hb1)
    | (go_at_call 60; refine (isHole_any _ _ _ _ _ _ _ h0 h1).mono ?_; rw [hd]; rintro e w2 ⟨rfl, hb2⟩; have hz := hb1.size; rw [World.size_alloc] at hz; have hz' : w.heap.size < w1.heap.size := hz; obtain ⟨q3, q4⟩ := bcell hb2))
  go_ret2
  exact ⟨rfl, below_next (below_next (below_new _ _) (by simp) hb1) (by omega) hb2⟩

set_option maxRecDepth 100000 in
set_option maxHeartbeats 400000 in
theorem column_out {C R B F : Int} {A : Option Addr} {cap : Nat} {cl : List Int} {c : Int} (w : World) (hok : Ok C R B F cl) (hr : Ints w w.heap.size A cl) (hc : ¬ (0 ≤ c ∧ c < C * R)) :
    Calls Try.prog 16 #[.agg #[.int .i64 C, .int .i64 R, .int .i64 B, .int .i64 F, .slice A cl.length cap], .int .i64 c] w fun e w' => e = .returned (.tuple #[.int .i64 0, .int .i64 1]) ∧ Below w.heap.size w w' := by
  have hr1 := hr.alloc (Nat.le_refl _) (.cells #[.int .i64 C, .int .i64 R, .int .i64 B, .int .i64 F, .slice A cl.length cap] 24)
  have h0 := hok.holes0
  have h1 := hok.holes
  have hd : decide (0 ≤ c ∧ c < C * R) = false := by simpa using hc
  clear hc
  go_enter Try.func16, Try.ntmps16
  go_wp2_with (first
    | (go_at_call 26; refine (check_ok _ hok (hr1.more (by simp))).mono ?_; rintro e w1 ⟨rfl, hb1⟩; obtain ⟨q1, q2⟩ := bcell hb1)
    | (go_at_call 60; refine (isHole_any _ _ _ _ _ _ _ h0 h1).mono ?_; rw [hd]; rintro e w2 ⟨rfl, hb2⟩; have hz := hb1.size; rw [World.size_alloc] at hz; have hz' : w.heap.size < w1.heap.size := hz; obtain ⟨q3, q4⟩ := bcell hb2))
  go_ret2
  exact ⟨rfl, below_next (below_next (below_new _ _) (by simp) hb1) (by omega) hb2⟩

set_option maxRecDepth 100000 in
set_option maxHeartbeats 400000 in
theorem column_bad {C R B F : Int} {A : Option Addr} {cap : Nat} {cl : List Int} {c : Int} (w : World) (hok : ¬ Ok C R B F cl) (hB : B ≤ 9223372036854775807) (hcl : cl.length ≤ 9223372036854775807) (hr : Ints w w.heap.size A cl) :
    Calls Try.prog 16 #[.agg #[.int .i64 C, .int .i64 R, .int .i64 B, .int .i64 F, .slice A cl.length cap], .int .i64 c] w fun e w' => e = .returned (.tuple #[.int .i64 0, .int .i64 (chk C R B F cl)]) ∧ Below w.heap.size w w' := by
  obtain ⟨n1, n2⟩ := chk_ne hok
  have hr1 := hr.alloc (Nat.le_refl _) (.cells #[.int .i64 C, .int .i64 R, .int .i64 B, .int .i64 F, .slice A cl.length cap] 24)
  go_enter Try.func16, Try.ntmps16
  go_wp2_with (first
    | (go_at_call 26; refine (check_any _ _ _ _ _ _ _ _ hB hcl (hr1.more (by simp))).mono ?_; rintro e w1 ⟨rfl, hb1⟩; obtain ⟨q1, q2⟩ := bcell hb1))
  go_ret2
  exact ⟨rfl, below_next (below_new _ _) (by simp) hb1⟩

set_option maxRecDepth 100000 in
set_option maxHeartbeats 400000 in
theorem ring_ok {C R B F : Int} {A : Option Addr} {cap : Nat} {cl : List Int} {c : Int} (w : World) (hok : Ok C R B F cl) (hr : Ints w w.heap.size A cl) (hc : 0 ≤ c ∧ c < C * R) :
    Calls Try.prog 18 #[.agg #[.int .i64 C, .int .i64 R, .int .i64 B, .int .i64 F, .slice A cl.length cap], .int .i64 c] w fun e w' => e = .returned (.tuple #[.int .i64 (c / C), .int .i64 0]) ∧ Below w.heap.size w w' := by
  have hr1 := hr.alloc (Nat.le_refl _) (.cells #[.int .i64 C, .int .i64 R, .int .i64 B, .int .i64 F, .slice A cl.length cap] 24)
  have h0 := hok.holes0
  have h1 := hok.holes
  have hd : decide (0 ≤ c ∧ c < C * R) = true := by simpa using hc
  have hC0 := hok.c3
  have hC1 := hok.c120
  have hC : (C == 0) = false := by simp; omega
  have hc0 := hc.1
  have hc1 : c ≤ 1920 := by omega
  have hq0 : 0 ≤ c / C := Int.ediv_nonneg hc0 (by omega)
  have hq1 : c / C ≤ 1920 := by have := Int.ediv_le_self C hc0; omega
  clear hc
  go_enter Try.func18, Try.ntmps18
  go_wp2_with (first
    | (go_at_call 26; refine (check_ok _ hok (hr1.more (by simp))).mono ?_; rintro e w1 ⟨rfl, hb1⟩; obtain ⟨q1, q2⟩ := bcell hb1)
    | (go_at_call 60; refine (isHole_any _ _ _ _ _ _ _ h0 h1).mono ?_; rw [hd]; rintro e w2 ⟨rfl, hb2⟩; have hz := hb1.size; rw [World.size_alloc] at hz; have hz' : w.heap.size < w1.heap.size := hz; obtain ⟨q3, q4⟩ := bcell hb2))
  go_ret2
  exact ⟨rfl, below_next (below_next (below_new _ _) (by simp) hb1) (by omega) hb2⟩

set_option maxRecDepth 100000 in
set_option maxHeartbeats 400000 in
theorem ring_out {C R B F : Int} {A : Option Addr} {cap : Nat} {cl : List Int} {c : Int} (w : World) (hok : Ok C R B F cl) (hr : Ints w w.heap.size A cl) (hc : ¬ (0 ≤ c ∧ c < C * R)) :
    Calls Try.prog 18 #[.agg #[.int .i64 C, .int .i64 R, .int .i64 B, .int .i64 F, .slice A cl.length cap], .int .i64 c] w fun e w' => e = .returned (.tuple #[.int .i64 0, .int .i64 1]) ∧ Below w.heap.size w w' := by
  have hr1 := hr.alloc (Nat.le_refl _) (.cells #[.int .i64 C, .int .i64 R, .int .i64 B, .int .i64 F, .slice A cl.length cap] 24)
  have h0 := hok.holes0
  have h1 := hok.holes
  have hd : decide (0 ≤ c ∧ c < C * R) = false := by simpa using hc
  clear hc
  go_enter Try.func18, Try.ntmps18
  go_wp2_with (first
    | (go_at_call 26; refine (check_ok _ hok (hr1.more (by simp))).mono ?_; rintro e w1 ⟨rfl, hb1⟩; obtain ⟨q1, q2⟩ := bcell hb1)
    | (go_at_call 60; refine (isHole_any _ _ _ _ _ _ _ h0 h1).mono ?_; rw [hd]; rintro e w2 ⟨rfl, hb2⟩; have hz := hb1.size; rw [World.size_alloc] at hz; have hz' : w.heap.size < w1.heap.size := hz; obtain ⟨q3, q4⟩ := bcell hb2))
  go_ret2
  exact ⟨rfl, below_next (below_next (below_new _ _) (by simp) hb1) (by omega) hb2⟩

set_option maxRecDepth 100000 in
set_option maxHeartbeats 400000 in
theorem ring_bad {C R B F : Int} {A : Option Addr} {cap : Nat} {cl : List Int} {c : Int} (w : World) (hok : ¬ Ok C R B F cl) (hB : B ≤ 9223372036854775807) (hcl : cl.length ≤ 9223372036854775807) (hr : Ints w w.heap.size A cl) :
    Calls Try.prog 18 #[.agg #[.int .i64 C, .int .i64 R, .int .i64 B, .int .i64 F, .slice A cl.length cap], .int .i64 c] w fun e w' => e = .returned (.tuple #[.int .i64 0, .int .i64 (chk C R B F cl)]) ∧ Below w.heap.size w w' := by
  obtain ⟨n1, n2⟩ := chk_ne hok
  have hr1 := hr.alloc (Nat.le_refl _) (.cells #[.int .i64 C, .int .i64 R, .int .i64 B, .int .i64 F, .slice A cl.length cap] 24)
  go_enter Try.func18, Try.ntmps18
  go_wp2_with (first
    | (go_at_call 26; refine (check_any _ _ _ _ _ _ _ _ hB hcl (hr1.more (by simp))).mono ?_; rintro e w1 ⟨rfl, hb1⟩; obtain ⟨q1, q2⟩ := bcell hb1))
  go_ret2
  exact ⟨rfl, below_next (below_new _ _) (by simp) hb1⟩

end Go.Proofs.Ytnjmkdgglpcfpaa
