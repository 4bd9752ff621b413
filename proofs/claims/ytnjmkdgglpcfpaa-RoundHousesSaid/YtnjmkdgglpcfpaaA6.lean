import Derived.Test.YtnjmkdgglpcfpaaA5
namespace Go.Proofs.Ytnjmkdgglpcfpaa
open Go.RowKit

set_option maxRecDepth 100000 in
set_option maxHeartbeats 400000 in
theorem checkHoles_loop {C R B F : Int} {A : Option Addr} {cap : Nat} {cl : List Int} {D : Option Addr} {dap : Nat} {l : List Int} (w : World) (hok : Ok C R B F cl) (hr : Ints w w.heap.size A cl) (hl : Ints w w.heap.size D l) (hll : l.length ≤ 200) (res : Int)
    (hyes : Hid ((∀ x ∈ l, 0 ≤ x ∧ x < C * R) → res = 0)) (hno : Hid (¬ (∀ x ∈ l, 0 ≤ x ∧ x < C * R) → res = 1)) :
    Calls Try.prog 76 #[.agg #[.int .i64 C, .int .i64 R, .int .i64 B, .int .i64 F, .slice A cl.length cap], .slice D l.length dap] w fun e w' => e = .returned (.int .i64 res) ∧ Below w.heap.size w w' := by
  have hr1 := hr.alloc (Nat.le_refl _) (.cells #[.int .i64 C, .int .i64 R, .int .i64 B, .int .i64 F, .slice A cl.length cap] 24)
  have h0 := hok.holes0
  have h1 := hok.holes
  have hlI : (l.length : Int) ≤ 200 := by omega
  go_enter Try.func76, Try.ntmps76
  go_wp2_with (first
    | (go_at_call 26; refine (check_ok _ hok (hr1.more (by simp))).mono ?_; rintro e w1 ⟨rfl, hb1⟩))
  have hb : Below w.heap.size w w1 := below_next (below_new _ _) (by simp) hb1
  have hblk : Blk w1 w.heap.size 24 #[.int .i64 C, .int .i64 R, .int .i64 B, .int .i64 F, .slice A cl.length cap] := (Blk.new _ _ _).below hb1 (by simp)
  clear hb1 hr1
  go_loopw [7, 18] (fun _ i wr => ∃ k : Nat, k ≤ l.length ∧ i = .int .i64 k ∧ Hid (∀ x ∈ l.take k, 0 ≤ x ∧ x < C * R) ∧ Below w.heap.size w wr ∧ Blk wr w.heap.size 24 #[.int .i64 C, .int .i64 R, .int .i64 B, .int .i64 F, .slice A cl.length cap])
    (fun _ i _ => l.length - (intOf i).toNat)
  case atStart => exact ⟨0, Nat.zero_le _, rfl, (by intro x hx; simp at hx), hb, hblk⟩
  case round =>
    obtain ⟨k, hk, rfl, hall, hb, hb0⟩ := hrel
    obtain ⟨d0, d1, d2, d3, d4⟩ := hb0.five
    have hlt0 := hb0.lt
    by_cases hlt : k < l.length
    · obtain ⟨ad, rfl, hB, hc⟩ := (hl.below hb).get hlt
      by_cases hx : 0 ≤ l[k] ∧ l[k] < C * R
      · have hd : decide (0 ≤ l[k] ∧ l[k] < C * R) = true := by simpa using hx
        have hn : Hid (∀ x ∈ l.take (k + 1), 0 ≤ x ∧ x < C * R) := by
          intro x hxx
          rw [List.take_succ_eq_append_getElem hlt] at hxx
          rcases List.mem_append.1 hxx with h | h
          · exact hall x h
          · obtain rfl : x = l[k] := by simpa using h
            exact hx
        clear hx hall
        go_wp2_with (first
          | (go_at_call 60; refine (isHole_any _ _ _ _ _ _ _ h0 h1).mono ?_; rw [hd]; rintro e w2 ⟨rfl, hb2⟩; obtain ⟨q3, q4⟩ := bcell hb2))
        go_roundw
        case rel => exact ⟨k + 1, by omega, by go_num, hn, below_next hb (by omega) hb2, hb0.below hb2 (by omega)⟩
        case measure => simp [intOf]; try omega
      · have hd : decide (0 ≤ l[k] ∧ l[k] < C * R) = false := by simpa using hx
        have hres := Lib.hid (hno.out fun h => hx (h _ (List.getElem_mem hlt)))
        clear hx hall hyes hno
        go_wp2_with (first
          | (go_at_call 60; refine (isHole_any _ _ _ _ _ _ _ h0 h1).mono ?_; rw [hd]; rintro e w2 ⟨rfl, hb2⟩; obtain ⟨q3, q4⟩ := bcell hb2))
        go_ret
        exact ⟨ret_int hres.out.symm, below_next hb (by omega) hb2⟩
    · have hres := Lib.hid (hyes.out (by have := hall.out; rwa [List.take_of_length_le (by omega)] at this))
      clear hyes hno hall
      go_wp2_with fail
      go_ret
      exact ⟨ret_int hres.out.symm, hb⟩

set_option maxRecDepth 100000 in
set_option maxHeartbeats 400000 in
theorem checkHoles_any {C R B F : Int} {A : Option Addr} {cap : Nat} {cl : List Int} {D : Option Addr} {dap : Nat} {l : List Int} (w : World) (hB : B ≤ 9223372036854775807) (hcl : cl.length ≤ 9223372036854775807) (hr : Ints w w.heap.size A cl) (hl : Ints w w.heap.size D l) (hll : l.length ≤ 9223372036854775807) :
    Calls Try.prog 76 #[.agg #[.int .i64 C, .int .i64 R, .int .i64 B, .int .i64 F, .slice A cl.length cap], .slice D l.length dap] w fun e w' => e = .returned (.int .i64 (holesErr C R B F cl l)) ∧ Below w.heap.size w w' := by
  by_cases hok : Ok C R B F cl
  · rw [holesErr_ok l hok]
    by_cases h2 : 200 < l.length
    · rw [if_pos h2]
      have hr1 := hr.alloc (Nat.le_refl _) (.cells #[.int .i64 C, .int .i64 R, .int .i64 B, .int .i64 F, .slice A cl.length cap] 24)
      have hlI : (200 : Int) < (l.length : Int) := by omega
      go_enter Try.func76, Try.ntmps76
      go_wp2_with (first
        | (go_at_call 26; refine (check_ok _ hok (hr1.more (by simp))).mono ?_; rintro e w1 ⟨rfl, hb1⟩))
      go_ret
      exact ⟨rfl, below_next (below_new _ _) (by simp) hb1⟩
    · rw [if_neg h2]
      exact checkHoles_loop w hok hr hl (by omega) _ (fun h => if_pos h) (fun h => if_neg h)
  · rw [holesErr_bad l hok]
    obtain ⟨n1, n2⟩ := chk_ne hok
    have hr1 := hr.alloc (Nat.le_refl _) (.cells #[.int .i64 C, .int .i64 R, .int .i64 B, .int .i64 F, .slice A cl.length cap] 24)
    go_enter Try.func76, Try.ntmps76
    go_wp2_with (first
      | (go_at_call 26; refine (check_any _ _ _ _ _ _ _ _ hB hcl (hr1.more (by simp))).mono ?_; rintro e w1 ⟨rfl, hb1⟩; obtain ⟨q1, q2⟩ := bcell hb1))
    go_ret
    exact ⟨rfl, below_next (below_new _ _) (by simp) hb1⟩
end Go.Proofs.Ytnjmkdgglpcfpaa
