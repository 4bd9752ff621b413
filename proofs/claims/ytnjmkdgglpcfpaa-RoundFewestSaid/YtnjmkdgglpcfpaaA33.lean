import Derived.Test.YtnjmkdgglpcfpaaA31
import Derived.Test.YtnjmkdgglpcfpaaA27
import Derived.Test.YtnjmkdgglpcfpaaA22
namespace Go.Proofs.Ytnjmkdgglpcfpaa
open Go.RowKit

set_option maxRecDepth 100000 in
set_option maxHeartbeats 1000000 in
theorem refColumn_any (C R B F : Int) (A : Option Addr) (cap : Nat) (cl : List Int) (c : Int) (w : World) (hcl : cl.length ≤ 1000000) (hr : Ints w w.heap.size A cl) :
    Calls Try.prog 65 #[.agg #[.int .i64 C, .int .i64 R, .int .i64 B, .int .i64 F, .slice A cl.length cap], .int .i64 c] w fun e w' => e = .returned (.int .i64 (colErr C R B F cl c)) ∧ Below w.heap.size w w' := by
  have hb0 := below_new w (.cells #[.int .i64 C, .int .i64 R, .int .i64 B, .int .i64 F, .slice A cl.length cap] 24)
  have hbk := Blk.new w 24 #[.int .i64 C, .int .i64 R, .int .i64 B, .int .i64 F, .slice A cl.length cap]
  have hr1 := hr.behind hb0
  by_cases hok : Ok C R B F cl
  · have hz : Hid (chk C R B F cl = 0) := chk_ok.2 hok
    have k1 := hok.c3
    have k2 := hok.c120
    rw [colErr_ok c hok]
    by_cases hc : 0 ≤ c ∧ c < C
    · rw [if_pos hc]
      have D1 : Hid (decide (0 ≤ c ∧ c ≤ C - 1) = true) := decide_eq_true (by omega)
      clear hc hok
      go_enter Try.func65, Try.ntmps65
      go_wp2_with (first
        | (go_at_call 27; refine (refCheck_any C R B F A cap cl _ hcl hr1).mono ?_; rw [hz.out]; rintro e w1 ⟨rfl, hb1⟩; obtain ⟨d0, d1, d2, d3, d4⟩ := (hbk.below hb1 (by simp)).five)
        | (go_at_call 61; refine (in_any c 0 (C - 1) _).mono ?_; rw [D1.out]; rintro e w2 ⟨rfl, rfl⟩))
      go_ret
      exact ⟨rfl, below_next hb0 (by simp) hb1⟩
    · rw [if_neg hc]
      have D1 : Hid (decide (0 ≤ c ∧ c ≤ C - 1) = false) := decide_eq_false (by omega)
      clear hc hok
      go_enter Try.func65, Try.ntmps65
      go_wp2_with (first
        | (go_at_call 27; refine (refCheck_any C R B F A cap cl _ hcl hr1).mono ?_; rw [hz.out]; rintro e w1 ⟨rfl, hb1⟩; obtain ⟨d0, d1, d2, d3, d4⟩ := (hbk.below hb1 (by simp)).five)
        | (go_at_call 61; refine (in_any c 0 (C - 1) _).mono ?_; rw [D1.out]; rintro e w2 ⟨rfl, rfl⟩))
      go_ret
      exact ⟨rfl, below_next hb0 (by simp) hb1⟩
  · obtain ⟨n1, n2⟩ := chk_ne hok
    rw [colErr_bad c hok]
    clear hok
    go_enter Try.func65, Try.ntmps65
    go_wp2_with (first
      | (go_at_call 27; refine (refCheck_any C R B F A cap cl _ hcl hr1).mono ?_; rintro e w1 ⟨rfl, hb1⟩))
    go_ret
    exact ⟨rfl, below_next hb0 (by simp) hb1⟩

set_option maxRecDepth 100000 in
set_option maxHeartbeats 2000000 in
theorem wanted_any (C R B F : Int) (A : Option Addr) (cap : Nat) (cl : List Int) (D : Option Addr) (dap : Nat) (l : List Int) (w : World) (hcl : cl.length ≤ 1000000) (hll : l.length ≤ 1000000) (hr : Ints w w.heap.size A cl) (hl : Ints w w.heap.size D l) :
    Calls Try.prog 79 #[.agg #[.int .i64 C, .int .i64 R, .int .i64 B, .int .i64 F, .slice A cl.length cap], .slice D l.length dap] w fun e w' => e = .returned (.int .i64 (holesErr C R B F cl l)) ∧ Below w.heap.size w w' := by
  have hb0 := below_new w (.cells #[.int .i64 C, .int .i64 R, .int .i64 B, .int .i64 F, .slice A cl.length cap] 24)
  have hbk := Blk.new w 24 #[.int .i64 C, .int .i64 R, .int .i64 B, .int .i64 F, .slice A cl.length cap]
  have hr1 := hr.behind hb0
  by_cases hok : Ok C R B F cl
  · have hz : Hid (chk C R B F cl = 0) := chk_ok.2 hok
    have k1 := hok.c3
    have k2 := hok.c120
    have g0 := hok.holes0
    have g1 := hok.holes
    rw [Int.mul_comm] at g0 g1
    rw [holesErr_ok l hok, Int.mul_comm C R]
    clear hok
    by_cases c0 : 200 < l.length
    · have e2 : (200 : Int) < ((l.length : Nat) : Int) := by omega
      have e3 : decide ((200 : Int) < ((l.length : Nat) : Int)) = true := decide_eq_true e2
      rw [if_pos c0]
      go_enter Try.func79, Try.ntmps79
      go_wp2_with (first
        | (go_at_call 27; refine (refCheck_any C R B F A cap cl _ hcl hr1).mono ?_; rw [hz.out]; rintro e w1 ⟨rfl, hb1⟩))
      go_ret
      exact ⟨rfl, below_next hb0 (by simp) hb1⟩
    · have e2 : ¬ (200 : Int) < ((l.length : Nat) : Int) := by omega
      have e3 : decide ((200 : Int) < ((l.length : Nat) : Int)) = false := decide_eq_false e2
      rw [if_neg c0]
      generalize hres : (if ∀ x ∈ l, 0 ≤ x ∧ x < R * C then (0 : Int) else 1) = res
      have HR := Lib.hid hres
      clear hres
      go_enter Try.func79, Try.ntmps79
      go_wp2_with (first
        | (go_at_call 27; refine (refCheck_any C R B F A cap cl _ hcl hr1).mono ?_; rw [hz.out]; rintro e w1 ⟨rfl, hb1⟩))
      have hba : Below w.heap.size w w1 := below_next hb0 (by simp) hb1
      have hbk1 := hbk.below hb1 (by simp)
      clear hbk
      go_loopw [6] (fun i wr => ∃ k : Nat, k ≤ l.length ∧ i = .int .i64 k ∧ Hid (∀ x ∈ l.take k, 0 ≤ x ∧ x < R * C) ∧ Below w1.heap.size w1 wr)
        (fun i _ => l.length - (intOf i).toNat)
      case atStart => exact ⟨0, Nat.zero_le _, rfl, by simp [Hid], Below.refl _ _⟩
      case round =>
        obtain ⟨k, hk, rfl, hall, hb⟩ := hrel
        have hbw := below_next hba hba.size hb
        obtain ⟨d0, d1, d2, d3, d4⟩ := (hbk1.below hb hbk1.lt).five
        have hw1 : IntKind.i64.wrap (R * C) = R * C := IntWalk.i64_in _ (by omega)
        have hw2 : IntKind.i64.wrap (R * C - 1) = R * C - 1 := IntWalk.i64_in _ (by omega)
        by_cases hlt : k < l.length
        · obtain ⟨ad, hA, hB, hc⟩ := (hl.below hbw).get hlt
          subst hA
          have hll2 : (k : Int) < (l.length : Int) := by omega
          by_cases hx : 0 ≤ l[k] ∧ l[k] < R * C
          · have D1 : Hid (decide (0 ≤ l[k] ∧ l[k] ≤ R * C - 1) = true) := decide_eq_true (by omega)
            have hn : Hid (∀ x ∈ l.take (k + 1), 0 ≤ x ∧ x < R * C) := by
              intro x hxx
              rw [List.take_succ_eq_append_getElem hlt] at hxx
              rcases List.mem_append.1 hxx with h | h
              · exact hall.out x h
              · rw [List.mem_singleton.1 h]; exact hx
            clear hx hall
            go_wp2_with fail
            go_quiet ((go_at_call 61; exact Calls.quiet_of_same ((in_any _ _ _ _).mono fun e w' h => ⟨by rw [h.1, D1.out], h.2.symm⟩)))
            clear hw1 hw2
            go_wp2_with fail
            go_roundw
            case rel => exact ⟨k + 1, by omega, by go_num, hn, below_drewN hb _⟩
            case measure => simp [intOf]; try omega
          · have D1 : Hid (decide (0 ≤ l[k] ∧ l[k] ≤ R * C - 1) = false) := decide_eq_false (by omega)
            have hres : Hid (res = 1) := by unfold Hid; rw [← HR.out]; exact if_neg fun h => hx (h _ (List.getElem_mem hlt))
            clear hx hall
            go_wp2_with fail
            go_quiet ((go_at_call 61; exact Calls.quiet_of_same ((in_any _ _ _ _).mono fun e w' h => ⟨by rw [h.1, D1.out], h.2.symm⟩)))
            clear hw1 hw2
            go_wp2_with fail
            go_ret
            exact ⟨by rw [hres.out]; rfl, below_drewN hbw _⟩
        · have hres : Hid (res = 0) := by unfold Hid; rw [← HR.out]; exact if_pos (by have := hall.out; rwa [List.take_of_length_le (by omega)] at this)
          clear hw1 hw2 hall
          go_wp2_with fail
          go_ret
          exact ⟨by rw [hres.out]; rfl, hbw⟩
  · obtain ⟨n1, n2⟩ := chk_ne hok
    rw [holesErr_bad l hok]
    clear hok
    go_enter Try.func79, Try.ntmps79
    go_wp2_with (first
      | (go_at_call 27; refine (refCheck_any C R B F A cap cl _ hcl hr1).mono ?_; rintro e w1 ⟨rfl, hb1⟩))
    go_ret
    exact ⟨rfl, below_next hb0 (by simp) hb1⟩

end Go.Proofs.Ytnjmkdgglpcfpaa

namespace Go.Proofs.Ytnjmkdgglpcfpaa
open Go.RowKit

set_option maxRecDepth 100000 in
set_option maxHeartbeats 400000 in
theorem refTurned_any (C R B F : Int) (A : Option Addr) (cap : Nat) (cl : List Int) (s : Int) (D : Option Addr) (dap : Nat) (l : List Int) (w : World) (hcl : cl.length ≤ 1000000) (hll : l.length ≤ 1000000) (hr : Ints w w.heap.size A cl) (hl : Ints w w.heap.size D l) :
    Calls Try.prog 105 #[.agg #[.int .i64 C, .int .i64 R, .int .i64 B, .int .i64 F, .slice A cl.length cap], .int .i64 s, .slice D l.length dap] w fun e w' => e = .returned (.int .i64 (wayErr C R B F cl s l)) ∧ Below w.heap.size w w' := by
  have hb0 := below_new w (.cells #[.int .i64 C, .int .i64 R, .int .i64 B, .int .i64 F, .slice A cl.length cap] 24)
  have hr1 := hr.behind hb0
  have hl1 := hl.behind hb0
  by_cases he : colErr C R B F cl s = 0
  · obtain ⟨hok, hs⟩ := colErr_zero he
    have k1 := hok.c3
    have k2 := hok.c120
    have hw : wayErr C R B F cl s l = standsErr C cl l := by unfold wayErr; rw [if_neg (by simp [he])]
    rw [hw]
    have HE := Lib.hid he
    clear hw he
    have hbk : Blk (w.alloc (.cells #[.int .i64 C, .int .i64 R, .int .i64 B, .int .i64 F, .slice A cl.length cap] 24)) w.heap.size 24 #[.int .i64 C, .int .i64 R, .int .i64 B, .int .i64 F, .slice A cl.length cap] := Blk.new _ _ _
    go_enter Try.func105, Try.ntmps105
    go_wp2_with (first
      | (go_at_call 65; refine (refColumn_any C R B F A cap cl s _ hcl hr1).mono ?_; rw [HE.out]; rintro e w1 ⟨rfl, hb1⟩; obtain ⟨d0, d1, d2, d3, d4⟩ := (hbk.below hb1 (by simp)).five)
      | (go_at_call 82; refine (stood_any _ _ _ _ _ _ _ _ _ _ _ (by omega) k2 hcl hll (hr1.behind hb1) (hl1.behind hb1)).mono ?_; rintro e w2 ⟨rfl, hb2⟩))
    go_ret
    exact ⟨rfl, below_next (below_next hb0 (by simp) hb1) (by have := hb1.size; simp at this; omega) hb2⟩
  · have hw : wayErr C R B F cl s l = colErr C R B F cl s := by unfold wayErr; rw [if_pos he]
    have hn1 : (colErr C R B F cl s == 0) = false := by simpa using he
    have hn2 : (colErr C R B F cl s != 0) = true := by simpa using he
    rw [hw]
    clear hw he
    go_enter Try.func105, Try.ntmps105
    go_wp2_with (first
      | (go_at_call 65; refine (refColumn_any C R B F A cap cl s _ hcl hr1).mono ?_; rintro e w1 ⟨rfl, hb1⟩))
    go_ret
    exact ⟨rfl, below_next hb0 (by simp) hb1⟩

end Go.Proofs.Ytnjmkdgglpcfpaa

