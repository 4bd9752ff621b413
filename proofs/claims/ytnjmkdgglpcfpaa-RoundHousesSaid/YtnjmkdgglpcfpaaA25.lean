import Derived.Test.YtnjmkdgglpcfpaaA24
namespace Go.Proofs.Ytnjmkdgglpcfpaa
open Go.RowKit

set_option maxRecDepth 100000 in
set_option maxHeartbeats 400000 in
theorem reached_any (C R B F : Int) (sl : Value) (s c : Int) (w : World) (h1 : 1 ≤ C) (h2 : C ≤ 120) (h3 : 0 ≤ s) (h4 : s < C) (h7 : 0 ≤ B) (h8 : 0 ≤ F) (h9 : F < C - B) :
    Calls Try.prog 110 #[.agg #[.int .i64 C, .int .i64 R, .int .i64 B, .int .i64 F, sl], .int .i64 s, .int .i64 c] w fun e w' => e = .returned (.bool (decide (c ∈ rchL C B s (B + F + 1).toNat))) ∧ Below w.heap.size w w' := by
  have hln := rchL_len C B s (B + F + 1).toNat
  have hl : (rchL C B s (B + F + 1).toNat).length ≤ 1000000 := by rw [hln]; omega
  clear hln
  generalize hL : rchL C B s (B + F + 1).toNat = L at hl
  have HL := Lib.hid hL
  clear hL
  have hr : Hid (∀ w, Calls Try.prog 66 #[.agg #[.int .i64 C, .int .i64 R, .int .i64 B, .int .i64 F, sl], .int .i64 s] w (RetInts w L)) := fun w => by rw [← HL.out]; exact refReaches_any C R B F sl s w h1 h2 h3 h4 h7 h8 h9
  go_enter Try.func110, Try.ntmps110
  go_wp2_with (first
    | (go_at_call 66; refine (hr.out _).mono ?_; rintro e w1 ⟨A, c', rfl, e1, e2, e3, hb1⟩)
    | (go_at_call 72; refine (has_any L A c' c _ hl e3).mono ?_; rintro e w2 ⟨rfl, rfl⟩))
  go_ret
  exact ⟨rfl, below_next (below_new _ _) (by simp) hb1⟩

/-- are two lists the same -/
theorem same_next {l m : List Int} {k : Nat} (h1 : k < l.length) (h2 : k < m.length) (h : l.take k = m.take k) (he : l[k] = m[k]) : l.take (k + 1) = m.take (k + 1) := by
  rw [List.take_succ_eq_append_getElem h1, List.take_succ_eq_append_getElem h2, h, he]

set_option maxRecDepth 100000 in
set_option maxHeartbeats 1000000 in
theorem same_any (l m : List Int) (A D : Option Addr) (cap dap : Nat) (w : World) (hll : l.length ≤ 1000000) (hlm : m.length ≤ 1000000) (hr : Ints w w.heap.size A l) (hs : Ints w w.heap.size D m) :
    Calls Try.prog 28 #[.slice A l.length cap, .slice D m.length dap] w fun e w' => e = .returned (.bool (decide (l = m))) ∧ Below w.heap.size w w' := by
  by_cases hlen : l.length = m.length
  · have hq1 : ((((l.length : Nat) : Int)) != ((m.length : Nat) : Int)) = false := by simp [hlen]
    have hq2 : (((l.length : Nat) : Int)) = ((m.length : Nat) : Int) := by omega
    go_enter Try.func28, Try.ntmps28
    go_wp2_with fail
    go_loopw [5] (fun i wr => ∃ k : Nat, k ≤ l.length ∧ i = .int .i64 k ∧ Hid (l.take k = m.take k) ∧ Below w.heap.size w wr)
      (fun i _ => l.length - (intOf i).toNat)
    case atStart => exact ⟨0, Nat.zero_le _, rfl, rfl, Below.refl _ _⟩
    case round =>
      obtain ⟨k, hk, rfl, hall, hb⟩ := hrel
      by_cases hlt : k < l.length
      · obtain ⟨ad, rfl, hB, hc⟩ := (hr.below hb).get hlt
        obtain ⟨ad2, rfl, hB2, hc2⟩ := (hs.below hb).get (k := k) (by omega)
        have hlm2 : (k : Int) < (m.length : Int) := by omega
        have hll2 : (k : Int) < (l.length : Int) := by omega
        by_cases hx : l[k] = m[k]
        · have hn : Hid (l.take (k + 1) = m.take (k + 1)) := same_next hlt (by omega) hall.out hx
          have hq : (l[k] != m[k]) = false := by simp [hx]
          clear hall hx
          go_wp2_with fail
          go_quiet (fail)
          go_wp2_with fail
          go_roundw
          case rel => exact ⟨k + 1, by omega, by go_num, hn, below_drewN hb _⟩
          case measure => simp [intOf]; try omega
        · have hd : Hid (decide (l = m) = false) := decide_eq_false fun e => hx (by subst e; rfl)
          have hq : (l[k] != m[k]) = true := by simp [hx]
          clear hall hx
          go_wp2_with fail
          go_quiet (fail)
          go_wp2_with fail
          go_ret
          exact ⟨by rw [hd.out]; rfl, below_drewN hb _⟩
      · have hd : Hid (decide (l = m) = true) := decide_eq_true (by have := hall.out; rwa [List.take_of_length_le (by omega), List.take_of_length_le (by omega)] at this)
        clear hall
        go_wp2_with fail
        go_ret
        exact ⟨by rw [hd.out]; rfl, hb⟩
  · have hq1 : ((((l.length : Nat) : Int)) != ((m.length : Nat) : Int)) = true := by simp; omega
    have hq2 : ¬ (((l.length : Nat) : Int)) = ((m.length : Nat) : Int) := by omega
    have hd : Hid (decide (l = m) = false) := decide_eq_false fun e => hlen (by rw [e])
    go_enter Try.func28, Try.ntmps28
    go_wp2_with fail
    go_ret
    exact ⟨by rw [hd.out]; rfl, Below.refl _ _⟩

end Go.Proofs.Ytnjmkdgglpcfpaa
