import Derived.Test.YtnjmkdgglpcfpaaA15
import Derived.Shelf.Small.Wraps
import Derived.Shelf.Slices.In.SortNone
namespace Go.Proofs.Ytnjmkdgglpcfpaa
open Go.RowKit

/-- the error of 'checkWay' -/
def wayErr (C R B F : Int) (cl : List Int) (s : Int) (l : List Int) : Int := if colErr C R B F cl s ≠ 0 then colErr C R B F cl s else standsErr C cl l
theorem colErr_zero {C R B F : Int} {cl : List Int} {c : Int} (h : colErr C R B F cl c = 0) : Ok C R B F cl ∧ 0 ≤ c ∧ c < C := by
  by_cases hok : Ok C R B F cl
  · refine ⟨hok, ?_⟩
    rw [colErr_ok c hok] at h
    split at h
    · assumption
    · cases h
  · rw [colErr_bad c hok] at h
    exact absurd (chk_ok.1 h) hok

set_option maxRecDepth 100000 in
set_option maxHeartbeats 400000 in
theorem checkWay_any (C R B F : Int) (A : Option Addr) (cap : Nat) (cl : List Int) (s : Int) (D : Option Addr) (dap : Nat) (l : List Int) (w : World) (hB : B ≤ 9223372036854775807) (hcl : cl.length ≤ 9223372036854775807) (hr : Ints w w.heap.size A cl) (hl : Ints w w.heap.size D l) (hll : l.length ≤ 9223372036854775807) :
    Calls Try.prog 99 #[.agg #[.int .i64 C, .int .i64 R, .int .i64 B, .int .i64 F, .slice A cl.length cap], .int .i64 s, .slice D l.length dap] w fun e w' => e = .returned (.int .i64 (wayErr C R B F cl s l)) ∧ Below w.heap.size w w' := by
  have hb0 := below_new w (.cells #[.int .i64 C, .int .i64 R, .int .i64 B, .int .i64 F, .slice A cl.length cap] 24)
  have hr1 := hr.behind hb0
  have hl1 := hl.behind hb0
  by_cases he : colErr C R B F cl s = 0
  · obtain ⟨hok, hs⟩ := colErr_zero he
    have hw : wayErr C R B F cl s l = standsErr C cl l := by unfold wayErr; rw [if_neg (by simp [he])]
    rw [hw]
    have HE := Lib.hid he
    clear hw he
    have hbk : Blk (w.alloc (.cells #[.int .i64 C, .int .i64 R, .int .i64 B, .int .i64 F, .slice A cl.length cap] 24)) w.heap.size 24 #[.int .i64 C, .int .i64 R, .int .i64 B, .int .i64 F, .slice A cl.length cap] := Blk.new _ _ _
    go_enter Try.func99, Try.ntmps99
    go_wp2_with (first
      | (go_at_call 62; refine (checkColumn_any C R B F A cap cl s _ hB hcl hr1).mono ?_; rw [HE.out]; rintro e w1 ⟨rfl, hb1⟩; obtain ⟨d0, d1, d2, d3, d4⟩ := (hbk.below hb1 (by simp)).five)
      | (go_at_call 81; refine (checkStands_any _ hok (hr1.behind hb1) (hl1.behind hb1) hll).mono ?_; rintro e w2 ⟨rfl, hb2⟩))
    go_ret
    exact ⟨rfl, below_next (below_next hb0 (by simp) hb1) (by have := hb1.size; simp at this; omega) hb2⟩
  · have hw : wayErr C R B F cl s l = colErr C R B F cl s := by unfold wayErr; rw [if_pos he]
    have hn1 : (colErr C R B F cl s == 0) = false := by simpa using he
    have hn2 : (colErr C R B F cl s != 0) = true := by simpa using he
    rw [hw]
    clear hw he
    go_enter Try.func99, Try.ntmps99
    go_wp2_with (first
      | (go_at_call 62; refine (checkColumn_any C R B F A cap cl s _ hB hcl hr1).mono ?_; rintro e w1 ⟨rfl, hb1⟩))
    go_ret
    exact ⟨rfl, below_next hb0 (by simp) hb1⟩

/-- the length of the shortest turning of a sweep -/
def lenOf (r l : Int) : Int := r + l + min r l
set_option maxRecDepth 100000 in
set_option maxHeartbeats 400000 in
theorem length_any (r l : Int) (w : World) (h1 : 0 ≤ r) (h2 : r ≤ 1000) (h3 : 0 ≤ l) (h4 : l ≤ 1000) :
    Calls Try.prog 103 #[.agg #[.int .i64 r, .int .i64 l]] w fun e w' => e = .returned (.int .i64 (lenOf r l)) ∧ Below w.heap.size w w' := by
  have hbk := Blk.new w 123 #[.int .i64 r, .int .i64 l]
  have d0 := hbk.cell 0
  have d1 := hbk.cell 1
  unfold lenOf
  have hm0 : 0 ≤ min r l := by omega
  have hm1 : min r l ≤ 1000 := by omega
  go_enter Try.func103, Try.ntmps103
  go_wp2_with fail
  go_ret
  exact ⟨rfl, below_new _ _⟩

set_option maxRecDepth 100000 in
set_option maxHeartbeats 400000 in
theorem turnCost_any (r l : Int) (w : World) (h1 : 0 ≤ r) (h2 : r ≤ 1000) (h3 : 0 ≤ l) (h4 : l ≤ 1000) :
    Calls Try.prog 102 #[.agg #[.int .i64 r, .int .i64 l]] w fun e w' => e = .returned (.int .i64 (lenOf r l)) ∧ Below w.heap.size w w' := by
  have hbk := Blk.new w 123 #[.int .i64 r, .int .i64 l]
  have d0 := hbk.cell 0
  have d1 := hbk.cell 1
  go_enter Try.func102, Try.ntmps102
  go_wp2_with (go_at_call 103; refine (length_any r l _ h1 h2 h3 h4).mono ?_; rintro e w1 ⟨rfl, hb1⟩)
  go_ret
  exact ⟨rfl, below_next (below_new _ _) (by simp) hb1⟩

end Go.Proofs.Ytnjmkdgglpcfpaa

namespace Go.Proofs.Ytnjmkdgglpcfpaa
open Go.RowKit

/-- the turns of the shortest turning of a sweep -/
def turnsOf (r l : Int) : List Int := if r + l = 0 then [] else if l = 0 then [r] else if r = 0 then [-(r + l)] else if l < r then [-l, r + l] else [r, -(r + l)]

theorem Ints.pair {w : World} {g t : Nat} {a b : Int} (h : Blk w g t #[.int .i64 a, .int .i64 b]) : Ints w w.heap.size (some ⟨g, 0, none⟩) [a, b] := fun k x hx => by
  refine ⟨_, rfl, h.lt, ?_⟩
  match k, hx with
  | 0, hx => cases hx; exact h.cell 0
  | 1, hx => cases hx; exact h.cell 1
theorem Ints.fst {w : World} {g t : Nat} {a b : Int} (h : Blk w g t #[.int .i64 a, .int .i64 b]) : Ints w w.heap.size (some ⟨g, 0, none⟩) [a] := fun k x hx => by
  refine ⟨_, rfl, h.lt, ?_⟩
  match k, hx with
  | 0, hx => cases hx; exact h.cell 0
theorem Ints.snd {w : World} {g t : Nat} {a b : Int} (h : Blk w g t #[.int .i64 a, .int .i64 b]) : Ints w w.heap.size (some ⟨g, 1, none⟩) [b] := fun k x hx => by
  refine ⟨_, rfl, h.lt, ?_⟩
  match k, hx with
  | 0, hx => cases hx; exact h.cell 1

set_option maxRecDepth 100000 in
set_option maxHeartbeats 1000000 in
theorem turns_any (r l : Int) (w : World) (h1 : 0 ≤ r) (h2 : r ≤ 1000) (h3 : 0 ≤ l) (h4 : l ≤ 1000) :
    Calls Try.prog 104 #[.agg #[.int .i64 r, .int .i64 l]] w (RetInts w (turnsOf r l)) := by
  have hbk := Blk.new w 123 #[.int .i64 r, .int .i64 l]
  have hb0 := below_new w (.cells #[.int .i64 r, .int .i64 l] 123)
  have d0 := hbk.cell 0
  have d1 := hbk.cell 1
  by_cases c1 : r + l = 0
  · have hT : turnsOf r l = [] := if_pos c1
    have hn : (r + l == 0) = true := by simpa using c1
    rw [hT]
    clear hT
    go_enter Try.func104, Try.ntmps104
    go_wp2_with fail
    go_ret
    exact ⟨none, 0, rfl, Nat.le_refl _, by simp [maxLen], Ints.nil, hb0.alloc (by simp) _⟩
  · have hn1 : (r + l == 0) = false := by simpa using c1
    by_cases c2 : l = 0
    · have hT : turnsOf r l = [r] := (if_neg c1).trans (if_pos c2)
      have hn2 : (l == 0) = true := by simpa using c2
      rw [hT]
      clear hT
      subst c2
      go_enter Try.func104, Try.ntmps104
      go_wp2_with fail
      go_ret
      exact ⟨_, _, rfl, by simp, by simp [maxLen], Ints.fst (Blk.newAt (by simp)), hb0.alloc (by simp) _⟩
    · have hn2 : (l == 0) = false := by simpa using c2
      by_cases c3 : r = 0
      · have hT : turnsOf r l = [-l] := (if_neg c1).trans ((if_neg c2).trans ((if_pos c3).trans (by rw [c3, Int.zero_add])))
        have hn3 : (r == 0) = true := by simpa using c3
        rw [hT]
        clear hT
        subst c3
        go_enter Try.func104, Try.ntmps104
        go_wp2_with fail
        go_ret
        exact ⟨_, _, rfl, by simp, by simp [maxLen], Ints.snd (Blk.newAt (by simp)), hb0.alloc (by simp) _⟩
      · have hn3 : (r == 0) = false := by simpa using c3
        by_cases c4 : l < r
        · have hT : turnsOf r l = [-l, r + l] := (if_neg c1).trans ((if_neg c2).trans ((if_neg c3).trans (if_pos c4)))
          have hn4 : decide (l < r) = true := decide_eq_true c4
          rw [hT]
          clear hT
          go_enter Try.func104, Try.ntmps104
          go_wp2_with fail
          go_ret
          exact ⟨_, _, rfl, by simp, by simp [maxLen], Ints.pair (Blk.newAt (by simp)), (hb0.alloc (by simp) _).alloc (by simp; omega) _⟩
        · have hT : turnsOf r l = [r, -(r + l)] := (if_neg c1).trans ((if_neg c2).trans ((if_neg c3).trans (if_neg c4)))
          have hn4 : decide (l < r) = false := decide_eq_false c4
          rw [hT]
          clear hT
          go_enter Try.func104, Try.ntmps104
          go_wp2_with fail
          go_ret
          exact ⟨_, _, rfl, by simp, by simp [maxLen], Ints.pair (Blk.newAt (by simp)), hb0.alloc (by simp) _⟩

end Go.Proofs.Ytnjmkdgglpcfpaa

