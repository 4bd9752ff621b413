import Derived.Test.YtnjmkdgglpcfpaaA15
import Derived.Shelf.Small.Wraps
import Derived.Shelf.Slices.In.SortNone
namespace Go.Proofs.Ytnjmkdgglpcfpaa
open Go.RowKit

set_option maxRecDepth 100000 in
set_option maxHeartbeats 400000 in
theorem has_any (l : List Int) (A : Option Addr) (cap : Nat) (x : Int) (w : World) (hll : l.length ≤ 1000000) (hr : Ints w w.heap.size A l) :
    Calls Try.prog 72 #[.slice A l.length cap, .int .i64 x] w fun e w' => e = .returned (.bool (decide (x ∈ l))) ∧ w = w' := by
  go_enter Try.func72, Try.ntmps72
  go_wp2_with fail
  go_loopw [5] (fun i wr => ∃ k : Nat, k ≤ l.length ∧ i = .int .i64 k ∧ Hid (x ∉ l.take k) ∧ w = wr)
    (fun i _ => l.length - (intOf i).toNat)
  case atStart => exact ⟨0, Nat.zero_le _, rfl, (by simp [Hid]), rfl⟩
  case round =>
    obtain ⟨k, hk, rfl, hall, rfl⟩ := hrel
    by_cases hlt : k < l.length
    · obtain ⟨ad, rfl, hB, hc⟩ := hr.get hlt
      by_cases hx : l[k] = x
      · have hd : Hid (decide (x ∈ l) = true) := decide_eq_true (by rw [← hx]; exact List.getElem_mem hlt)
        have hq : (l[k] == x) = true := by simpa using hx
        clear hall hx
        go_wp2_with fail
        go_ret
        exact ⟨by rw [hd.out]; rfl, rfl⟩
      · have hn : Hid (x ∉ l.take (k + 1)) := by
          unfold Hid
          rw [List.take_succ_eq_append_getElem hlt]
          intro h
          rcases List.mem_append.1 h with h | h
          · exact hall.out h
          · exact hx (List.mem_singleton.1 h).symm
        have hq : (l[k] == x) = false := by simpa using hx
        clear hall hx
        go_wp2_with fail
        go_roundw
        case rel => exact ⟨k + 1, by omega, by go_num, hn, trivial⟩
        case measure => simp [intOf]; try omega
    · have hd : Hid (decide (x ∈ l) = false) := decide_eq_false (by have := hall.out; rwa [List.take_of_length_le (by omega)] at this)
      clear hall
      go_wp2_with fail
      go_ret
      exact ⟨by rw [hd.out]; rfl, rfl⟩

/-- what is open -/
def openL (C : Int) (cl : List Int) : List Int := colsTo (fun i => !isIn cl i) C.toNat

set_option maxRecDepth 100000 in
set_option maxHeartbeats 400000 in
theorem open_any (C R B F : Int) (A0 : Option Addr) (cap : Nat) (cl : List Int) (w : World) (h1 : 1 ≤ C) (h2 : C ≤ 120) (hcl : cl.length ≤ 1000000) (hr : Ints w w.heap.size A0 cl) :
    Calls Try.prog 96 #[.agg #[.int .i64 C, .int .i64 R, .int .i64 B, .int .i64 F, .slice A0 cl.length cap]] w (RetInts w (openL C cl)) := by
  obtain ⟨n, rfl⟩ := Int.eq_ofNat_of_zero_le (show 0 ≤ C by omega)
  have hr1 := hr.behind (below_new w (.cells #[.int .i64 n, .int .i64 R, .int .i64 B, .int .i64 F, .slice A0 cl.length cap] 24))
  unfold openL
  rw [Int.toNat_natCast]
  generalize hp : (fun i : Nat => !isIn cl i) = p
  have HP := Lib.hid hp
  clear hp
  go_enter Try.func96, Try.ntmps96
  go_wp2_with fail
  go_loopw [3, 4, 5] (fun v i _ wr => ∃ k : Nat, ∃ A c', k ≤ n ∧ i = .int .i64 k ∧ v = .slice A (colsTo p k).length c' ∧ Below w.heap.size w wr ∧ Blk wr w.heap.size 24 #[.int .i64 n, .int .i64 R, .int .i64 B, .int .i64 F, .slice A0 cl.length cap] ∧ wr.ownsRow (w.heap.size + 1) 3 1 (.slice A (colsTo p k).length c') (colsTo p k).length ((colsTo p k).map (Value.int .i64)))
    (fun _ i _ _ => n - (intOf i).toNat)
  case atStart => exact ⟨0, none, 0, by omega, rfl, rfl, below_new _ _, Blk.new _ _ _, World.ownsRow_nil _ _ _ _⟩
  case round =>
    obtain ⟨k, A, c', hk, rfl, rfl, hb, hb0, hown⟩ := hrel
    have hrr := hr.behind hb
    have hlt0 := hb0.lt
    by_cases hlt : k < n
    · have hln := colsTo_len p k
      obtain ⟨d0, d1, d2, d3, d4⟩ := hb0.five
      by_cases hs : (k : Int) ∈ cl
      · have hpk : p k = false := by rw [← HP.out]; simp [isIn, hs]
        have HD : Hid (decide ((k : Int) ∈ cl) = true) := decide_eq_true hs
        have HY := Lib.hid (colsTo_no hpk)
        clear hpk hs
        go_wp2_with (go_at_call 72; refine (has_any cl A0 cap k _ hcl hrr).mono ?_; rw [HD.out]; rintro e w1 ⟨rfl, rfl⟩)
        go_roundw
        case rel => exact ⟨k + 1, A, c', by omega, by go_num, by rw [HY.out], hb, hb0, by rw [HY.out]; exact hown⟩
        case measure => simp [intOf]; try omega
      · have hpk : p k = true := by rw [← HP.out]; simp [isIn, hs]
        have HD : Hid (decide ((k : Int) ∈ cl) = false) := decide_eq_false hs
        have HY := Lib.hid (colsTo_yes hpk)
        clear hpk hs
        go_wp2_with (first
          | (go_at_call 72; refine (has_any cl A0 cap k _ hcl hrr).mono ?_; rw [HD.out]; rintro e w1 ⟨rfl, rfl⟩)
          | (at_builtin; refine app1 (by rfl) _ _ (by rfl) (w.heap.size + 1) (colsTo p k) k _ (by rfl) hown (by rfl) (by omega) (by omega) ?_; intro A' c'' w2 hown1 hb3))
        go_roundw
        case rel => exact ⟨k + 1, A', c'', by omega, by go_num, by rw [HY.out]; simp, hb.trans (hb3.mono (by omega)), hb0.below hb3 (by omega), by rw [HY.out]; exact hown1⟩
        case measure => simp [intOf]; try omega
    · obtain rfl : k = n := by omega
      obtain ⟨d0, d1, d2, d3, d4⟩ := hb0.five
      go_wp2_with fail
      go_ret
      exact RetInts.of_own hown hb

set_option maxRecDepth 100000 in
set_option maxHeartbeats 400000 in
theorem abs_any (x : Int) (w : World) (h1 : -100000 ≤ x) (h2 : x ≤ 100000) :
    Calls Try.prog 106 #[.int .i64 x] w fun e w' => e = .returned (.int .i64 (max x (-x))) ∧ w = w' := by
  go_enter Try.func106, Try.ntmps106
  go_wp2_with fail
  go_ret
  exact ⟨by simp, rfl⟩

/-- what a stand reaches, in the reference's order: column j from the left -/
def rchL (C B s : Int) (k : Nat) : List Int := (List.range k).map fun i : Nat => (s + ((i : Int) - B)) % C
theorem rchL_len (C B s : Int) (k : Nat) : (rchL C B s k).length = k := by simp [rchL]
theorem rchL_succ (C B s : Int) (k : Nat) : rchL C B s (k + 1) = rchL C B s k ++ [(s + ((k : Int) - B)) % C] := by simp [rchL, List.range_succ]

set_option maxRecDepth 100000 in
set_option maxHeartbeats 400000 in
theorem refReaches_own (C R B F : Int) (sl : Value) (s : Int) (w : World) (h1 : 1 ≤ C) (h2 : C ≤ 120) (h3 : 0 ≤ s) (h4 : s < C) (h7 : 0 ≤ B) (h8 : 0 ≤ F) (h9 : F < C - B) :
    Calls Try.prog 66 #[.agg #[.int .i64 C, .int .i64 R, .int .i64 B, .int .i64 F, sl], .int .i64 s] w (RetOwn w (rchL C B s (B + F + 1).toNat)) := by
  obtain ⟨n, hn⟩ := Int.eq_ofNat_of_zero_le (show 0 ≤ B + F + 1 by omega)
  rw [hn, Int.toNat_natCast]
  have hbk := Blk.new w 24 #[.int .i64 C, .int .i64 R, .int .i64 B, .int .i64 F, sl]
  obtain ⟨d0, d1, d2, d3, d4⟩ := hbk.five
  go_enter Try.func66, Try.ntmps66
  go_wp2_with fail
  clear d0 d1 d2 d3 d4
  go_loopw [5, 6] (fun v i wr => ∃ k : Nat, ∃ A c', k ≤ n ∧ i = .int .i64 ((k : Int) - B) ∧ v = .slice A (rchL C B s k).length c' ∧ Below w.heap.size w wr ∧ Blk wr w.heap.size 24 #[.int .i64 C, .int .i64 R, .int .i64 B, .int .i64 F, sl] ∧ wr.ownsRow (w.heap.size + 1) 3 1 (.slice A (rchL C B s k).length c') (rchL C B s k).length ((rchL C B s k).map (Value.int .i64)))
    (fun _ i _ => n - (intOf i + B).toNat)
  case atStart => exact ⟨0, none, 0, by omega, by simp, rfl, below_new _ _, hbk, World.ownsRow_nil _ _ _ _⟩
  case round =>
    obtain ⟨k, A, c', hk, rfl, rfl, hb, hb0, hown⟩ := hrel
    have hlt0 := hb0.lt
    obtain ⟨d0, d1, d2, d3, d4⟩ := hb0.five
    have hln : (rchL C B s k).length ≤ n := by rw [rchL_len]; omega
    have hls := Lib.hid (rchL_succ C B s k)
    by_cases hlt : k < n
    · have hc : (k : Int) - B ≤ F := by omega
      have hm0 := Int.emod_nonneg (s + ((k : Int) - B)) (b := C) (by omega)
      have hm1 := Int.emod_lt_of_pos (s + ((k : Int) - B)) (b := C) (by omega)
      go_wp2_with (first
        | (go_at_call 73; refine (refFurther_any C R B F sl s ((k : Int) - B) _ h1 h2 h3 h4 (by omega) (by omega)).mono ?_; rintro e w1 ⟨rfl, hb2⟩; obtain ⟨q1, q2⟩ := bcell hb2)
        | (at_builtin; refine app1 (by rfl) _ _ (by rfl) (w.heap.size + 1) (rchL C B s k) _ _ (by rfl) (own_below hown hb2) (by rfl) (by omega) (by have := hb2.size; omega) ?_; intro A' c'' w2 hown1 hb3))
      go_roundw
      case rel =>
        have hz := hb2.size
        exact ⟨k + 1, A', c'', by omega, by congr 1; omega, by rw [hls.out]; simp, (below_next hb (by omega) hb2).trans (hb3.mono (by omega)), (hb0.below hb2 (by omega)).below hb3 (by omega), by rw [hls.out]; exact hown1⟩
      case measure => simp [intOf]; try omega
    · obtain rfl : k = n := by omega
      have hc : ¬ ((k : Int) - B ≤ F) := by omega
      go_wp2_with fail
      go_ret
      exact ⟨_, _, rfl, own_less hown (by omega), hb⟩

theorem refReaches_any (C R B F : Int) (sl : Value) (s : Int) (w : World) (h1 : 1 ≤ C) (h2 : C ≤ 120) (h3 : 0 ≤ s) (h4 : s < C) (h7 : 0 ≤ B) (h8 : 0 ≤ F) (h9 : F < C - B) :
    Calls Try.prog 66 #[.agg #[.int .i64 C, .int .i64 R, .int .i64 B, .int .i64 F, sl], .int .i64 s] w (RetInts w (rchL C B s (B + F + 1).toNat)) :=
  (refReaches_own C R B F sl s w h1 h2 h3 h4 h7 h8 h9).mono fun _ _ h => h.ints

end Go.Proofs.Ytnjmkdgglpcfpaa

namespace Go.Proofs.Ytnjmkdgglpcfpaa
open Go.RowKit

set_option maxRecDepth 100000 in
set_option maxHeartbeats 400000 in
theorem reached_any (C R B F : Int) (sl : Value) (s c : Int) (w : World) (h1 : 1 ≤ C) (h2 : C ≤ 120) (h3 : 0 ≤ s) (h4 : s < C) (h7 : 0 ≤ B) (h8 : 0 ≤ F) (h9 : F < C - B) :
    Calls Try.prog 110 #[.agg #[.int .i64 C, .int .i64 R, .int .i64 B, .int .i64 F, sl], .int .i64 s, .int .i64 c] w fun e w' => e = .returned (.bool (decide (c ∈ rchL C B s (B + F + 1).toNat))) ∧ Below w.heap.size w w' := by
  have hln := rchL_len C B s (B + F + 1).toNat
  have hl : (rchL C B s (B + F + 1).toNat).length ≤ 1000000 := by rw [hln]; omega
  clear hln
  generalize hL : rchL C B s (B + F + 1).toNat = L at hl
  have HL := Lib.hid hL
  clear hL
  have hr : Hid (∀ w, Calls Try.prog 66 #[.agg #[.int .i64 C, .int .i64 R, .int .i64 B, .int .i64 F, sl], .int .i64 s] w (RetInts w L)) := fun w => by rw [← HL.out]; exact refReaches_any C R B F sl s w h1 h2 h3 h4 h7 h8 h9
  go_enter Try.func110, Try.ntmps110
  go_wp2_with (first
    | (go_at_call 66; refine (hr.out _).mono ?_; rintro e w1 ⟨A, c', rfl, e1, e2, e3, hb1⟩)
    | (go_at_call 72; refine (has_any L A c' c _ hl e3).mono ?_; rintro e w2 ⟨rfl, rfl⟩))
  go_ret
  exact ⟨rfl, below_next (below_new _ _) (by simp) hb1⟩

/-- are two lists the same -/
theorem same_next {l m : List Int} {k : Nat} (h1 : k < l.length) (h2 : k < m.length) (h : l.take k = m.take k) (he : l[k] = m[k]) : l.take (k + 1) = m.take (k + 1) := by
  rw [List.take_succ_eq_append_getElem h1, List.take_succ_eq_append_getElem h2, h, he]

set_option maxRecDepth 100000 in
set_option maxHeartbeats 1000000 in
theorem same_any (l m : List Int) (A D : Option Addr) (cap dap : Nat) (w : World) (hll : l.length ≤ 1000000) (hlm : m.length ≤ 1000000) (hr : Ints w w.heap.size A l) (hs : Ints w w.heap.size D m) :
    Calls Try.prog 28 #[.slice A l.length cap, .slice D m.length dap] w fun e w' => e = .returned (.bool (decide (l = m))) ∧ Below w.heap.size w w' := by
  by_cases hlen : l.length = m.length
  · have hq1 : ((((l.length : Nat) : Int)) != ((m.length : Nat) : Int)) = false := by simp [hlen]
    have hq2 : (((l.length : Nat) : Int)) = ((m.length : Nat) : Int) := by omega
    go_enter Try.func28, Try.ntmps28
    go_wp2_with fail
    go_loopw [5] (fun i wr => ∃ k : Nat, k ≤ l.length ∧ i = .int .i64 k ∧ Hid (l.take k = m.take k) ∧ Below w.heap.size w wr)
      (fun i _ => l.length - (intOf i).toNat)
    case atStart => exact ⟨0, Nat.zero_le _, rfl, rfl, Below.refl _ _⟩
    case round =>
      obtain ⟨k, hk, rfl, hall, hb⟩ := hrel
      by_cases hlt : k < l.length
      · obtain ⟨ad, rfl, hB, hc⟩ := (hr.below hb).get hlt
        obtain ⟨ad2, rfl, hB2, hc2⟩ := (hs.below hb).get (k := k) (by omega)
        have hlm2 : (k : Int) < (m.length : Int) := by omega
        have hll2 : (k : Int) < (l.length : Int) := by omega
        by_cases hx : l[k] = m[k]
        · have hn : Hid (l.take (k + 1) = m.take (k + 1)) := same_next hlt (by omega) hall.out hx
          have hq : (l[k] != m[k]) = false := by simp [hx]
          clear hall hx
          go_wp2_with fail
          go_quiet (fail)
          go_wp2_with fail
          go_roundw
          case rel => exact ⟨k + 1, by omega, by go_num, hn, below_drewN hb _⟩
          case measure => simp [intOf]; try omega
        · have hd : Hid (decide (l = m) = false) := decide_eq_false fun e => hx (by subst e; rfl)
          have hq : (l[k] != m[k]) = true := by simp [hx]
          clear hall hx
          go_wp2_with fail
          go_quiet (fail)
          go_wp2_with fail
          go_ret
          exact ⟨by rw [hd.out]; rfl, below_drewN hb _⟩
      · have hd : Hid (decide (l = m) = true) := decide_eq_true (by have := hall.out; rwa [List.take_of_length_le (by omega), List.take_of_length_le (by omega)] at this)
        clear hall
        go_wp2_with fail
        go_ret
        exact ⟨by rw [hd.out]; rfl, hb⟩
  · have hq1 : ((((l.length : Nat) : Int)) != ((m.length : Nat) : Int)) = true := by simp; omega
    have hq2 : ¬ (((l.length : Nat) : Int)) = ((m.length : Nat) : Int) := by omega
    have hd : Hid (decide (l = m) = false) := decide_eq_false fun e => hlen (by rw [e])
    go_enter Try.func28, Try.ntmps28
    go_wp2_with fail
    go_ret
    exact ⟨by rw [hd.out]; rfl, Below.refl _ _⟩

end Go.Proofs.Ytnjmkdgglpcfpaa

namespace Go.Proofs.Ytnjmkdgglpcfpaa
open Go.RowKit

set_option maxRecDepth 100000 in
set_option maxHeartbeats 1000000 in
theorem rising_any (l : List Int) (A : Option Addr) (cap : Nat) (hi : Int) (w : World) (hll : l.length ≤ 1000000) (hr : Ints w w.heap.size A l) :
    Calls Try.prog 75 #[.slice A l.length cap, .int .i64 hi] w fun e w' => e = .returned (.bool (decide (Rise (hi + 1) l))) ∧ Below w.heap.size w w' := by
  go_enter Try.func75, Try.ntmps75
  go_wp2_with fail
  go_loopw [5] (fun i wr => ∃ k : Nat, k ≤ l.length ∧ i = .int .i64 k ∧ Hid (Rise (hi + 1) (l.take k)) ∧ Below w.heap.size w wr)
    (fun i _ => l.length - (intOf i).toNat)
  case atStart => exact ⟨0, Nat.zero_le _, rfl, by simpa [Hid] using Rise.nil, Below.refl _ _⟩
  case round =>
    obtain ⟨k, hk, rfl, hall, hb⟩ := hrel
    by_cases hlt : k < l.length
    · obtain ⟨ad, hA, hB, hc⟩ := (hr.below hb).get hlt
      by_cases hin : 0 ≤ l[k] ∧ l[k] ≤ hi
      · have hI : Hid (decide (0 ≤ l[k] ∧ l[k] ≤ hi) = true) := decide_eq_true hin
        by_cases hk0 : k = 0
        · have hn : Hid (Rise (hi + 1) (l.take (k + 1))) := by subst hk0; exact rise_first hlt hin.1 (by omega)
          have hll2 : (k : Int) < (l.length : Int) := by omega
          have hk1 : decide ((0 : Int) < (k : Int)) = false := decide_eq_false (by omega)
          have hk2 : decide (0 < k) = false := decide_eq_false (by omega)
          subst hA
          clear hall hin hk0
          go_wp2_with fail
          go_quiet ((go_at_call 61; exact Calls.quiet_of_same ((in_any _ _ _ _).mono fun e w' h => ⟨by rw [h.1, hI.out], h.2.symm⟩)))
          go_wp2_with fail
          go_roundw
          case rel => exact ⟨k + 1, by omega, by go_num, hn, below_drewN hb _⟩
          case measure => simp [intOf]; try omega
        · have hk2 : ((k : Int) - 1).toNat = k - 1 := by omega
          obtain ⟨ad', hA', hB', hcp⟩ := (hr.below hb).get (k := k - 1) (by omega)
          obtain rfl : ad' = ad := by rw [hA] at hA'; cases hA'; rfl
          subst hA
          have hll2 : (k : Int) < (l.length : Int) := by omega
          have hll3 : (k : Int) - 1 < (l.length : Int) := by omega
          by_cases hx : l[k - 1] < l[k]
          · have hn : Hid (Rise (hi + 1) (l.take (k + 1))) := rise_next hlt (by omega) hall.out hin.1 (by omega) hx
            have hq : decide (l[k] ≤ l[k - 1]) = false := decide_eq_false (by omega)
            have hw : IntKind.i64.wrap ((k : Int) - 1) = (k : Int) - 1 := IntWalk.i64_in _ (by omega)
            have hm : max (0 : Int) ((k : Int) - 1) = (k : Int) - 1 := by omega
            have hpos : (0 : Int) < (k : Int) := by omega
            have hkk : 0 < k := by omega
            have hkd : decide (0 < k) = true := decide_eq_true hkk
            have hp1 : (0 : Int) ≤ (k : Int) - 1 := by omega
            clear hall hin hx hk0
            go_wp2_with fail
            go_quiet ((go_at_call 61; exact Calls.quiet_of_same ((in_any _ _ _ _).mono fun e w' h => ⟨by rw [h.1, hI.out], h.2.symm⟩)))
            clear hw
            go_wp2_with fail
            go_roundw
            case rel => exact ⟨k + 1, by omega, by go_num, hn, below_drewN hb _⟩
            case measure => simp [intOf]; try omega
          · have hd : Hid (decide (Rise (hi + 1) l) = false) := decide_eq_false fun h => hx (h.step hlt (by omega))
            have hq : decide (l[k] ≤ l[k - 1]) = true := decide_eq_true (by omega)
            have hw : IntKind.i64.wrap ((k : Int) - 1) = (k : Int) - 1 := IntWalk.i64_in _ (by omega)
            have hm : max (0 : Int) ((k : Int) - 1) = (k : Int) - 1 := by omega
            have hpos : (0 : Int) < (k : Int) := by omega
            have hkk : 0 < k := by omega
            have hkd : decide (0 < k) = true := decide_eq_true hkk
            have hp1 : (0 : Int) ≤ (k : Int) - 1 := by omega
            clear hall hin hx hk0
            go_wp2_with fail
            go_quiet ((go_at_call 61; exact Calls.quiet_of_same ((in_any _ _ _ _).mono fun e w' h => ⟨by rw [h.1, hI.out], h.2.symm⟩)))
            clear hw
            go_wp2_with fail
            go_ret
            exact ⟨by rw [hd.out]; rfl, below_drewN hb _⟩
      · have hI : Hid (decide (0 ≤ l[k] ∧ l[k] ≤ hi) = false) := decide_eq_false hin
        have hd : Hid (decide (Rise (hi + 1) l) = false) := decide_eq_false fun h => hin (by have := h.at hlt; omega)
        have hll2 : (k : Int) < (l.length : Int) := by omega
        subst hA
        clear hall hin
        go_wp2_with fail
        go_quiet ((go_at_call 61; exact Calls.quiet_of_same ((in_any _ _ _ _).mono fun e w' h => ⟨by rw [h.1, hI.out], h.2.symm⟩)))
        go_wp2_with fail
        go_ret
        exact ⟨by rw [hd.out]; rfl, below_drewN hb _⟩
    · have hd : Hid (decide (Rise (hi + 1) l) = true) := decide_eq_true (by have := hall.out; rwa [List.take_of_length_le (by omega)] at this)
      clear hall
      go_wp2_with fail
      go_ret
      exact ⟨by rw [hd.out]; rfl, hb⟩

end Go.Proofs.Ytnjmkdgglpcfpaa

