import Derived.Test.YtnjmkdgglpcfpaaA26
namespace Go.Proofs.Ytnjmkdgglpcfpaa
open Go.RowKit

theorem Blk.drew' {w : World} {g : Nat} {t : TypeId} {cs : Array Value} (h : Blk w g t cs) (n : Nat) : Blk (w.drewN n) g t cs := h

set_option maxRecDepth 100000 in
set_option maxHeartbeats 2000000 in
theorem standing_any (C R B F : Int) (A : Option Addr) (cap : Nat) (cl : List Int) (D : Option Addr) (dap : Nat) (l : List Int) (w : World) (h1 : 1 ≤ C) (h2 : C ≤ 120) (hcl : cl.length ≤ 1000000) (hll : l.length ≤ 1000000) (hr : Ints w w.heap.size A cl) (hl : Ints w w.heap.size D l) :
    Calls Try.prog 90 #[.agg #[.int .i64 C, .int .i64 R, .int .i64 B, .int .i64 F, .slice A cl.length cap], .slice D l.length dap] w fun e w' => e = .returned (.bool (decide (Rise C l ∧ ∀ x ∈ l, x ∉ cl))) ∧ Below w.heap.size w w' := by
  have hbk := Blk.new w 24 #[.int .i64 C, .int .i64 R, .int .i64 B, .int .i64 F, .slice A cl.length cap]
  obtain ⟨d0, d1, d2, d3, d4⟩ := hbk.five
  have hb0 := below_new w (.cells #[.int .i64 C, .int .i64 R, .int .i64 B, .int .i64 F, .slice A cl.length cap] 24)
  have hl1 := hl.behind hb0
  have hri := fun w' (hw : Ints w' w'.heap.size D l) => rising_any l D dap (C - 1) w' hll hw
  rw [show C - 1 + 1 = C by omega] at hri
  have HRI := Lib.hid hri
  clear hri
  by_cases c0 : Rise C l
  case neg =>
    have hd : Hid (decide (Rise C l ∧ ∀ x ∈ l, x ∉ cl) = false) := decide_eq_false fun h => c0 h.1
    have D0 : Hid (decide (Rise C l) = false) := decide_eq_false c0
    clear c0
    go_enter Try.func90, Try.ntmps90
    go_wp2_with (go_at_call 75; refine (HRI.out _ hl1).mono ?_; rw [D0.out]; rintro e w1 ⟨rfl, hb1⟩)
    go_ret
    exact ⟨by rw [hd.out]; rfl, below_next hb0 (by simp) hb1⟩
  have D0 : Hid (decide (Rise C l) = true) := decide_eq_true c0
  have R0 := Lib.hid c0
  clear c0
  go_enter Try.func90, Try.ntmps90
  go_wp2_with (go_at_call 75; refine (HRI.out _ hl1).mono ?_; rw [D0.out]; rintro e w1 ⟨rfl, hb1⟩)
  have hba : Below w.heap.size w w1 := below_next hb0 (by simp) hb1
  have hbk1 : Blk w1 w.heap.size 24 #[.int .i64 C, .int .i64 R, .int .i64 B, .int .i64 F, .slice A cl.length cap] := hbk.below hb1 (by simp)
  clear d0 d1 d2 d3 d4 hbk hl1
  go_loopw [6, 7] (fun i _ wr => ∃ k : Nat, k ≤ l.length ∧ i = .int .i64 k ∧ Hid (∀ x ∈ l.take k, x ∉ cl) ∧ Below w.heap.size w wr ∧ Blk wr w.heap.size 24 #[.int .i64 C, .int .i64 R, .int .i64 B, .int .i64 F, .slice A cl.length cap])
    (fun i _ _ => l.length - (intOf i).toNat)
  case atStart => exact ⟨0, Nat.zero_le _, rfl, by simp [Hid], hba, hbk1⟩
  case round =>
    obtain ⟨k, hk, rfl, hall, hb, hbk2⟩ := hrel
    obtain ⟨d0, d1, d2, d3, d4⟩ := hbk2.five
    have hrr := hr.behind hb
    by_cases hlt : k < l.length
    · obtain ⟨ad, hA, hB, hc⟩ := (hl.below hb).get hlt
      subst hA
      have hll2 : (k : Int) < (l.length : Int) := by omega
      by_cases hx : l[k] ∈ cl
      · have hd : Hid (decide (Rise C l ∧ ∀ x ∈ l, x ∉ cl) = false) := decide_eq_false fun h => h.2 _ (List.getElem_mem hlt) hx
        have hI : Hid (decide (l[k] ∈ cl) = true) := decide_eq_true hx
        clear hall hx
        go_wp2_with fail
        go_quiet ((go_at_call 72; exact Calls.quiet_of_same ((has_any cl A cap l[k] _ hcl (hrr.drewN _)).mono fun e w' h => ⟨by rw [h.1, hI.out], h.2.symm⟩)))
        go_wp2_with fail
        go_ret
        exact ⟨by rw [hd.out]; rfl, below_drewN hb _⟩
      · have hn : Hid (∀ x ∈ l.take (k + 1), x ∉ cl) := by
          intro x hxx
          rw [List.take_succ_eq_append_getElem hlt] at hxx
          rcases List.mem_append.1 hxx with h | h
          · exact hall.out x h
          · rw [List.mem_singleton.1 h]; exact hx
        have hI : Hid (decide (l[k] ∈ cl) = false) := decide_eq_false hx
        clear hall hx
        go_wp2_with fail
        go_quiet ((go_at_call 72; exact Calls.quiet_of_same ((has_any cl A cap l[k] _ hcl (hrr.drewN _)).mono fun e w' h => ⟨by rw [h.1, hI.out], h.2.symm⟩)))
        go_wp2_with fail
        go_roundw
        case rel => exact ⟨k + 1, by omega, by go_num, hn, below_drewN hb _, hbk2⟩
        case measure => simp [intOf]; try omega
    · have hd : Hid (decide (Rise C l ∧ ∀ x ∈ l, x ∉ cl) = true) := decide_eq_true ⟨R0.out, by have := hall.out; rwa [List.take_of_length_le (by omega)] at this⟩
      clear hall
      go_wp2_with fail
      go_ret
      exact ⟨by rw [hd.out]; rfl, hb⟩

set_option maxRecDepth 100000 in
set_option maxHeartbeats 2000000 in
theorem stood_any (C R B F : Int) (A : Option Addr) (cap : Nat) (cl : List Int) (D : Option Addr) (dap : Nat) (l : List Int) (w : World) (h1 : 1 ≤ C) (h2 : C ≤ 120) (hcl : cl.length ≤ 1000000) (hll : l.length ≤ 1000000) (hr : Ints w w.heap.size A cl) (hl : Ints w w.heap.size D l) :
    Calls Try.prog 82 #[.agg #[.int .i64 C, .int .i64 R, .int .i64 B, .int .i64 F, .slice A cl.length cap], .slice D l.length dap] w fun e w' => e = .returned (.int .i64 (standsErr C cl l)) ∧ Below w.heap.size w w' := by
  have hb0 := below_new w (.cells #[.int .i64 C, .int .i64 R, .int .i64 B, .int .i64 F, .slice A cl.length cap] 24)
  have hr1 := hr.behind hb0
  have hl1 := hl.behind hb0
  by_cases c0 : 200 < l.length
  · have hs : standsErr C cl l = 2 := if_pos c0
    have e2 : (200 : Int) < ((l.length : Nat) : Int) := by omega
    have e3 : decide ((200 : Int) < ((l.length : Nat) : Int)) = true := decide_eq_true e2
    rw [hs]
    clear hs
    go_enter Try.func82, Try.ntmps82
    go_wp2_with fail
    go_ret
    exact ⟨rfl, hb0⟩
  have e2 : ¬ (200 : Int) < ((l.length : Nat) : Int) := by omega
  have e3 : decide ((200 : Int) < ((l.length : Nat) : Int)) = false := decide_eq_false e2
  by_cases c1 : Rise C l ∧ ∀ x ∈ l, x ∉ cl
  · have hs : standsErr C cl l = 0 := (if_neg c0).trans (if_pos c1)
    have D1 : Hid (decide (Rise C l ∧ ∀ x ∈ l, x ∉ cl) = true) := decide_eq_true c1
    rw [hs]
    clear hs c1
    go_enter Try.func82, Try.ntmps82
    go_wp2_with (go_at_call 90; refine (standing_any C R B F A cap cl D dap l _ h1 h2 hcl hll hr1 hl1).mono ?_; rw [D1.out]; rintro e w1 ⟨rfl, hb1⟩)
    go_ret
    exact ⟨rfl, below_next hb0 (by simp) hb1⟩
  · have hs : standsErr C cl l = 1 := (if_neg c0).trans (if_neg c1)
    have D1 : Hid (decide (Rise C l ∧ ∀ x ∈ l, x ∉ cl) = false) := decide_eq_false c1
    rw [hs]
    clear hs c1
    go_enter Try.func82, Try.ntmps82
    go_wp2_with (go_at_call 90; refine (standing_any C R B F A cap cl D dap l _ h1 h2 hcl hll hr1 hl1).mono ?_; rw [D1.out]; rintro e w1 ⟨rfl, hb1⟩)
    go_ret
    exact ⟨rfl, below_next hb0 (by simp) hb1⟩

end Go.Proofs.Ytnjmkdgglpcfpaa

namespace Go.Proofs.Ytnjmkdgglpcfpaa
open Go.RowKit

theorem isIn_snoc {C : Int} {l : List Int} {j c : Nat} (hj : j < l.length) : isIn (colm C (l.take (j + 1))) c = (isIn (colm C (l.take j)) c || decide ((c : Int) = l[j] % C)) := by
  rw [List.take_succ_eq_append_getElem hj, colm_snoc]
  simp [isIn]

set_option maxRecDepth 100000 in
set_option maxHeartbeats 4000000 in
theorem refColumns_any (C R B F : Int) (sl : Value) (D : Option Addr) (dap : Nat) (l : List Int) (w : World) (h1 : 1 ≤ C) (h2 : C ≤ 120) (hll : l.length ≤ 1000000) (hpos : ∀ x ∈ l, 0 ≤ x) (hl : Ints w w.heap.size D l) :
    Calls Try.prog 80 #[.agg #[.int .i64 C, .int .i64 R, .int .i64 B, .int .i64 F, sl], .slice D l.length dap] w (RetInts w (colsTo (isIn (colm C l)) C.toNat)) := by
  have hC : (C == 0) = false := by simp; omega
  obtain ⟨n, rfl⟩ := Int.eq_ofNat_of_zero_le (show 0 ≤ C by omega)
  rw [Int.toNat_natCast]
  have hfin : Hid (isIn (colm n l) = isIn (colm n (l.take l.length))) := by unfold Hid; rw [List.take_length]
  generalize hp : isIn (colm n l) = p at hfin
  clear hp
  go_enter Try.func80, Try.ntmps80
  go_wp2_with fail
  go_loopw [5, 6, 7, 8] (fun v i _ _ wr => ∃ k : Nat, ∃ A c', k ≤ n ∧ i = .int .i64 k ∧ v = .slice A (colsTo p k).length c' ∧ Below w.heap.size w wr ∧ Blk wr w.heap.size 24 #[.int .i64 n, .int .i64 R, .int .i64 B, .int .i64 F, sl] ∧ wr.ownsRow (w.heap.size + 1) 3 1 (.slice A (colsTo p k).length c') (colsTo p k).length ((colsTo p k).map (Value.int .i64)))
    (fun _ i _ _ _ => n - (intOf i).toNat)
  case atStart => exact ⟨0, none, 0, by omega, rfl, rfl, below_new _ _, Blk.new _ _ _, World.ownsRow_nil _ _ _ _⟩
  case round =>
    obtain ⟨k, A, c', hk, rfl, rfl, hb, hb0, hown⟩ := hrel
    have hlt0 := hb0.lt
    have hln := colsTo_len p k
    obtain ⟨d0, d1, d2, d3, d4⟩ := hb0.five
    by_cases hlt : k < n
    · go_wp2_with fail
      clear d0 d1 d2 d3 d4
      go_loopw [7, 8] (fun b i w2 => ∃ j : Nat, j ≤ l.length ∧ i = .int .i64 j ∧ b = .bool (isIn (colm n (l.take j)) k) ∧ (∃ nq, w2 = wr.drewN nq))
        (fun _ i _ => l.length - (intOf i).toNat)
      case atStart => exact ⟨0, Nat.zero_le _, rfl, by simp [isIn, colm], 0, rfl⟩
      case round =>
        obtain ⟨j, hj, rfl, rfl, nq, rfl⟩ := hrel
        have hbj := hb0.drew' nq
        obtain ⟨d0, d1, d2, d3, d4⟩ := hb0.five
        by_cases hjl : j < l.length
        · obtain ⟨ad, hA, hB, hc⟩ := (hl.below hb).get hjl
          subst hA
          have hll2 : (j : Int) < (l.length : Int) := by omega
          have hx := hpos _ (List.getElem_mem hjl)
          have hn := isIn_snoc (C := n) (c := k) hjl
          have hmt : l[j].tmod (n : Int) = l[j] % (n : Int) := Int.tmod_eq_emod_of_nonneg hx
          cases hf : isIn (colm n (l.take j)) k with
          | true =>
            rw [hf, Bool.true_or] at hn
            have HN := Lib.hid hn
            clear hn hf hmt
            go_wp2_with fail
            go_quiet (fail)
            go_wp2_with fail
            go_roundw
            case rel => exact ⟨j + 1, by omega, by go_num, by rw [HN.out], _, rfl⟩
            case measure => simp [intOf]; try omega
          | false =>
            rw [hf, Bool.false_or] at hn
            by_cases he : (k : Int) = l[j] % (n : Int)
            · rw [decide_eq_true he] at hn
              have HN := Lib.hid hn
              have hq : (l[j].tmod (n : Int) == (k : Int)) = true := by rw [hmt, he]; simp
              have hq2 : l[j].tmod (n : Int) = (k : Int) := by rw [hmt, he]
              clear hn hf hmt he
              go_wp2_with fail
              go_quiet (fail)
              go_wp2_with fail
              go_roundw
              case rel => exact ⟨j + 1, by omega, by go_num, by rw [HN.out], _, rfl⟩
              case measure => simp [intOf]; try omega
            · rw [decide_eq_false he] at hn
              have HN := Lib.hid hn
              have HMT := Lib.hid hmt
              have hq2 : ¬ l[j].tmod (n : Int) = (k : Int) := by rw [hmt]; exact fun e => he e.symm
              have hq : (l[j].tmod (n : Int) == (k : Int)) = false := by simpa using hq2
              clear hn hf hmt he
              go_wp2_with fail
              go_quiet (fail)
              go_wp2_with fail
              go_roundw
              case rel => exact ⟨j + 1, by omega, by go_num, by rw [HN.out, ← HMT.out]; simp only [hq], _, rfl⟩
              case measure => simp [intOf]; try omega
        · obtain rfl : j = l.length := by omega
          have hownj : (wr.drewN nq).ownsRow (w.heap.size + 1) 3 1 (.slice A (colsTo p k).length c') (colsTo p k).length ((colsTo p k).map (Value.int .i64)) := own_below hown (below_drewN (Below.refl _ _) nq)
          have hbd := below_drewN hb nq
          have hzd := hbd.size
          rw [← hfin.out]
          cases hpk : p k with
          | true =>
            have HY := Lib.hid (colsTo_yes hpk)
            clear hpk
            go_wp2_with (at_builtin; refine app1 (by rfl) _ _ (by rfl) (w.heap.size + 1) (colsTo p k) k _ (by rfl) hownj (by rfl) (by omega) (by have := hbj.lt; omega) ?_; intro A' c'' w3 hown1 hb3)
            go_roundw
            case rel => exact ⟨k + 1, A', c'', by omega, by go_num, by rw [HY.out]; simp, hbd.trans (hb3.mono (by omega)), hbj.below hb3 (by omega), by rw [HY.out]; exact hown1⟩
            case measure => simp [intOf]; try omega
          | false =>
            have HY := Lib.hid (colsTo_no hpk)
            clear hpk
            go_wp2_with fail
            go_roundw
            case rel => exact ⟨k + 1, A, c', by omega, by go_num, by rw [HY.out], hbd, hbj, by rw [HY.out]; exact hownj⟩
            case measure => simp [intOf]; try omega
    · obtain rfl : k = n := by omega
      go_wp2_with fail
      go_ret
      exact RetInts.of_own hown hb

end Go.Proofs.Ytnjmkdgglpcfpaa

