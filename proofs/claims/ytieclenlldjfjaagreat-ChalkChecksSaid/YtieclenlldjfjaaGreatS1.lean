import Derived.Test.YtieclenlldjfjaaGreatProg
import Derived.Test.YtieclenlldjfjaaGreatW
import Derived.WalkKit
import Derived.WalkSpells
import Derived.WalkLawsBesides
import Derived.Deep.QuietTactic
import Derived.BigQuiet
import Derived.Lib.Hide
import Derived.IntWalk
import Derived.Deep.RegionHeld3
import Derived.Deep.DeepCutAuto
import Derived.Maps.AppendAt
import Derived.OwnWalk
import Derived.Deep.OwnRows
import Derived.Laws.IdiomStrings
set_option linter.unusedSimpArgs false
set_option linter.unusedVariables false
/- Marks and texts: what they are in plain words; isStroke 77, SameInts 23, CheckMark 27. -/
namespace Go.Proofs.YtieclenlldjfjaaGreat
open Go.RowKit

/-- a stroke, or one that is smudged -/
def okM (x : Int) : Bool := decide (x = 0 ∨ 1 ≤ x ∧ x ≤ 20)
/-- the error of a mark -/
def markErr (l : List Int) : Int := if 16 < l.length then 2 else if l.all okM then 0 else 1
/-- the letter of a stroke -/
def encB (x : Int) : UInt8 := if x = 0 then 63 else UInt8.ofNat (96 + x).toNat
/-- the stroke of a letter -/
def decB (b : UInt8) : Option Int := if b = 63 then some 0 else if 97 ≤ b.toNat ∧ b.toNat ≤ 116 then some ((b.toNat : Int) - 96) else none

theorem dec_enc {x : Int} (h : okM x = true) : decB (encB x) = some x := by
  have h := of_decide_eq_true h
  rcases h with rfl | h
  · rfl
  · have : x = 1 ∨ x = 2 ∨ x = 3 ∨ x = 4 ∨ x = 5 ∨ x = 6 ∨ x = 7 ∨ x = 8 ∨ x = 9 ∨ x = 10 ∨ x = 11 ∨ x = 12 ∨ x = 13 ∨ x = 14 ∨ x = 15 ∨ x = 16 ∨ x = 17 ∨ x = 18 ∨ x = 19 ∨ x = 20 := by omega
    rcases this with rfl | rfl | rfl | rfl | rfl | rfl | rfl | rfl | rfl | rfl | rfl | rfl | rfl | rfl | rfl | rfl | rfl | rfl | rfl | rfl <;> decide

theorem enc_dec {b : UInt8} {x : Int} (h : decB b = some x) : okM x = true ∧ encB x = b := by
  unfold decB at h
  split at h
  · rename_i hb
    cases h
    exact ⟨rfl, hb.symm⟩
  · split at h
    · rename_i hb h2
      cases h
      refine ⟨decide_eq_true (by omega), ?_⟩
      unfold encB
      rw [if_neg (by omega)]
      apply UInt8.toNat_inj.1
      rw [show ((96 : Int) + ((b.toNat : Int) - 96)).toNat = b.toNat by omega]
      simp
    · cases h

set_option maxHeartbeats 400000 in
theorem isStroke_any (x : Int) (w : World) :
    Calls Tryz.prog 77 #[.int .i64 x] w fun e w' => e = .returned (.bool (decide (1 ≤ x ∧ x ≤ 20))) ∧ w = w' := by
  go_enter Tryz.func77, Tryz.ntmps77
  go_wp2
  all_goals
    go_ret
    exact ⟨ret_bool (by simp [*]; try omega), rfl⟩

/-- are two lists the same -/
theorem same_next {l m : List Int} {k : Nat} (h1 : k < l.length) (h2 : k < m.length) (h : l.take k = m.take k) (he : l[k] = m[k]) : l.take (k + 1) = m.take (k + 1) := by
  rw [List.take_succ_eq_append_getElem h1, List.take_succ_eq_append_getElem h2, h, he]

set_option maxRecDepth 100000 in
set_option maxHeartbeats 1000000 in
theorem same_any (l m : List Int) (A D : Option Addr) (cap dap : Nat) (w : World) (hll : l.length ≤ 1000000) (hlm : m.length ≤ 1000000) (hr : Ints w w.heap.size A l) (hs : Ints w w.heap.size D m) :
    Calls Tryz.prog 23 #[.slice A l.length cap, .slice D m.length dap] w fun e w' => e = .returned (.bool (decide (l = m))) ∧ Below w.heap.size w w' := by
  by_cases hlen : l.length = m.length
  · have hq1 : ((((l.length : Nat) : Int)) != ((m.length : Nat) : Int)) = false := by simp [hlen]
    have hq2 : (((l.length : Nat) : Int)) = ((m.length : Nat) : Int) := by omega
    go_enter Tryz.func23, Tryz.ntmps23
    go_wp2_with fail
    go_loopw [5] (fun i wr => ∃ k : Nat, k ≤ l.length ∧ i = .int .i64 k ∧ Hid (l.take k = m.take k) ∧ Below w.heap.size w wr)
      (fun i _ => l.length - (intOf i).toNat)
    case atStart => exact ⟨0, Nat.zero_le _, rfl, rfl, Below.refl _ _⟩
    case round =>
      obtain ⟨k, hk, rfl, hall, hb⟩ := hrel
      by_cases hlt : k < l.length
      · obtain ⟨ad, rfl, hB, hc⟩ := (hr.below hb).get hlt
        obtain ⟨ad2, rfl, hB2, hc2⟩ := (hs.below hb).get (k := k) (by omega)
        have hlm2 : (k : Int) < (m.length : Int) := by omega
        have hll2 : (k : Int) < (l.length : Int) := by omega
        by_cases hx : l[k] = m[k]
        · have hn : Hid (l.take (k + 1) = m.take (k + 1)) := same_next hlt (by omega) hall.out hx
          have hq : (l[k] != m[k]) = false := by simp [hx]
          clear hall hx
          go_wp2_with fail
          go_quiet (fail)
          go_wp2_with fail
          go_roundw
          case rel => exact ⟨k + 1, by omega, by go_num, hn, below_drewN hb _⟩
          case measure => simp [intOf]; try omega
        · have hd : Hid (decide (l = m) = false) := decide_eq_false fun e => hx (by subst e; rfl)
          have hq : (l[k] != m[k]) = true := by simp [hx]
          clear hall hx
          go_wp2_with fail
          go_quiet (fail)
          go_wp2_with fail
          go_ret
          exact ⟨by rw [hd.out]; rfl, below_drewN hb _⟩
      · have hd : Hid (decide (l = m) = true) := decide_eq_true (by have := hall.out; rwa [List.take_of_length_le (by omega), List.take_of_length_le (by omega)] at this)
        clear hall
        go_wp2_with fail
        go_ret
        exact ⟨by rw [hd.out]; rfl, hb⟩
  · have hq1 : ((((l.length : Nat) : Int)) != ((m.length : Nat) : Int)) = true := by simp; omega
    have hq2 : ¬ (((l.length : Nat) : Int)) = ((m.length : Nat) : Int) := by omega
    have hd : Hid (decide (l = m) = false) := decide_eq_false fun e => hlen (by rw [e])
    go_enter Tryz.func23, Tryz.ntmps23
    go_wp2_with fail
    go_ret
    exact ⟨by rw [hd.out]; rfl, Below.refl _ _⟩

theorem all_next {l : List Int} {k : Nat} (hk : k < l.length) (h : (l.take k).all okM = true) (hx : okM l[k] = true) : (l.take (k + 1)).all okM = true := by
  rw [List.take_succ_eq_append_getElem hk, List.all_append, h]
  simp [hx]

set_option maxRecDepth 100000 in
set_option maxHeartbeats 1000000 in
theorem checkMark_any (l : List Int) (A : Option Addr) (cap : Nat) (w : World) (hll : l.length ≤ 1000000) (hr : Ints w w.heap.size A l) :
    Calls Tryz.prog 27 #[.slice A l.length cap] w fun e w' => e = .returned (.int .i64 (markErr l)) ∧ Below w.heap.size w w' := by
  by_cases hlen : l.length ≤ 16
  · have hq : decide ((16 : Int) < (l.length : Int)) = false := decide_eq_false (by omega)
    have hq2 : decide (16 < l.length) = false := decide_eq_false (by omega)
    have hM : Hid (markErr l = if l.all okM then 0 else 1) := by show markErr l = _; unfold markErr; rw [if_neg (by omega)]
    go_enter Tryz.func27, Tryz.ntmps27
    go_wp2_with fail
    go_loopw [10] (fun i wr => ∃ k : Nat, k ≤ l.length ∧ i = .int .i64 k ∧ Hid ((l.take k).all okM = true) ∧ Below w.heap.size w wr)
      (fun i _ => l.length - (intOf i).toNat)
    case atStart => exact ⟨0, Nat.zero_le _, rfl, by simp [Hid], Below.refl _ _⟩
    case round =>
      obtain ⟨k, hk, rfl, hall, hb⟩ := hrel
      by_cases hlt : k < l.length
      · obtain ⟨ad, rfl, hB, hc⟩ := (hr.below hb).get hlt
        have hll2 : (k : Int) < (l.length : Int) := by omega
        by_cases h0 : l[k] = 0
        · have hn : Hid ((l.take (k + 1)).all okM = true) := all_next hlt hall.out (by rw [h0]; rfl)
          have hz : (l[k] != 0) = false := by simp [h0]
          clear hall h0
          go_wp2_with fail
          go_roundw
          case rel => exact ⟨k + 1, by omega, by go_num, hn, hb⟩
          case measure => simp [intOf]; try omega
        · have hz : (l[k] != 0) = true := by simp [h0]
          by_cases hs : 1 ≤ l[k] ∧ l[k] ≤ 20
          · have hn : Hid ((l.take (k + 1)).all okM = true) := all_next hlt hall.out (decide_eq_true (.inr hs))
            have hd : Hid (decide (1 ≤ l[k] ∧ l[k] ≤ 20) = true) := decide_eq_true hs
            clear hall h0 hs
            go_wp2_with (go_at_call 77; refine (isStroke_any _ _).mono ?_; rw [hd.out]; rintro e w1 ⟨rfl, rfl⟩)
            go_roundw
            case rel => exact ⟨k + 1, by omega, by go_num, hn, hb⟩
            case measure => simp [intOf]; try omega
          · have hd : Hid (decide (1 ≤ l[k] ∧ l[k] ≤ 20) = false) := decide_eq_false hs
            have hm : Hid (markErr l = 1) := by
              show markErr l = 1
              rw [hM.out, if_neg]
              intro h
              have := List.all_eq_true.1 h l[k] (List.getElem_mem hlt)
              rcases of_decide_eq_true this with h | h
              · exact h0 h
              · exact hs h
            clear hall h0 hs hM
            go_wp2_with (go_at_call 77; refine (isStroke_any _ _).mono ?_; rw [hd.out]; rintro e w1 ⟨rfl, rfl⟩)
            go_ret
            exact ⟨by rw [hm.out]; rfl, hb⟩
      · have hm : Hid (markErr l = 0) := by
          show markErr l = 0
          rw [hM.out, if_pos]
          have := hall.out
          rwa [List.take_of_length_le (by omega)] at this
        clear hall hM
        go_wp2_with fail
        go_ret
        exact ⟨by rw [hm.out]; rfl, hb⟩
  · have hq : decide ((16 : Int) < (l.length : Int)) = true := decide_eq_true (by omega)
    have hq2 : decide (16 < l.length) = true := decide_eq_true (by omega)
    have hm : Hid (markErr l = 2) := by show markErr l = 2; unfold markErr; rw [if_pos (by omega)]
    go_enter Tryz.func27, Tryz.ntmps27
    go_wp2_with fail
    go_ret
    exact ⟨by rw [hm.out]; rfl, Below.refl _ _⟩
end Go.Proofs.YtieclenlldjfjaaGreat
