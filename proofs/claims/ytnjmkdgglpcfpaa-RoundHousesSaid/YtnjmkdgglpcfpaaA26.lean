import Derived.Test.YtnjmkdgglpcfpaaA25
namespace Go.Proofs.Ytnjmkdgglpcfpaa
open Go.RowKit

set_option maxRecDepth 100000 in
set_option maxHeartbeats 1000000 in
theorem rising_any (l : List Int) (A : Option Addr) (cap : Nat) (hi : Int) (w : World) (hll : l.length ≤ 1000000) (hr : Ints w w.heap.size A l) :
    Calls Try.prog 75 #[.slice A l.length cap, .int .i64 hi] w fun e w' => e = .returned (.bool (decide (Rise (hi + 1) l))) ∧ Below w.heap.size w w' := by
  go_enter Try.func75, Try.ntmps75
  go_wp2_with fail
  go_loopw [5] (fun i wr => ∃ k : Nat, k ≤ l.length ∧ i = .int .i64 k ∧ Hid (Rise (hi + 1) (l.take k)) ∧ Below w.heap.size w wr)
    (fun i _ => l.length - (intOf i).toNat)
  case atStart => exact ⟨0, Nat.zero_le _, rfl, by simpa [Hid] using Rise.nil, Below.refl _ _⟩
  case round =>
    obtain ⟨k, hk, rfl, hall, hb⟩ := hrel
    by_cases hlt : k < l.length
    · obtain ⟨ad, hA, hB, hc⟩ := (hr.below hb).get hlt
      by_cases hin : 0 ≤ l[k] ∧ l[k] ≤ hi
      · have hI : Hid (decide (0 ≤ l[k] ∧ l[k] ≤ hi) = true) := decide_eq_true hin
        by_cases hk0 : k = 0
        · have hn : Hid (Rise (hi + 1) (l.take (k + 1))) := by subst hk0; exact rise_first hlt hin.1 (by omega)
          have hll2 : (k : Int) < (l.length : Int) := by omega
          have hk1 : decide ((0 : Int) < (k : Int)) = false := decide_eq_false (by omega)
          have hk2 : decide (0 < k) = false := decide_eq_false (by omega)
          subst hA
          clear hall hin hk0
          go_wp2_with fail
          go_quiet ((go_at_call 61; exact Calls.quiet_of_same ((in_any _ _ _ _).mono fun e w' h => ⟨by rw [h.1, hI.out], h.2.symm⟩)))
          go_wp2_with fail
          go_roundw
          case rel => exact ⟨k + 1, by omega, by go_num, hn, below_drewN hb _⟩
          case measure => simp [intOf]; try omega
        · have hk2 : ((k : Int) - 1).toNat = k - 1 := by omega
          obtain ⟨ad', hA', hB', hcp⟩ := (hr.below hb).get (k := k - 1) (by omega)
          obtain rfl : ad' = ad := by rw [hA] at hA'; cases hA'; rfl
          subst hA
          have hll2 : (k : Int) < (l.length : Int) := by omega
          have hll3 : (k : Int) - 1 < (l.length : Int) := by omega
          by_cases hx : l[k - 1] < l[k]
          · have hn : Hid (Rise (hi + 1) (l.take (k + 1))) := rise_next hlt (by omega) hall.out hin.1 (by omega) hx
            have hq : decide (l[k] ≤ l[k - 1]) = false := decide_eq_false (by omega)
            have hw : IntKind.i64.wrap ((k : Int) - 1) = (k : Int) - 1 := IntWalk.i64_in _ (by omega)
            have hm : max (0 : Int) ((k : Int) - 1) = (k : Int) - 1 := by omega
            have hpos : (0 : Int) < (k : Int) := by omega
            have hkk : 0 < k := by omega
            have hkd : decide (0 < k) = true := decide_eq_true hkk
            have hp1 : (0 : Int) ≤ (k : Int) - 1 := by omega
            clear hall hin hx hk0
            go_wp2_with fail
            go_quiet ((go_at_call 61; exact Calls.quiet_of_same ((in_any _ _ _ _).mono fun e w' h => ⟨by rw [h.1, hI.out], h.2.symm⟩)))
            clear hw
            go_wp2_with fail
            go_roundw
            case rel => exact ⟨k + 1, by omega, by go_num, hn, below_drewN hb _⟩
            case measure => simp [intOf]; try omega
          · have hd : Hid (decide (Rise (hi + 1) l) = false) := decide_eq_false fun h => hx (h.step hlt (by omega))
            have hq : decide (l[k] ≤ l[k - 1]) = true := decide_eq_true (by omega)
            have hw : IntKind.i64.wrap ((k : Int) - 1) = (k : Int) - 1 := IntWalk.i64_in _ (by omega)
            have hm : max (0 : Int) ((k : Int) - 1) = (k : Int) - 1 := by omega
            have hpos : (0 : Int) < (k : Int) := by omega
            have hkk : 0 < k := by omega
            have hkd : decide (0 < k) = true := decide_eq_true hkk
            have hp1 : (0 : Int) ≤ (k : Int) - 1 := by omega
            clear hall hin hx hk0
            go_wp2_with fail
            go_quiet ((go_at_call 61; exact Calls.quiet_of_same ((in_any _ _ _ _).mono fun e w' h => ⟨by rw [h.1, hI.out], h.2.symm⟩)))
            clear hw
            go_wp2_with fail
            go_ret
            exact ⟨by rw [hd.out]; rfl, below_drewN hb _⟩
      · have hI : Hid (decide (0 ≤ l[k] ∧ l[k] ≤ hi) = false) := decide_eq_false hin
        have hd : Hid (decide (Rise (hi + 1) l) = false) := decide_eq_false fun h => hin (by have := h.at hlt; omega)
        have hll2 : (k : Int) < (l.length : Int) := by omega
        subst hA
        clear hall hin
        go_wp2_with fail
        go_quiet ((go_at_call 61; exact Calls.quiet_of_same ((in_any _ _ _ _).mono fun e w' h => ⟨by rw [h.1, hI.out], h.2.symm⟩)))
        go_wp2_with fail
        go_ret
        exact ⟨by rw [hd.out]; rfl, below_drewN hb _⟩
    · have hd : Hid (decide (Rise (hi + 1) l) = true) := decide_eq_true (by have := hall.out; rwa [List.take_of_length_le (by omega)] at this)
      clear hall
      go_wp2_with fail
      go_ret
      exact ⟨by rw [hd.out]; rfl, hb⟩

end Go.Proofs.Ytnjmkdgglpcfpaa
