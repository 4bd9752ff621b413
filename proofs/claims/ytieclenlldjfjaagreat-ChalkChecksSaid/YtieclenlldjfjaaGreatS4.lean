import Derived.Test.YtieclenlldjfjaaGreatS3
import Derived.Laws.Runes
import Derived.Laws.Concat
set_option linter.unusedSimpArgs false
set_option linter.unusedVariables false
/- The reference's: in 71, CheckMark 28, Text 30. -/
namespace Go.Proofs.YtieclenlldjfjaaGreat
open Go.RowKit

set_option maxHeartbeats 400000 in
theorem in_any (x lo hi : Int) (w : World) :
    Calls Tryz.prog 71 #[.int .i64 x, .int .i64 lo, .int .i64 hi] w fun e w' => e = .returned (.bool (decide (lo ≤ x ∧ x ≤ hi))) ∧ w = w' := by
  go_enter Tryz.func71, Tryz.ntmps71
  go_wp2
  all_goals
    go_ret
    exact ⟨ret_bool (by simp [*]; try omega), rfl⟩

theorem okM_in (x : Int) : okM x = decide (0 ≤ x ∧ x ≤ 20) := by
  unfold okM
  exact decide_eq_decide.2 ⟨by omega, by omega⟩

set_option maxRecDepth 100000 in
set_option maxHeartbeats 1000000 in
theorem refCheckMark_any (l : List Int) (A : Option Addr) (cap : Nat) (w : World) (hll : l.length ≤ 1000000) (hr : Ints w w.heap.size A l) :
    Calls Tryz.prog 28 #[.slice A l.length cap] w fun e w' => e = .returned (.int .i64 (markErr l)) ∧ Below w.heap.size w w' := by
  by_cases hlen : l.length ≤ 16
  · have hq : decide ((16 : Int) < (l.length : Int)) = false := decide_eq_false (by omega)
    have hq2 : decide (16 < l.length) = false := decide_eq_false (by omega)
    have hM : Hid (markErr l = if l.all okM then 0 else 1) := by show markErr l = _; unfold markErr; rw [if_neg (by omega)]
    go_enter Tryz.func28, Tryz.ntmps28
    go_wp2_with fail
    go_loopw [3] (fun i wr => ∃ k : Nat, k ≤ l.length ∧ i = .int .i64 k ∧ Hid ((l.take k).all okM = true) ∧ Below w.heap.size w wr)
      (fun i _ => l.length - (intOf i).toNat)
    case atStart => exact ⟨0, Nat.zero_le _, rfl, by simp [Hid], Below.refl _ _⟩
    case round =>
      obtain ⟨k, hk, rfl, hall, hb⟩ := hrel
      by_cases hlt : k < l.length
      · obtain ⟨ad, rfl, hB, hc⟩ := (hr.below hb).get hlt
        have hll2 : (k : Int) < (l.length : Int) := by omega
        cases h0 : okM l[k] with
        | true =>
          have hn : Hid ((l.take (k + 1)).all okM = true) := all_next hlt hall.out h0
          have hd : Hid (decide (0 ≤ l[k] ∧ l[k] ≤ 20) = true) := (okM_in _).symm.trans h0
          clear hall h0
          go_wp2_with (go_at_call 71; refine (in_any _ _ _ _).mono ?_; rw [hd.out]; rintro e w1 ⟨rfl, rfl⟩)
          go_roundw
          case rel => exact ⟨k + 1, by omega, by go_num, hn, hb⟩
          case measure => simp [intOf]; try omega
        | false =>
          have hd : Hid (decide (0 ≤ l[k] ∧ l[k] ≤ 20) = false) := (okM_in _).symm.trans h0
          have hm : Hid (markErr l = 1) := by
            show markErr l = 1
            rw [hM.out, if_neg]
            intro h
            have := List.all_eq_true.1 h l[k] (List.getElem_mem hlt)
            rw [h0] at this
            cases this
          clear hall h0 hM
          go_wp2_with (go_at_call 71; refine (in_any _ _ _ _).mono ?_; rw [hd.out]; rintro e w1 ⟨rfl, rfl⟩)
          go_ret
          exact ⟨by rw [hm.out]; rfl, hb⟩
      · have hm : Hid (markErr l = 0) := by
          show markErr l = 0
          rw [hM.out, if_pos]
          have := hall.out
          rwa [List.take_of_length_le (by omega)] at this
        clear hall hM
        go_wp2_with fail
        go_ret
        exact ⟨by rw [hm.out]; rfl, hb⟩
  · have hq : decide ((16 : Int) < (l.length : Int)) = true := decide_eq_true (by omega)
    have hq2 : decide (16 < l.length) = true := decide_eq_true (by omega)
    have hm : Hid (markErr l = 2) := by show markErr l = 2; unfold markErr; rw [if_pos (by omega)]
    go_enter Tryz.func28, Tryz.ntmps28
    go_wp2_with fail
    go_ret
    exact ⟨by rw [hm.out]; rfl, Below.refl _ _⟩

theorem text_size (l : List Int) : (textOf l).size = l.length := by
  have e : (textOf l).data.toList = l.map encB := by simp [textOf]
  show (textOf l).data.size = _
  rw [← Array.length_toList, e, List.length_map]

theorem text_next {l : List Int} {k : Nat} (hk : k < l.length) : textOf (l.take (k + 1)) = textOf (l.take k) ++ ⟨#[encB l[k]]⟩ := by
  rw [List.take_succ_eq_append_getElem hk]
  apply ByteArray.ext
  apply Array.toList_inj.1
  have e : ∀ (a b : ByteArray), (a ++ b).data.toList = a.data.toList ++ b.data.toList := fun a b => by simp
  rw [e]
  show (List.take k l ++ [l[k]]).map encB = (l.take k).map encB ++ [encB l[k]]
  rw [List.map_append]
  rfl

/-- the letter of a stroke, as the reference writes it -/
theorem letter {x : Int} (h : okM x = true) (h0 : x ≠ 0) : Utf8.encode (97 + x - 1) = ⟨#[encB x]⟩ := by
  rcases of_decide_eq_true h with h | h
  · exact absurd h h0
  · have : x = 1 ∨ x = 2 ∨ x = 3 ∨ x = 4 ∨ x = 5 ∨ x = 6 ∨ x = 7 ∨ x = 8 ∨ x = 9 ∨ x = 10 ∨ x = 11 ∨ x = 12 ∨ x = 13 ∨ x = 14 ∨ x = 15 ∨ x = 16 ∨ x = 17 ∨ x = 18 ∨ x = 19 ∨ x = 20 := by omega
    rcases this with rfl | rfl | rfl | rfl | rfl | rfl | rfl | rfl | rfl | rfl | rfl | rfl | rfl | rfl | rfl | rfl | rfl | rfl | rfl | rfl <;> rfl

set_option maxRecDepth 100000 in
set_option maxHeartbeats 1000000 in
theorem refText_any (l : List Int) (A : Option Addr) (cap : Nat) (w : World) (hll : l.length ≤ 1000000) (hr0 : Ints w w.heap.size A l) :
    Calls Tryz.prog 30 #[.slice A l.length cap] w fun e w' => e = .returned (.tuple #[.string (textR l), .int .i64 (markErr l)]) ∧ Below w.heap.size w w' := by
  by_cases hm : markErr l = 0
  · have hT : Hid (textR l = textOf l) := if_pos hm
    have hM := Lib.hid hm
    have hlen : l.length ≤ 16 := by
      unfold markErr at hm
      split at hm
      · cases hm
      · omega
    have hall : Hid (l.all okM = true) := by
      show _ = _
      unfold markErr at hm
      rw [if_neg (by omega)] at hm
      split at hm
      · assumption
      · cases hm
    clear hm
    go_enter Tryz.func30, Tryz.ntmps30
    go_wp2_with (go_at_call 28; refine (refCheckMark_any _ _ _ _ hll hr0).mono ?_; rw [hM.out]; rintro e w1 ⟨rfl, hb1⟩)
    go_loopw [5, 6] (fun v i wr => ∃ k : Nat, k ≤ l.length ∧ i = .int .i64 k ∧ v = .string (textOf (l.take k)) ∧ Below w.heap.size w wr)
      (fun _ i _ => l.length - (intOf i).toNat)
    case atStart => exact ⟨0, Nat.zero_le _, rfl, rfl, hb1⟩
    case round =>
      obtain ⟨k, hk, rfl, rfl, hb⟩ := hrel
      by_cases hlt : k < l.length
      · obtain ⟨ad, rfl, hB0, hc⟩ := (hr0.below hb).get hlt
        have hlt2 : (k : Int) < (l.length : Int) := by omega
        have hokx : okM l[k] = true := List.all_eq_true.1 hall.out _ (List.getElem_mem hlt)
        have hn := Lib.hid (text_next hlt)
        have hsz : (textOf (l.take k)).size ≤ 16 := by rw [text_size, List.length_take]; omega
        have hs1 : ∀ b : UInt8, (⟨#[b]⟩ : ByteArray).size = 1 := fun b => rfl
        have hra : ∀ (b : UInt8) (w : World), (Op.stringOp .add (textOf (l.take k)) ⟨#[b]⟩).run Tryz.prog w = .ok (.string (textOf (l.take k) ++ ⟨#[b]⟩)) w := fun b w => run_string_add_sum w _ _ (by rw [hs1]; omega)
        clear hsz hs1
        by_cases h0 : l[k] = 0
        · have hq : (l[k] == 0) = true := by simp [h0]
          have he : Hid (encB l[k] = 63) := by show _ = _; rw [h0]; rfl
          clear h0 hokx
          go_wp2_with fail
          go_roundw
          case rel => exact ⟨k + 1, by omega, by go_num, by rw [hn.out, he.out], hb⟩
          case measure => simp [intOf]; try omega
        · have hq : (l[k] == 0) = false := by simp [h0]
          obtain ⟨_, hx1, hx2⟩ := enc_code hokx h0
          obtain ⟨x, hxe⟩ : ∃ x, x = l[k] := ⟨_, rfl⟩
          rw [← hxe] at hc hq hn hx1 hx2
          clear h0 hokx hxe
          have : x = 1 ∨ x = 2 ∨ x = 3 ∨ x = 4 ∨ x = 5 ∨ x = 6 ∨ x = 7 ∨ x = 8 ∨ x = 9 ∨ x = 10 ∨ x = 11 ∨ x = 12 ∨ x = 13 ∨ x = 14 ∨ x = 15 ∨ x = 16 ∨ x = 17 ∨ x = 18 ∨ x = 19 ∨ x = 20 := by omega
          clear hx1 hx2 hq
          have e97 : Utf8.encode 97 = ⟨#[97]⟩ := rfl
          have e98 : Utf8.encode 98 = ⟨#[98]⟩ := rfl
          have e99 : Utf8.encode 99 = ⟨#[99]⟩ := rfl
          have e100 : Utf8.encode 100 = ⟨#[100]⟩ := rfl
          have e101 : Utf8.encode 101 = ⟨#[101]⟩ := rfl
          have e102 : Utf8.encode 102 = ⟨#[102]⟩ := rfl
          have e103 : Utf8.encode 103 = ⟨#[103]⟩ := rfl
          have e104 : Utf8.encode 104 = ⟨#[104]⟩ := rfl
          have e105 : Utf8.encode 105 = ⟨#[105]⟩ := rfl
          have e106 : Utf8.encode 106 = ⟨#[106]⟩ := rfl
          have e107 : Utf8.encode 107 = ⟨#[107]⟩ := rfl
          have e108 : Utf8.encode 108 = ⟨#[108]⟩ := rfl
          have e109 : Utf8.encode 109 = ⟨#[109]⟩ := rfl
          have e110 : Utf8.encode 110 = ⟨#[110]⟩ := rfl
          have e111 : Utf8.encode 111 = ⟨#[111]⟩ := rfl
          have e112 : Utf8.encode 112 = ⟨#[112]⟩ := rfl
          have e113 : Utf8.encode 113 = ⟨#[113]⟩ := rfl
          have e114 : Utf8.encode 114 = ⟨#[114]⟩ := rfl
          have e115 : Utf8.encode 115 = ⟨#[115]⟩ := rfl
          have e116 : Utf8.encode 116 = ⟨#[116]⟩ := rfl
          rcases this with rfl | rfl | rfl | rfl | rfl | rfl | rfl | rfl | rfl | rfl | rfl | rfl | rfl | rfl | rfl | rfl | rfl | rfl | rfl | rfl
          all_goals
            go_wp2_with fail
            go_roundw
            case rel => exact ⟨k + 1, by omega, by go_num, by rw [hn.out]; rfl, hb⟩
            case measure => simp [intOf]; try omega
      · obtain rfl : k = l.length := by omega
        rw [List.take_length]
        go_wp2_with fail
        go_ret2
        exact ⟨by rw [hT.out, hM.out]; rfl, hb⟩
  · have hT : Hid (textR l = ⟨#[]⟩) := if_neg hm
    have hne : (markErr l != 0) = true := by simp [hm]
    clear hm
    go_enter Tryz.func30, Tryz.ntmps30
    go_wp2_with (go_at_call 28; refine (refCheckMark_any _ _ _ _ hll hr0).mono ?_; rintro e w1 ⟨rfl, hb1⟩)
    go_ret2
    exact ⟨by rw [hT.out]; rfl, hb1⟩
end Go.Proofs.YtieclenlldjfjaaGreat
