import Derived.Test.YtieclenlldjfjaaGreatS1
set_option linter.unusedSimpArgs false
set_option linter.unusedVariables false
/- Text 29. -/
namespace Go.Proofs.YtieclenlldjfjaaGreat
open Go.RowKit

def textOf (l : List Int) : ByteArray := ⟨(l.map encB).toArray⟩
def textR (l : List Int) : ByteArray := if markErr l = 0 then textOf l else ⟨#[]⟩

/-- the bytes of a text, the first k letters written -/
def rowAt (l : List Int) (k : Nat) : Array Value := (((l.take k).map encB ++ List.replicate (l.length - k) 0).map fun b : UInt8 => Value.int .u8 (b.toNat : Int)).toArray

theorem rowAt_zero (l : List Int) : madeCells #[.int .u8 0] l.length = rowAt l 0 := by
  apply Array.ext_getElem?
  intro i
  by_cases hi : i < l.length
  · simp [rowAt, madeCells, hi, Nat.mod_one]
  · simp [rowAt, madeCells, hi]

theorem rowAt_get {l : List Int} {k i : Nat} (hk : k ≤ l.length) (hi : i < l.length) : (rowAt l k)[i]? = some (.int .u8 (if h : i < k then ((encB l[i]).toNat : Int) else 0)) := by
  have e : (rowAt l k)[i]? = (((l.take k).map encB ++ List.replicate (l.length - k) 0).map fun b : UInt8 => Value.int .u8 (b.toNat : Int))[i]? := by simp [rowAt]
  rw [e, List.getElem?_map]
  have hl : ((l.take k).map encB).length = k := by simp; omega
  split
  · rename_i h
    rw [List.getElem?_append_left (by omega)]
    simp [h, hi]
  · rename_i h
    rw [List.getElem?_append_right (by omega), hl, List.getElem?_replicate, if_pos (by omega)]
    rfl

theorem rowAt_size (l : List Int) {k : Nat} (hk : k ≤ l.length) : (rowAt l k).size = l.length := by
  simp [rowAt]; omega

theorem rowAt_next {l : List Int} {k : Nat} (hk : k < l.length) (v : Int) (hv : v = ((encB l[k]).toNat : Int)) : (rowAt l k).setIfInBounds k (.int .u8 v) = rowAt l (k + 1) := by
  subst hv
  apply Array.ext_getElem?
  intro i
  rw [Array.getElem?_setIfInBounds, rowAt_size l (by omega)]
  by_cases hi : i < l.length
  · rw [rowAt_get (by omega) hi, rowAt_get (by omega) hi]
    by_cases e : k = i
    · subst e
      rw [if_pos rfl, if_pos hk, dif_pos (by omega)]
    · rw [if_neg e]
      by_cases h : i < k
      · rw [dif_pos h, dif_pos (by omega)]
      · rw [dif_neg h, dif_neg (by omega)]
  · have h1 : (rowAt l k)[i]? = none := Array.getElem?_eq_none (by rw [rowAt_size l (by omega)]; omega)
    have h2 : (rowAt l (k + 1))[i]? = none := Array.getElem?_eq_none (by rw [rowAt_size l (by omega)]; omega)
    rw [h1, h2, if_neg (by omega)]

theorem enc_code {x : Int} (h : okM x = true) (h0 : x ≠ 0) : 97 + x - 1 = ((encB x).toNat : Int) ∧ 1 ≤ x ∧ x ≤ 20 := by
  rcases of_decide_eq_true h with h | h
  · exact absurd h h0
  · refine ⟨?_, h⟩
    have : x = 1 ∨ x = 2 ∨ x = 3 ∨ x = 4 ∨ x = 5 ∨ x = 6 ∨ x = 7 ∨ x = 8 ∨ x = 9 ∨ x = 10 ∨ x = 11 ∨ x = 12 ∨ x = 13 ∨ x = 14 ∨ x = 15 ∨ x = 16 ∨ x = 17 ∨ x = 18 ∨ x = 19 ∨ x = 20 := by omega
    rcases this with rfl | rfl | rfl | rfl | rfl | rfl | rfl | rfl | rfl | rfl | rfl | rfl | rfl | rfl | rfl | rfl | rfl | rfl | rfl | rfl <;> rfl

theorem info5 : (Tryz.prog.info? 5).map (fun i => (i.zero, i.size, i.bytes)) = some (some (.int .u8 0), 1, 1) := by kernel_rfl

theorem text_conv {w : World} {g : Nat} {l : List Int} (h : Blk w g 5 (rowAt l l.length)) (cap : Nat) :
    (convert 122 9 (.slice (some ⟨g, 0, none⟩) l.length cap)).run Tryz.prog w = .ok (.string (textOf l)) w := by
  have := run_convert_bytes_back (P := Tryz.prog) w 122 9 5 ⟨g, 0, none⟩ cap (l.map encB) Tryz.underlying122 Tryz.underlying5 Tryz.underlying9 (fun j hj => by
    have e : (⟨g, 0, none⟩ : Addr).add j = ⟨g, j, none⟩ := by unfold Addr.add; split <;> simp_all
    simp at hj
    rw [e, h.cell, rowAt_get (Nat.le_refl _) hj, dif_pos hj]
    simp)
  simpa [textOf] using this

set_option maxRecDepth 100000 in
set_option maxHeartbeats 1000000 in
theorem text_any (l : List Int) (A : Option Addr) (cap : Nat) (w : World) (hll : l.length ≤ 1000000) (hr0 : Ints w w.heap.size A l) :
    Calls Tryz.prog 29 #[.slice A l.length cap] w fun e w' => e = .returned (.tuple #[.string (textR l), .int .i64 (markErr l)]) ∧ Below w.heap.size w w' := by
  by_cases hm : markErr l = 0
  · have hT : Hid (textR l = textOf l) := if_pos hm
    have hM := Lib.hid hm
    have hlen : l.length ≤ 16 := by
      unfold markErr at hm
      split at hm
      · cases hm
      · omega
    have hall : Hid (l.all okM = true) := by
      show _ = _
      unfold markErr at hm
      rw [if_neg (by omega)] at hm
      split at hm
      · assumption
      · cases hm
    clear hm
    have hmk := run_make_row' (P := Tryz.prog) 122 5 (.int .u8 0) 1 Tryz.underlying122 info5 rfl .i64 .i64 l.length (by omega) (by omega)
    go_enter Tryz.func29, Tryz.ntmps29
    go_wp2_with (go_at_call 27; refine (checkMark_any _ _ _ _ hll hr0).mono ?_; rw [hM.out]; rintro e w1 ⟨rfl, hb1⟩)
    have hz : Blk (w1.alloc (.cells (madeCells #[.int .u8 0] l.length) 5)) w1.heap.size 5 (rowAt l 0) := by rw [← rowAt_zero]; exact Blk.new _ _ _
    obtain ⟨g, hg⟩ : ∃ g, g = w1.heap.size := ⟨_, rfl⟩
    have hwg : w.heap.size ≤ g := by rw [hg]; exact hb1.size
    have hb2 : Below w.heap.size w (w1.alloc (.cells (madeCells #[.int .u8 0] l.length) 5)) := hb1.alloc hb1.size _
    rw [← hg] at hz ⊢
    clear hg
    go_loopw [18] (fun i wr => ∃ k : Nat, k ≤ l.length ∧ i = .int .i64 k ∧ Blk wr g 5 (rowAt l k) ∧ Below w.heap.size w wr)
      (fun i _ => l.length - (intOf i).toNat)
    case atStart => exact ⟨0, Nat.zero_le _, rfl, hz, hb2⟩
    case round =>
      obtain ⟨k, hk, rfl, hB, hb⟩ := hrel
      by_cases hlt : k < l.length
      · obtain ⟨ad, rfl, hB0, hc⟩ := (hr0.below hb).get hlt
        have hlt2 : (k : Int) < (l.length : Int) := by omega
        have hcell : wr.cell? ⟨g, k, none⟩ = some (.int .u8 0) := by rw [hB.cell, rowAt_get hk hlt, dif_neg (by omega)]
        have hfr := hB.frozen k
        have hokx : okM l[k] = true := List.all_eq_true.1 hall.out _ (List.getElem_mem hlt)
        have hB1 := hB.store k (.int .u8 63)
        have hb3 : Below w.heap.size w (wr.setCell ⟨g, k, none⟩ (.int .u8 63)) := hb.setCell (p := ⟨g, k, none⟩) hwg _
        by_cases h0 : l[k] = 0
        · have hq : (l[k] != 0) = false := by simp [h0]
          have hrow := Lib.hid (rowAt_next hlt 63 (by rw [h0]; rfl))
          clear h0 hokx
          go_wp2_with fail
          go_roundw
          case rel => exact ⟨k + 1, by omega, by go_num, by rw [← hrow.out]; exact hB1, hb3⟩
          case measure => simp [intOf]; try omega
        · have hq : (l[k] != 0) = true := by simp [h0]
          obtain ⟨hv, hx1, hx2⟩ := enc_code hokx h0
          have hrow := Lib.hid (rowAt_next hlt _ hv)
          clear h0 hokx
          have hcell2 : (wr.setCell ⟨g, k, none⟩ (.int .u8 63)).cell? ⟨g, k, none⟩ = some (.int .u8 63) := by rw [hB1.cell, Array.getElem?_setIfInBounds, rowAt_size l hk, if_pos rfl, if_pos hlt]
          have hfr2 := hB1.frozen k
          have hB2 := hB1.store k (.int .u8 (97 + l[k] - 1))
          have hb4 : Below w.heap.size w ((wr.setCell ⟨g, k, none⟩ (.int .u8 63)).setCell ⟨g, k, none⟩ (.int .u8 (97 + l[k] - 1))) := hb3.setCell (p := ⟨g, k, none⟩) hwg _
          have hset : ((rowAt l k).setIfInBounds k (.int .u8 63)).setIfInBounds k (.int .u8 (97 + l[k] - 1)) = rowAt l (k + 1) := by rw [Array.setIfInBounds_setIfInBounds]; exact hrow.out
          rw [hset] at hB2
          clear hset hv
          go_wp2_with fail
          go_roundw
          case rel => exact ⟨k + 1, by omega, by go_num, hB2, hb4⟩
          case measure => simp [intOf]; try omega
      · obtain rfl : k = l.length := by omega
        have hcv := text_conv hB l.length
        go_wp2_with fail
        go_ret2
        exact ⟨by rw [hT.out, hM.out]; rfl, hb⟩
  · have hT : Hid (textR l = ⟨#[]⟩) := if_neg hm
    have hne : (markErr l != 0) = true := by simp [hm]
    clear hm
    go_enter Tryz.func29, Tryz.ntmps29
    go_wp2_with (go_at_call 27; refine (checkMark_any _ _ _ _ hll hr0).mono ?_; rintro e w1 ⟨rfl, hb1⟩)
    go_ret2
    exact ⟨by rw [hT.out]; rfl, hb1⟩
end Go.Proofs.YtieclenlldjfjaaGreat
