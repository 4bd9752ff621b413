import Derived.Test.YtieclenlldjfjaaGreatS3
import Derived.Test.YtieclenlldjfjaaGreatK4
set_option linter.unusedSimpArgs false
set_option linter.unusedVariables false
/- ChalkSpells, function 12. -/
namespace Go.Proofs.YtieclenlldjfjaaGreat
open Go.RowKit

theorem marks_enc {l : List Int} (h : l.all okM = true) : marks (l.map encB) = l ∧ badAt (l.map encB) = none := by
  constructor
  · unfold marks
    rw [List.map_map]
    conv => rhs; rw [← List.map_id l]
    apply List.map_congr_left
    intro x hx
    simp [dec_enc (List.all_eq_true.1 h x hx)]
  · apply bad_none
    intro i hi
    simp only [List.getElem_map]
    rw [dec_enc (List.all_eq_true.1 h _ (List.getElem_mem _))]
    rfl

theorem markErr_zero {l : List Int} : markErr l = 0 ↔ l.length ≤ 16 ∧ l.all okM = true := by
  unfold markErr
  constructor
  · intro h
    split at h
    · cases h
    · split at h
      · exact ⟨by omega, by assumption⟩
      · cases h
  · rintro ⟨h1, h2⟩
    rw [if_neg (by omega), if_pos h2]

theorem text_scan {l : List Int} (h : markErr l = 0) : scanL (textOf l) = l ∧ scanE (textOf l) = 0 ∧ scanI (textOf l) = 0 ∧ (textOf l).size ≤ 16 := by
  obtain ⟨h1, h2⟩ := markErr_zero.1 h
  obtain ⟨g1, g2⟩ := marks_enc h2
  have e : (textOf l).data.toList = l.map encB := by simp [textOf]
  have hs : (textOf l).size = l.length := by
    show (textOf l).data.size = _
    rw [← Array.length_toList, e, List.length_map]
  unfold scanL scanE scanI
  rw [e, g2, hs]
  refine ⟨?_, ?_, rfl, h1⟩
  · rw [if_neg (by simp), if_neg (by omega), g1]
  · rw [if_neg (by simp), if_neg (by omega)]

theorem scan_text {s : ByteArray} (h : scanE s = 0) : markErr (scanL s) = 0 ∧ textR (scanL s) = s := by
  unfold scanE at h
  cases hb : badAt s.data.toList with
  | some i => rw [hb] at h; cases h
  | none =>
    rw [hb] at h
    split at h
    · cases h
    · split at h
      · cases h
      · rename_i h16
        have hl : scanL s = marks s.data.toList := by
          unfold scanL
          rw [hb, if_neg (by simp), if_neg h16]
        have hsome : ∀ b ∈ s.data.toList, ∃ x, decB b = some x := by
          intro b hbm
          unfold badAt at hb
          rw [List.findIdx?_eq_none_iff] at hb
          have := hb b hbm
          cases hd : decB b with
          | none => rw [hd] at this; cases this
          | some x => exact ⟨x, rfl⟩
        have hlen : s.data.toList.length = s.size := Array.length_toList
        have hm : markErr (scanL s) = 0 := by
          rw [markErr_zero, hl]
          refine ⟨by simp [marks]; omega, List.all_eq_true.2 fun x hx => ?_⟩
          obtain ⟨b, hbm, rfl⟩ := List.mem_map.1 hx
          obtain ⟨x, hx⟩ := hsome b hbm
          rw [hx]
          exact (enc_dec hx).1
        refine ⟨hm, ?_⟩
        unfold textR
        rw [if_pos hm, hl]
        apply ByteArray.ext
        apply Array.toList_inj.1
        show (marks s.data.toList).map encB = _
        unfold marks
        rw [List.map_map]
        conv => rhs; rw [← List.map_id s.data.toList]
        apply List.map_congr_left
        intro b hbm
        obtain ⟨x, hx⟩ := hsome b hbm
        simp [hx, (enc_dec hx).2]

theorem scanL_len (s : ByteArray) : (scanL s).length ≤ 16 := by
  unfold scanL
  split
  · simp
  · split
    · simp
    · have hlen : s.data.toList.length = s.size := Array.length_toList
      simp only [marks, List.length_map]
      omega

/-- too long -/
theorem law12_long (l : List Int) (A : Option Addr) (cap : Nat) (s : ByteArray) (w : World) (h : ¬ (l.length ≤ 60 ∧ s.size ≤ 60)) :
    Calls Tryz.prog 12 #[.slice A l.length cap, .string s] w fun e w' => e = .returned (.bool true) ∧ Below w.heap.size w w' := by
  by_cases hl : l.length ≤ 60
  · have hs : ¬ s.size ≤ 60 := fun e => h ⟨hl, e⟩
    have q1 : decide ((60 : Int) < (l.length : Int)) = false := decide_eq_false (by omega)
    have q2 : decide (60 < l.length) = false := decide_eq_false (by omega)
    have q3 : decide ((60 : Int) < (s.size : Int)) = true := decide_eq_true (by omega)
    have q4 : decide (60 < s.size) = true := decide_eq_true (by omega)
    go_enter Tryz.func12, Tryz.ntmps12
    go_wp2_with (go_at_call 15; refine (head_any _).mono ?_; rintro e w1 ⟨rfl, hb1⟩)
    go_ret
    exact ⟨rfl, hb1⟩
  · have q1 : decide ((60 : Int) < (l.length : Int)) = true := decide_eq_true (by omega)
    have q2 : decide (60 < l.length) = true := decide_eq_true (by omega)
    go_enter Tryz.func12, Tryz.ntmps12
    go_wp2_with (go_at_call 15; refine (head_any _).mono ?_; rintro e w1 ⟨rfl, hb1⟩)
    go_ret
    exact ⟨rfl, hb1⟩
theorem same_self (l : List Int) (A D : Option Addr) (cap dap : Nat) (w : World) (hll : l.length ≤ 1000000) (hr : Ints w w.heap.size A l) (hs : Ints w w.heap.size D l) :
    Calls Tryz.prog 23 #[.slice A l.length cap, .slice D l.length dap] w fun e w' => e = .returned (.bool true) ∧ Below w.heap.size w w' :=
  (same_any l l A D cap dap w hll hll hr hs).mono fun e w' ⟨h1, h2⟩ => ⟨by rw [h1, decide_eq_true rfl], h2⟩

set_option maxRecDepth 100000 in
set_option maxHeartbeats 2000000 in
theorem law12_a (l : List Int) (A : Option Addr) (cap : Nat) (s : ByteArray) (w : World) (hl : l.length ≤ 60) (hs : s.size ≤ 60) (hr : Ints w w.heap.size A l)
    (h1 : markErr l = 0) (h2 : scanE s = 0) :
    Calls Tryz.prog 12 #[.slice A l.length cap, .string s] w fun e w' => e = .returned (.bool true) ∧ Below w.heap.size w w' := by
  have q1 : decide ((60 : Int) < (l.length : Int)) = false := decide_eq_false (by omega)
  have q2 : decide (60 < l.length) = false := decide_eq_false (by omega)
  have q3 : decide ((60 : Int) < (s.size : Int)) = false := decide_eq_false (by omega)
  have q4 : decide (60 < s.size) = false := decide_eq_false (by omega)
  have hll : l.length ≤ 1000000 := by omega
  have hs5 : s.size ≤ 100000 := by omega
  obtain ⟨a1, a2, a3, a4⟩ := text_scan h1
  have HM := Lib.hid h1
  have HT : Hid (textR l = textOf l) := if_pos h1
  have A1 := Lib.hid a1
  have A2 := Lib.hid a2
  have A3 := Lib.hid a3
  have a5 : (textOf l).size ≤ 100000 := by omega
  clear a1 a2 a3 a4 h1
  obtain ⟨L, hL⟩ : ∃ L, L = scanL s := ⟨_, rfl⟩
  obtain ⟨I, hI⟩ : ∃ I, I = scanI s := ⟨_, rfl⟩
  have B1 : Hid (scanL s = L) := hL.symm
  have B3 : Hid (scanI s = I) := hI.symm
  obtain ⟨b1, b2⟩ := scan_text h2
  rw [← hL] at b1 b2
  have B2 := Lib.hid h2
  have C1 := Lib.hid b1
  have C2 := Lib.hid b2
  have hLl : L.length ≤ 1000000 := by have := scanL_len s; rw [hL]; omega
  clear hL hI h2 b1 b2
  go_enter Tryz.func12, Tryz.ntmps12
  go_wp2_with (first
    | (go_at_call 15; refine (head_any _).mono ?_; rintro e w1 ⟨rfl, hb1⟩; have i1 := hr.behind hb1)
    | (go_at_call 23; refine (same_self _ _ _ _ _ _ hll d3 i3).mono ?_; rintro e w4 ⟨rfl, hb4⟩)
    | (go_at_call 29; refine (text_any _ _ _ _ (by first | exact hll | exact hLl) (by first | exact i1 | exact f3)).mono ?_; first | (rw [HT.out, HM.out]; rintro e w2 ⟨rfl, hb2⟩; have i2 := i1.behind hb2) | (rw [C1.out, C2.out]; rintro e w6 ⟨rfl, hb6⟩))
    | (go_at_call 31; refine (scan_any _ (by first | exact hs5 | exact a5) _).mono ?_; first | (rw [A1.out, A2.out, A3.out]; rintro e w3 ⟨D, dap, rfl, d1, d2, d3, hb3⟩; have i3 := i2.behind hb3) | (rw [B1.out, B2.out, B3.out]; rintro e w5 ⟨F5, fap, rfl, f1, f2, f3, hb5⟩)))
  have g5 := below_next (below_next (below_next (below_next hb1 hb1.size hb2) (below_next hb1 hb1.size hb2).size hb3) (below_next (below_next hb1 hb1.size hb2) (below_next hb1 hb1.size hb2).size hb3).size hb4) (below_next (below_next (below_next hb1 hb1.size hb2) (below_next hb1 hb1.size hb2).size hb3) (below_next (below_next hb1 hb1.size hb2) (below_next hb1 hb1.size hb2).size hb3).size hb4).size hb5
  go_ret
  exact ⟨rfl, below_next g5 g5.size hb6⟩
set_option maxRecDepth 100000 in
set_option maxHeartbeats 2000000 in
theorem law12_b (l : List Int) (A : Option Addr) (cap : Nat) (s : ByteArray) (w : World) (hl : l.length ≤ 60) (hs : s.size ≤ 60) (hr : Ints w w.heap.size A l)
    (h1 : markErr l = 0) (h2 : ¬ scanE s = 0) :
    Calls Tryz.prog 12 #[.slice A l.length cap, .string s] w fun e w' => e = .returned (.bool true) ∧ Below w.heap.size w w' := by
  have q1 : decide ((60 : Int) < (l.length : Int)) = false := decide_eq_false (by omega)
  have q2 : decide (60 < l.length) = false := decide_eq_false (by omega)
  have q3 : decide ((60 : Int) < (s.size : Int)) = false := decide_eq_false (by omega)
  have q4 : decide (60 < s.size) = false := decide_eq_false (by omega)
  have hll : l.length ≤ 1000000 := by omega
  have hs5 : s.size ≤ 100000 := by omega
  obtain ⟨a1, a2, a3, a4⟩ := text_scan h1
  have HM := Lib.hid h1
  have HT : Hid (textR l = textOf l) := if_pos h1
  have A1 := Lib.hid a1
  have A2 := Lib.hid a2
  have A3 := Lib.hid a3
  have a5 : (textOf l).size ≤ 100000 := by omega
  clear a1 a2 a3 a4 h1
  obtain ⟨L, hL⟩ : ∃ L, L = scanL s := ⟨_, rfl⟩
  obtain ⟨I, hI⟩ : ∃ I, I = scanI s := ⟨_, rfl⟩
  have B1 : Hid (scanL s = L) := hL.symm
  have B3 : Hid (scanI s = I) := hI.symm
  obtain ⟨F, hF⟩ : ∃ F, F = scanE s := ⟨_, rfl⟩
  rw [← hF] at h2
  have B2 : Hid (scanE s = F) := hF.symm
  have hFn : (F != 0) = true := by simpa using h2
  clear hL hI hF h2
  go_enter Tryz.func12, Tryz.ntmps12
  go_wp2_with (first
    | (go_at_call 15; refine (head_any _).mono ?_; rintro e w1 ⟨rfl, hb1⟩; have i1 := hr.behind hb1)
    | (go_at_call 23; refine (same_self _ _ _ _ _ _ hll d3 i3).mono ?_; rintro e w4 ⟨rfl, hb4⟩)
    | (go_at_call 29; refine (text_any _ _ _ _ (by first | exact hll | exact hLl) (by first | exact i1 | exact f3)).mono ?_; first | (rw [HT.out, HM.out]; rintro e w2 ⟨rfl, hb2⟩; have i2 := i1.behind hb2))
    | (go_at_call 31; refine (scan_any _ (by first | exact hs5 | exact a5) _).mono ?_; first | (rw [A1.out, A2.out, A3.out]; rintro e w3 ⟨D, dap, rfl, d1, d2, d3, hb3⟩; have i3 := i2.behind hb3) | (rw [B1.out, B2.out, B3.out]; rintro e w5 ⟨F5, fap, rfl, f1, f2, f3, hb5⟩)))
  have g5 := below_next (below_next (below_next (below_next hb1 hb1.size hb2) (below_next hb1 hb1.size hb2).size hb3) (below_next (below_next hb1 hb1.size hb2) (below_next hb1 hb1.size hb2).size hb3).size hb4) (below_next (below_next (below_next hb1 hb1.size hb2) (below_next hb1 hb1.size hb2).size hb3) (below_next (below_next hb1 hb1.size hb2) (below_next hb1 hb1.size hb2).size hb3).size hb4).size hb5
  go_ret
  exact ⟨rfl, g5⟩
set_option maxRecDepth 100000 in
set_option maxHeartbeats 2000000 in
theorem law12_c (l : List Int) (A : Option Addr) (cap : Nat) (s : ByteArray) (w : World) (hl : l.length ≤ 60) (hs : s.size ≤ 60) (hr : Ints w w.heap.size A l)
    (h1 : ¬ markErr l = 0) (h2 : scanE s = 0) :
    Calls Tryz.prog 12 #[.slice A l.length cap, .string s] w fun e w' => e = .returned (.bool true) ∧ Below w.heap.size w w' := by
  have q1 : decide ((60 : Int) < (l.length : Int)) = false := decide_eq_false (by omega)
  have q2 : decide (60 < l.length) = false := decide_eq_false (by omega)
  have q3 : decide ((60 : Int) < (s.size : Int)) = false := decide_eq_false (by omega)
  have q4 : decide (60 < s.size) = false := decide_eq_false (by omega)
  have hll : l.length ≤ 1000000 := by omega
  have hs5 : s.size ≤ 100000 := by omega
  obtain ⟨E, hE⟩ : ∃ E, E = markErr l := ⟨_, rfl⟩
  rw [← hE] at h1
  have HM : Hid (markErr l = E) := hE.symm
  have hEn : (E == 0) = false := by simpa using h1
  clear hE h1
  obtain ⟨L, hL⟩ : ∃ L, L = scanL s := ⟨_, rfl⟩
  obtain ⟨I, hI⟩ : ∃ I, I = scanI s := ⟨_, rfl⟩
  have B1 : Hid (scanL s = L) := hL.symm
  have B3 : Hid (scanI s = I) := hI.symm
  obtain ⟨b1, b2⟩ := scan_text h2
  rw [← hL] at b1 b2
  have B2 := Lib.hid h2
  have C1 := Lib.hid b1
  have C2 := Lib.hid b2
  have hLl : L.length ≤ 1000000 := by have := scanL_len s; rw [hL]; omega
  clear hL hI h2 b1 b2
  go_enter Tryz.func12, Tryz.ntmps12
  go_wp2_with (first
    | (go_at_call 15; refine (head_any _).mono ?_; rintro e w1 ⟨rfl, hb1⟩; have i1 := hr.behind hb1)
    | (go_at_call 29; refine (text_any _ _ _ _ (by first | exact hll | exact hLl) (by first | exact i1 | exact f3)).mono ?_; first | (rw [HM.out]; rintro e w2 ⟨rfl, hb2⟩) | (rw [C1.out, C2.out]; rintro e w6 ⟨rfl, hb6⟩))
    | (go_at_call 31; refine (scan_any _ (by first | exact hs5 | exact a5) _).mono ?_; first | (rw [B1.out, B2.out, B3.out]; rintro e w5 ⟨F5, fap, rfl, f1, f2, f3, hb5⟩)))
  have g5 := below_next (below_next hb1 hb1.size hb2) (below_next hb1 hb1.size hb2).size hb5
  go_ret
  exact ⟨rfl, below_next g5 g5.size hb6⟩
set_option maxRecDepth 100000 in
set_option maxHeartbeats 2000000 in
theorem law12_d (l : List Int) (A : Option Addr) (cap : Nat) (s : ByteArray) (w : World) (hl : l.length ≤ 60) (hs : s.size ≤ 60) (hr : Ints w w.heap.size A l)
    (h1 : ¬ markErr l = 0) (h2 : ¬ scanE s = 0) :
    Calls Tryz.prog 12 #[.slice A l.length cap, .string s] w fun e w' => e = .returned (.bool true) ∧ Below w.heap.size w w' := by
  have q1 : decide ((60 : Int) < (l.length : Int)) = false := decide_eq_false (by omega)
  have q2 : decide (60 < l.length) = false := decide_eq_false (by omega)
  have q3 : decide ((60 : Int) < (s.size : Int)) = false := decide_eq_false (by omega)
  have q4 : decide (60 < s.size) = false := decide_eq_false (by omega)
  have hll : l.length ≤ 1000000 := by omega
  have hs5 : s.size ≤ 100000 := by omega
  obtain ⟨E, hE⟩ : ∃ E, E = markErr l := ⟨_, rfl⟩
  rw [← hE] at h1
  have HM : Hid (markErr l = E) := hE.symm
  have hEn : (E == 0) = false := by simpa using h1
  clear hE h1
  obtain ⟨L, hL⟩ : ∃ L, L = scanL s := ⟨_, rfl⟩
  obtain ⟨I, hI⟩ : ∃ I, I = scanI s := ⟨_, rfl⟩
  have B1 : Hid (scanL s = L) := hL.symm
  have B3 : Hid (scanI s = I) := hI.symm
  obtain ⟨F, hF⟩ : ∃ F, F = scanE s := ⟨_, rfl⟩
  rw [← hF] at h2
  have B2 : Hid (scanE s = F) := hF.symm
  have hFn : (F != 0) = true := by simpa using h2
  clear hL hI hF h2
  go_enter Tryz.func12, Tryz.ntmps12
  go_wp2_with (first
    | (go_at_call 15; refine (head_any _).mono ?_; rintro e w1 ⟨rfl, hb1⟩; have i1 := hr.behind hb1)
    | (go_at_call 29; refine (text_any _ _ _ _ (by first | exact hll | exact hLl) (by first | exact i1 | exact f3)).mono ?_; first | (rw [HM.out]; rintro e w2 ⟨rfl, hb2⟩))
    | (go_at_call 31; refine (scan_any _ (by first | exact hs5 | exact a5) _).mono ?_; first | (rw [B1.out, B2.out, B3.out]; rintro e w5 ⟨F5, fap, rfl, f1, f2, f3, hb5⟩)))
  have g5 := below_next (below_next hb1 hb1.size hb2) (below_next hb1 hb1.size hb2).size hb5
  go_ret
  exact ⟨rfl, g5⟩
theorem law12_any (l : List Int) (A : Option Addr) (cap : Nat) (s : ByteArray) (w : World) (hr : Ints w w.heap.size A l) :
    Calls Tryz.prog 12 #[.slice A l.length cap, .string s] w fun e w' => e = .returned (.bool true) ∧ Below w.heap.size w w' := by
  by_cases h : l.length ≤ 60 ∧ s.size ≤ 60
  · by_cases h1 : markErr l = 0 <;> by_cases h2 : scanE s = 0
    · exact law12_a l A cap s w h.1 h.2 hr h1 h2
    · exact law12_b l A cap s w h.1 h.2 hr h1 h2
    · exact law12_c l A cap s w h.1 h.2 hr h1 h2
    · exact law12_d l A cap s w h.1 h.2 hr h1 h2
  · exact law12_long l A cap s w h
end Go.Proofs.YtieclenlldjfjaaGreat
