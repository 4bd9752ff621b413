import Derived.Test.YtnjmkdgglpcfpaaA9
namespace Go.Proofs.Ytnjmkdgglpcfpaa
open Go.RowKit

theorem opens_mem {C B F : Int} {p : Nat → Bool} {c x : Int} (h : x ∈ opens C B F p c) : 0 ≤ x ∧ x < C := by
  obtain ⟨i, hi, _, rfl⟩ := colsTo_mem.1 h
  omega
theorem opens_len {C B F : Int} {p : Nat → Bool} {c : Int} (h : C ≤ 120) : (opens C B F p c).length ≤ 120 := by
  have := colsTo_len (fun s => !p s && rch C B F s c) C.toNat
  unfold opens
  omega
/-- does some open stand reach both? -/
def tog (C B F : Int) (p : Nat → Bool) (a b : Int) : Bool := (opens C B F p a).any fun s => rch C B F s b

/-- how far the farthest open stand is: from n down, k steps left -/
def farN (C : Int) (p : Nat → Bool) (c : Int) : Int → Nat → Int
  | n, 0 => n
  | n, k + 1 => if p ((c + n) % C).toNat then farN C p c (n - 1) k else n
def far (C B F : Int) (p : Nat → Bool) (c : Int) : Int := (c + farN C p c B (B + F).toNat) % C

set_option maxRecDepth 100000 in
set_option maxHeartbeats 400000 in
theorem together_any (C R B F : Int) (sl : Value) (p q : Nat → Bool) (a b : Int) (w : World) (h1 : 1 ≤ C) (h2 : C ≤ 120) (h3 : 0 ≤ a) (h4 : a < C) (h5 : 0 ≤ b) (h6 : b < C) (h7 : 0 ≤ B) (h8 : 0 ≤ F) (h9 : F < C - B) :
    Calls Try.prog 114 #[.agg (sv C R B F sl p q), .int .i64 a, .int .i64 b] w fun e w' => e = .returned (.bool (tog C B F p a b)) ∧ Below w.heap.size w w' := by
  have hblk := Blk.new w 106 (sv C R B F sl p q)
  have hl := opens_len (C := C) (B := B) (F := F) (p := p) (c := a) h2
  have hm : Hid (∀ x ∈ opens C B F p a, 0 ≤ x ∧ x < C) := fun x hx => opens_mem hx
  have ht : Hid (tog C B F p a b = (opens C B F p a).any fun s => rch C B F s b) := rfl
  generalize tog C B F p a b = res at ht
  generalize hO : opens C B F p a = O at hl hm ht
  have HO := Lib.hid hO
  clear hO
  go_enter Try.func114, Try.ntmps114
  go_wp2_with (first
    | (refine wpList_load_row (by rfl) 106 _ (by rfl) _ (by rfl) 106 _ (0, 0) _ hblk Try.underlying106 rfl (info106 _ _ _ _ _ _ _) ?_)
    | (go_at_call 88; refine (sStands_any C R B F sl p q a _ h1 h2 h3 h4 h7 h8 h9).mono ?_; rw [HO.out]; rintro e w1 ⟨A, c', rfl, e1, e2, e3, hb1⟩))
  have hb : Below w.heap.size w w1 := below_next (below_new _ _) (by simp) hb1
  have hblk1 := hblk.below hb1 (by simp)
  have hsz : w.heap.size < w1.heap.size := hblk1.lt
  clear hblk hb1
  go_loopw [8, 13] (fun _ i wr => ∃ k : Nat, k ≤ O.length ∧ i = .int .i64 k ∧ Hid ((O.take k).any (fun s => rch C B F s b) = false) ∧ Below w.heap.size w wr ∧ Below w1.heap.size w1 wr ∧ Blk wr w.heap.size 106 (sv C R B F sl p q))
    (fun _ i _ => O.length - (intOf i).toNat)
  case atStart => exact ⟨0, Nat.zero_le _, rfl, rfl, hb, Below.refl _ _, hblk1⟩
  case round =>
    obtain ⟨k, hk, rfl, hno, hb, hbw, hb0⟩ := hrel
    obtain ⟨d0, d1, d2, d3, d4⟩ := hb0.svFive
    have hlt0 := hb0.lt
    have hz := hbw.size
    by_cases hlt : k < O.length
    · obtain ⟨ad, rfl, hB, hc⟩ := (e3.below hbw).get hlt
      have hx := hm.out _ (List.getElem_mem hlt)
      cases hr : rch C B F O[k] b with
      | true =>
        have hres : Hid (res = true) := by rw [ht.out]; exact List.any_eq_true.2 ⟨_, List.getElem_mem hlt, hr⟩
        have HR := Lib.hid hr
        clear hr hno ht
        go_wp2_with (first
          | (go_at_call 109; refine (reaches_any _ _ _ _ _ _ _ _ h1 h2 h5 h6 hx.1 hx.2 h7 h8 h9).mono ?_; rw [HR.out]; rintro e w2 ⟨rfl, hb2⟩))
        go_ret
        exact ⟨ret_bool hres.out.symm, below_next hb (by omega) hb2⟩
      | false =>
        have hn : Hid ((O.take (k + 1)).any (fun s => rch C B F s b) = false) := by
          unfold Hid
          rw [List.take_succ_eq_append_getElem hlt, List.any_append, hno.out]
          simp [hr]
        have HR := Lib.hid hr
        clear hr hno ht
        go_wp2_with (first
          | (go_at_call 109; refine (reaches_any _ _ _ _ _ _ _ _ h1 h2 h5 h6 hx.1 hx.2 h7 h8 h9).mono ?_; rw [HR.out]; rintro e w2 ⟨rfl, hb2⟩))
        go_roundw
        case rel => exact ⟨k + 1, by omega, by go_num, hn, below_next hb (by omega) hb2, below_next hbw (by omega) hb2, hb0.below hb2 (by omega)⟩
        case measure => simp [intOf]; try omega
    · have hres : Hid (res = false) := by rw [ht.out]; have := hno.out; rwa [List.take_of_length_le (by omega)] at this
      clear ht hno
      go_wp2_with fail
      go_ret
      exact ⟨ret_bool hres.out.symm, hb⟩

set_option maxRecDepth 100000 in
set_option maxHeartbeats 400000 in
theorem farthest_any (C R B F : Int) (sl : Value) (p q : Nat → Bool) (c : Int) (w : World) (h1 : 1 ≤ C) (h2 : C ≤ 120) (h3 : 0 ≤ c) (h4 : c < C) (h7 : 0 ≤ B) (h8 : 0 ≤ F) (h9 : F < C - B) :
    Calls Try.prog 118 #[.agg (sv C R B F sl p q), .int .i64 c] w fun e w' => e = .returned (.int .i64 (far C B F p c)) ∧ Below w.heap.size w w' := by
  have hblk := Blk.new w 106 (sv C R B F sl p q)
  obtain ⟨d0, d1, d2, d3, d4⟩ := hblk.svFive
  unfold far
  generalize hT : farN C p c B (B + F).toNat = T
  have HT := Lib.hid hT
  clear hT
  go_enter Try.func118, Try.ntmps118
  go_wp2_with fail
  clear d0 d1 d2 d3 d4
  go_loopw [5] (fun v wr => ∃ n : Int, ∃ k : Nat, v = .int .i64 n ∧ Hid (n = (k : Int) - F) ∧ n ≤ B ∧ Hid (farN C p c n k = T) ∧ Below w.heap.size w wr ∧ Blk wr w.heap.size 106 (sv C R B F sl p q))
    (fun v _ => (intOf v + F).toNat)
  case atStart => exact ⟨B, (B + F).toNat, rfl, (by unfold Hid; omega), by omega, HT, below_new _ _, hblk⟩
  case round =>
    obtain ⟨n, k, rfl, hn, hnB, hT, hb, hb0⟩ := hrel
    obtain ⟨d0, d1, d2, d3, d4⟩ := hb0.svFive
    have hlt0 := hb0.lt
    have hn' := hn.out
    have hm0 := Int.emod_nonneg (c + n) (b := C) (by omega)
    have hm1 := Int.emod_lt_of_pos (c + n) (b := C) (by omega)
    obtain ⟨m, hm⟩ := Int.eq_ofNat_of_zero_le hm0
    have hm2 : (m : Int) < 120 := by omega
    have hsh := hb0.svShut m (by omega)
    cases k with
    | zero =>
      have hTn : Hid (T = n) := by rw [← hT.out]; rfl
      have hng : n ≤ -F := by omega
      have hng2 : decide (-F < n) = false := by simp; omega
      have hlo : -F ≤ n := by omega
      have HM := Lib.hid hm
      clear hm hm0 hm1 hn hn' hT
      go_wp2_with (first
        | (go_at_call 70; refine (further_any _ _ _ _ _ _ _ _ h1 h2 (by omega) (by omega) (by omega) (by omega)).mono ?_; rintro e w2 ⟨rfl, hb2⟩))
      go_ret
      exact ⟨ret_int (by rw [hTn.out]), below_next hb (by omega) hb2⟩
    | succ k =>
      have hng : -F < n := by omega
      cases hp : p m with
      | true =>
        have hTn : Hid (farN C p c (n - 1) k = T) := by
          have := hT.out
          rw [farN, hm, Int.toNat_natCast, hp] at this
          exact this
        have hnn : Hid (n - 1 = (k : Int) - F) := by unfold Hid; omega
        rw [hp] at hsh
        have HM := Lib.hid hm
        clear hm hm0 hm1 hn hn' hT hp
        go_wp2_with (first
          | (go_at_call 70; refine (further_any _ _ _ _ _ _ _ _ h1 h2 (by omega) (by omega) (by omega) (by omega)).mono ?_; rw [HM.out]; rintro e w2 ⟨rfl, hb2⟩; obtain ⟨q1, q2⟩ := bcell hb2))
        go_roundw
        case rel => exact ⟨n - 1, k, rfl, hnn, by omega, hTn, below_next hb (by omega) hb2, hb0.below hb2 (by omega)⟩
        case measure => simp [intOf]; try omega
      | false =>
        have hTn : Hid (T = n) := by
          rw [← hT.out, farN, hm, Int.toNat_natCast, hp]
          rfl
        rw [hp] at hsh
        have HM := Lib.hid hm
        clear hm hm0 hm1 hn hn' hT hp
        go_wp2_with (first
          | (go_at_call 70; refine (further_any _ _ _ _ _ _ _ _ h1 h2 (by omega) (by omega) (by omega) (by omega)).mono ?_; rw [HM.out]; rintro e w2 ⟨rfl, hb2⟩; obtain ⟨q1, q2⟩ := bcell hb2; have hb := below_next hb (Nat.le_of_lt hlt0) hb2; have hlt0 := Nat.lt_of_lt_of_le hlt0 hb2.size))
        go_ret
        exact ⟨ret_int (by rw [hTn.out, HM.out]), hb⟩

end Go.Proofs.Ytnjmkdgglpcfpaa
