import Derived.Test.YtnjmkdgglpcfpaaA46
import Derived.Test.YtnjmkdgglpcfpaaA47
namespace Go.Proofs.Ytnjmkdgglpcfpaa
set_option linter.unusedSimpArgs false
set_option linter.unusedVariables false

/-- two rising lists with the same numbers are one -/
theorem rise_ext : ∀ l m : List Int, l.Pairwise (· < ·) → m.Pairwise (· < ·) → (∀ x, x ∈ l ↔ x ∈ m) → l = m
  | [], [], _, _, _ => rfl
  | [], y :: m, _, _, h => absurd ((h y).2 (by simp)) (by simp)
  | x :: l, [], _, _, h => absurd ((h x).1 (by simp)) (by simp)
  | x :: l, y :: m, hl, hm, h => by
    have hl2 := List.pairwise_cons.1 hl
    have hm2 := List.pairwise_cons.1 hm
    have hxy : x = y := by
      have h1 := (h x).1 (by simp)
      have h2 := (h y).2 (by simp)
      rcases List.mem_cons.1 h1 with h1 | h1
      · exact h1
      · rcases List.mem_cons.1 h2 with h2 | h2
        · exact h2.symm
        · have := hl2.1 _ h2
          have := hm2.1 _ h1
          omega
    subst hxy
    rw [rise_ext l m hl2.2 hm2.2 fun z => ?_]
    constructor
    · intro hz
      rcases List.mem_cons.1 ((h z).1 (by simp [hz])) with rfl | h'
      · have := hl2.1 _ hz; omega
      · exact h'
    · intro hz
      rcases List.mem_cons.1 ((h z).2 (by simp [hz])) with rfl | h'
      · have := hm2.1 _ hz; omega
      · exact h'
theorem colsTo_rise (p : Nat → Bool) (n : Nat) : (colsTo p n).Pairwise (· < ·) := by
  unfold colsTo
  rw [List.pairwise_map]
  exact (List.pairwise_lt_range.filter p).imp (by omega)
theorem srt_rise {l : List Int} (h : l.Pairwise (· ≠ ·)) : (srt l).Pairwise (· < ·) := by
  have h1 := srt_sorted l
  have h2 : (srt l).Pairwise (· ≠ ·) := ((srt_perm l).pairwise_iff (fun {a b} hab => fun e => hab e.symm)).2 h
  exact h1.imp₂ (fun a b hab hne => by omega) h2
theorem mod_back {C x y : Int} (h : 0 < C) (h0 : 0 ≤ x) (h1 : x < C) : ((x + y) % C + -y) % C = x := by
  rw [Int.emod_add_emod, show x + y + -y = x by omega]
  exact Int.emod_eq_of_lt h0 h1
theorem turned_same {C R B F : Int} {cl : List Int} (y : Int) (h : Ok C R B F cl) : turnedL C cl y = turnedR C cl y := by
  have k1 := h.c3
  have hm := h.rise.2
  unfold turnedL turnedR
  apply rise_ext
  · refine srt_rise ?_
    rw [List.pairwise_map]
    refine List.Pairwise.imp_of_mem ?_ h.rise.1
    intro a b ha hb hab e
    have h1 := mod_back (y := y) (by omega) (hm a ha).1 (hm a ha).2
    have h2 := mod_back (y := y) (by omega) (hm b hb).1 (hm b hb).2
    rw [e] at h1
    omega
  · exact colsTo_rise _ _
  · intro x
    rw [(srt_perm _).mem_iff, colsTo_mem, List.mem_map]
    constructor
    · rintro ⟨c, hc, rfl⟩
      have h0 := Int.emod_nonneg (c + y) (b := C) (by omega)
      have h1 := Int.emod_lt_of_pos (c + y) (b := C) (by omega)
      obtain ⟨m, hmm⟩ := Int.eq_ofNat_of_zero_le h0
      refine ⟨m, by omega, ?_, hmm⟩
      rw [← hmm, mod_back (by omega) (hm c hc).1 (hm c hc).2]
      simpa using hc
    · rintro ⟨i, hi, hp, rfl⟩
      refine ⟨_, of_decide_eq_true hp, ?_⟩
      have := mod_back (C := C) (x := (i : Int)) (y := -y) (by omega) (by omega) (by omega)
      rwa [Int.neg_neg] at this
theorem rch_same {C B F s c : Int} (h1 : 1 ≤ C) (h7 : 0 ≤ B) (h8 : 0 ≤ F) (h9 : F < C - B) (h3 : 0 ≤ c) (h4 : c < C) : rch C B F s c = decide (c ∈ rchL C B s (B + F + 1).toNat) := by
  unfold rch rchL
  rw [decide_eq_decide, List.mem_map]
  have h0 := Int.emod_nonneg (c + (B - s)) (b := C) (by omega)
  constructor
  · intro h
    obtain ⟨m, hm⟩ := Int.eq_ofNat_of_zero_le h0
    refine ⟨m, List.mem_range.2 (by omega), ?_⟩
    rw [← hm, show s + ((c + (B - s)) % C - B) = (c + (B - s)) % C + -(B - s) by omega, Int.emod_add_emod, show c + (B - s) + -(B - s) = c by omega]
    exact Int.emod_eq_of_lt h3 h4
  · rintro ⟨i, hi, rfl⟩
    have hi := List.mem_range.1 hi
    rw [Int.emod_add_emod, show s + ((i : Int) - B) + (B - s) = i by omega, Int.emod_eq_of_lt (by omega) (by omega)]
    omega
theorem opens_same {C B F c : Int} {cl : List Int} (h1 : 1 ≤ C) (h7 : 0 ≤ B) (h8 : 0 ≤ F) (h9 : F < C - B) (h3 : 0 ≤ c) (h4 : c < C) : opens C B F (isIn cl) c = rstL C B F cl c := by
  unfold opens rstL openL colsTo
  rw [List.filter_map, List.filter_filter]
  congr 2
  funext i
  simp only [Function.comp_apply]
  rw [rch_same h1 h7 h8 h9 h3 h4, Bool.and_comm]
end Go.Proofs.Ytnjmkdgglpcfpaa

namespace Go.Proofs.Ytnjmkdgglpcfpaa
open Go.RowKit

set_option maxRecDepth 100000 in
set_option maxHeartbeats 8000000 in
theorem houses_few (C R B F : Int) (A : Option Addr) (cap : Nat) (cl : List Int) (n : Int) (w : World) (hB : B ≤ 9223372036854775807) (_hcl : cl.length ≤ maxLen) (hr : Ints w w.heap.size A cl) (hf : fewB C cl = true) :
    Calls Try.prog 3 #[.agg #[.int .i64 C, .int .i64 R, .int .i64 B, .int .i64 F, .slice A cl.length cap], .int .i64 n] w fun e w' => e = .returned (.bool true) ∧ Below w.heap.size w w' := by
  have hc130 : cl.length ≤ 1000000 := by have := (of_decide_eq_true hf).2; omega
  have hc63 : cl.length ≤ 9223372036854775807 := by omega
  have HF := Lib.hid hf
  have H16 : Hid (∀ W : World, Ints W W.heap.size A cl → Calls Try.prog 16 #[.agg #[.int .i64 C, .int .i64 R, .int .i64 B, .int .i64 F, .slice A cl.length cap], .int .i64 n] W (fun e w' => e = .returned (.tuple #[.int .i64 (colN C R B F cl n), .int .i64 (holeErr C R B F cl n)]) ∧ Below W.heap.size W w')) := fun W hW => column_any C R B F A cap cl n W hB hc63 hW
  have H17 : Hid (∀ W : World, Ints W W.heap.size A cl → Calls Try.prog 17 #[.agg #[.int .i64 C, .int .i64 R, .int .i64 B, .int .i64 F, .slice A cl.length cap], .int .i64 n] W (fun e w' => e = .returned (.agg #[.int .i64 (colN C R B F cl n), .int .i64 (holeErr C R B F cl n)]) ∧ Below W.heap.size W w')) := fun W hW => refColumn17_any C R B F A cap cl n W hc130 hW
  have H18 : Hid (∀ W : World, Ints W W.heap.size A cl → Calls Try.prog 18 #[.agg #[.int .i64 C, .int .i64 R, .int .i64 B, .int .i64 F, .slice A cl.length cap], .int .i64 n] W (fun e w' => e = .returned (.tuple #[.int .i64 (ringN C R B F cl n), .int .i64 (holeErr C R B F cl n)]) ∧ Below W.heap.size W w')) := fun W hW => ring_any C R B F A cap cl n W hB hc63 hW
  have H19 : Hid (∀ W : World, Ints W W.heap.size A cl → Calls Try.prog 19 #[.agg #[.int .i64 C, .int .i64 R, .int .i64 B, .int .i64 F, .slice A cl.length cap], .int .i64 n] W (fun e w' => e = .returned (.agg #[.int .i64 (ringN C R B F cl n), .int .i64 (holeErr C R B F cl n)]) ∧ Below W.heap.size W w')) := fun W hW => refRing19_any C R B F A cap cl n W hc130 hW
  have H20 : Hid (∀ W : World, Ints W W.heap.size A cl → Calls Try.prog 20 #[.agg #[.int .i64 C, .int .i64 R, .int .i64 B, .int .i64 F, .slice A cl.length cap], .int .i64 n] W (RetInts2 W (if colErr C R B F cl n = 0 then rchL C B n (B + F + 1).toNat else []) (colErr C R B F cl n))) := fun W hW => reaches20_any C R B F A cap cl n W hB hc63 hW
  have H21 : Hid (∀ W : World, Ints W W.heap.size A cl → Calls Try.prog 21 #[.agg #[.int .i64 C, .int .i64 R, .int .i64 B, .int .i64 F, .slice A cl.length cap], .int .i64 n] W (RetIntsE W (if colErr C R B F cl n = 0 then rchL C B n (B + F + 1).toNat else []) (colErr C R B F cl n))) := fun W hW => refReaches21_any C R B F A cap cl n W hc130 hW
  have H22 : Hid (∀ W : World, Ints W W.heap.size A cl → Calls Try.prog 22 #[.agg #[.int .i64 C, .int .i64 R, .int .i64 B, .int .i64 F, .slice A cl.length cap], .int .i64 n] W (RetInts2 W (if colErr C R B F cl n = 0 then opens C B F (isIn cl) n else []) (colErr C R B F cl n))) := fun W hW => stands22_any C R B F A cap cl n W hB hc63 hW
  have hopens : (if colErr C R B F cl n = 0 then rstL C B F cl n else []) = (if colErr C R B F cl n = 0 then opens C B F (isIn cl) n else []) := by
    by_cases he : colErr C R B F cl n = 0
    · obtain ⟨hok, h3, h4⟩ := colErr_zero he
      rw [if_pos he, if_pos he, opens_same (by have := hok.c3; omega) hok.b0 hok.f0 hok.bf h3 h4]
    · rw [if_neg he, if_neg he]
  have H23 : Hid (∀ W : World, Ints W W.heap.size A cl → Calls Try.prog 23 #[.agg #[.int .i64 C, .int .i64 R, .int .i64 B, .int .i64 F, .slice A cl.length cap], .int .i64 n] W (RetIntsE W (if colErr C R B F cl n = 0 then opens C B F (isIn cl) n else []) (colErr C R B F cl n))) := fun W hW => by
    rw [← hopens]
    exact refStands23_any C R B F A cap cl n W hc130 hW
  have H24 : Hid (∀ W : World, Ints W W.heap.size A cl → Calls Try.prog 24 #[.agg #[.int .i64 C, .int .i64 R, .int .i64 B, .int .i64 F, .slice A cl.length cap], .int .i64 n] W (RetHouse W (if turnErr C R B F cl n = 0 then C else 0) (if turnErr C R B F cl n = 0 then R else 0) (if turnErr C R B F cl n = 0 then B else 0) (if turnErr C R B F cl n = 0 then F else 0) (if turnErr C R B F cl n = 0 then turnedL C cl n else []) (turnErr C R B F cl n))) := fun W hW => turned24_any C R B F A cap cl n W hB hc63 hW
  have hturn : (if turnErr C R B F cl n = 0 then turnedR C cl n else []) = (if turnErr C R B F cl n = 0 then turnedL C cl n else []) := by
    by_cases he : turnErr C R B F cl n = 0
    · have hok : Ok C R B F cl := Classical.byContradiction fun h => (turnErr_bad n h).2 he
      rw [if_pos he, if_pos he, turned_same n hok]
    · rw [if_neg he, if_neg he]
  have H25 : Hid (∀ W : World, Ints W W.heap.size A cl → Calls Try.prog 25 #[.agg #[.int .i64 C, .int .i64 R, .int .i64 B, .int .i64 F, .slice A cl.length cap], .int .i64 n] W (RetMade W (if turnErr C R B F cl n = 0 then C else 0) (if turnErr C R B F cl n = 0 then R else 0) (if turnErr C R B F cl n = 0 then B else 0) (if turnErr C R B F cl n = 0 then F else 0) (if turnErr C R B F cl n = 0 then turnedL C cl n else []) (turnErr C R B F cl n))) := fun W hW => by
    rw [← hturn]
    exact refTurned25_any C R B F A cap cl n W hc130 hW
  have H26 : Hid (∀ W : World, Ints W W.heap.size A cl → Calls Try.prog 26 #[.agg #[.int .i64 C, .int .i64 R, .int .i64 B, .int .i64 F, .slice A cl.length cap]] W fun e w' => e = .returned (.int .i64 (chk C R B F cl)) ∧ Below W.heap.size W w') := fun W hW => check_any C R B F A cap cl W hB hc63 hW
  have H27 : Hid (∀ W : World, Ints W W.heap.size A cl → Calls Try.prog 27 #[.agg #[.int .i64 C, .int .i64 R, .int .i64 B, .int .i64 F, .slice A cl.length cap]] W fun e w' => e = .returned (.int .i64 (chk C R B F cl)) ∧ Below W.heap.size W w') := fun W hW => refCheck_any C R B F A cap cl W hc130 hW
  have hl1 : (if colErr C R B F cl n = 0 then rchL C B n (B + F + 1).toNat else []).length ≤ 1000000 := by
    by_cases he : colErr C R B F cl n = 0
    · obtain ⟨hok, _⟩ := colErr_zero he
      rw [if_pos he, rchL_len]
      have := hok.bf
      have := hok.c120
      omega
    · rw [if_neg he]; simp
  have hl2 : (if colErr C R B F cl n = 0 then opens C B F (isIn cl) n else []).length ≤ 1000000 := by
    by_cases he : colErr C R B F cl n = 0
    · obtain ⟨hok, _⟩ := colErr_zero he
      rw [if_pos he]
      have := opens_len (C := C) (B := B) (F := F) (p := isIn cl) (c := n) hok.c120
      omega
    · rw [if_neg he]; simp
  have hl3 : (if turnErr C R B F cl n = 0 then turnedL C cl n else []).length ≤ 1000000 := by
    by_cases he : turnErr C R B F cl n = 0
    · rw [if_pos he]
      unfold turnedL
      rw [srt_len, List.length_map]
      exact hc130
    · rw [if_neg he]; simp
  clear hopens hturn hf
  generalize (if colErr C R B F cl n = 0 then rchL C B n (B + F + 1).toNat else []) = L1 at *
  generalize (if colErr C R B F cl n = 0 then opens C B F (isIn cl) n else []) = L2 at *
  generalize (if turnErr C R B F cl n = 0 then turnedL C cl n else []) = L3 at *
  generalize (if turnErr C R B F cl n = 0 then C else 0) = C1 at *
  generalize (if turnErr C R B F cl n = 0 then R else 0) = R1 at *
  generalize (if turnErr C R B F cl n = 0 then B else 0) = B1 at *
  generalize (if turnErr C R B F cl n = 0 then F else 0) = F1 at *
  generalize colN C R B F cl n = cn at *
  generalize ringN C R B F cl n = rn at *
  generalize holeErr C R B F cl n = he at *
  generalize colErr C R B F cl n = ce at *
  generalize turnErr C R B F cl n = te at *
  generalize chk C R B F cl = ch at *
  have bw0 := below_new w (.cells #[.int .i64 C, .int .i64 R, .int .i64 B, .int .i64 F, .slice A cl.length cap] 24)
  have iA0 := hr.behind bw0
  have kH0 := Blk.new w 24 #[.int .i64 C, .int .i64 R, .int .i64 B, .int .i64 F, .slice A cl.length cap]
  go_enter Try.func3, Try.ntmps3
  go_wp2_with (first
    | (go_at_call 14; refine (few_any C R B F A cap cl _).mono ?_; rw [HF.out]; rintro e w1 ⟨rfl, hb1⟩; have iA1 := iA0.behind hb1; clear iA0; have bw1 := below_next bw0 bw0.size hb1; clear bw0; have kH1 := kH0.below hb1 kH0.lt; clear kH0; obtain ⟨d0, d1, d2, d3, d4⟩ := kH1.five)
    | (go_at_call 16; refine (H16.out _ iA1).mono ?_; rintro e w2 ⟨rfl, hb2⟩; have iA2 := iA1.behind hb2; clear iA1; have bw2 := below_next bw1 bw1.size hb2; clear bw1; have kH2 := kH1.below hb2 kH1.lt; clear kH1; clear d0 d1 d2 d3 d4; obtain ⟨d0, d1, d2, d3, d4⟩ := kH2.five)
    | (go_at_call 17; refine (H17.out _ iA2).mono ?_; rintro e w3 ⟨rfl, hb3⟩; have iA3 := iA2.behind hb3; clear iA2; have bw3 := below_next bw2 bw2.size hb3; clear bw2; have kH3 := kH2.below hb3 kH2.lt; clear kH2; have hn4 := below_new w3 (.cells #[.int .i64 cn, .int .i64 he] 31); have iA4 := iA3.behind hn4; clear iA3; have bw4 := below_next bw3 bw3.size hn4; clear bw3; have kH4 := kH3.below hn4 kH3.lt; clear kH3; have kX4 := Blk.new w3 31 #[.int .i64 cn, .int .i64 he]; clear d0 d1 d2 d3 d4; obtain ⟨d0, d1, d2, d3, d4⟩ := kH4.five)
    | (go_at_call 18; refine (H18.out _ iA4).mono ?_; rintro e w5 ⟨rfl, hb5⟩; have iA5 := iA4.behind hb5; clear iA4; have bw5 := below_next bw4 bw4.size hb5; clear bw4; have kH5 := kH4.below hb5 kH4.lt; clear kH4; have kX5 := kX4.below hb5 kX4.lt; clear kX4; clear d0 d1 d2 d3 d4; obtain ⟨d0, d1, d2, d3, d4⟩ := kH5.five)
    | (go_at_call 19; refine (H19.out _ iA5).mono ?_; rintro e w6 ⟨rfl, hb6⟩; have iA6 := iA5.behind hb6; clear iA5; have bw6 := below_next bw5 bw5.size hb6; clear bw5; have kH6 := kH5.below hb6 kH5.lt; clear kH5; have kX6 := kX5.below hb6 kX5.lt; clear kX5; have hn7 := below_new w6 (.cells #[.int .i64 rn, .int .i64 he] 31); have iA7 := iA6.behind hn7; clear iA6; have bw7 := below_next bw6 bw6.size hn7; clear bw6; have kH7 := kH6.below hn7 kH6.lt; clear kH6; have kX7 := kX6.below hn7 kX6.lt; clear kX6; have kY7 := Blk.new w6 31 #[.int .i64 rn, .int .i64 he]; clear d0 d1 d2 d3 d4; obtain ⟨d0, d1, d2, d3, d4⟩ := kH7.five)
    | (go_at_call 20; refine (H20.out _ iA7).mono ?_; rintro e w8 ⟨S, sap, rfl, s1, s2, iS8, hb8⟩; have iA8 := iA7.behind hb8; clear iA7; have bw8 := below_next bw7 bw7.size hb8; clear bw7; have kH8 := kH7.below hb8 kH7.lt; clear kH7; have kX8 := kX7.below hb8 kX7.lt; clear kX7; have kY8 := kY7.below hb8 kY7.lt; clear kY7; clear d0 d1 d2 d3 d4; obtain ⟨d0, d1, d2, d3, d4⟩ := kH8.five)
    | (go_at_call 21; refine (H21.out _ iA8).mono ?_; rintro e w9 ⟨P, pap, rfl, p1, p2, iP9, hb9⟩; have iA9 := iA8.behind hb9; clear iA8; have bw9 := below_next bw8 bw8.size hb9; clear bw8; have kH9 := kH8.below hb9 kH8.lt; clear kH8; have kX9 := kX8.below hb9 kX8.lt; clear kX8; have kY9 := kY8.below hb9 kY8.lt; clear kY8; have iS9 := iS8.behind hb9; clear iS8; have hn10 := below_new w9 (.cells #[.slice P L1.length pap, .int .i64 ce] 36); have iA10 := iA9.behind hn10; clear iA9; have bw10 := below_next bw9 bw9.size hn10; clear bw9; have kH10 := kH9.below hn10 kH9.lt; clear kH9; have kX10 := kX9.below hn10 kX9.lt; clear kX9; have kY10 := kY9.below hn10 kY9.lt; clear kY9; have iS10 := iS9.behind hn10; clear iS9; have iP10 := iP9.behind hn10; clear iP9; have kZ10 := Blk.new w9 36 #[.slice P L1.length pap, .int .i64 ce]; clear d0 d1 d2 d3 d4; obtain ⟨d0, d1, d2, d3, d4⟩ := kH10.five)
    | (go_at_call 22; refine (H22.out _ iA10).mono ?_; rintro e w11 ⟨U, uap, rfl, u1, u2, iU11, hb11⟩; have iA11 := iA10.behind hb11; clear iA10; have bw11 := below_next bw10 bw10.size hb11; clear bw10; have kH11 := kH10.below hb11 kH10.lt; clear kH10; have kX11 := kX10.below hb11 kX10.lt; clear kX10; have kY11 := kY10.below hb11 kY10.lt; clear kY10; have iS11 := iS10.behind hb11; clear iS10; have iP11 := iP10.behind hb11; clear iP10; have kZ11 := kZ10.below hb11 kZ10.lt; clear kZ10; clear d0 d1 d2 d3 d4; obtain ⟨d0, d1, d2, d3, d4⟩ := kH11.five)
    | (go_at_call 23; refine (H23.out _ iA11).mono ?_; rintro e w12 ⟨V, vap, rfl, v1, v2, iV12, hb12⟩; have iA12 := iA11.behind hb12; clear iA11; have bw12 := below_next bw11 bw11.size hb12; clear bw11; have kH12 := kH11.below hb12 kH11.lt; clear kH11; have kX12 := kX11.below hb12 kX11.lt; clear kX11; have kY12 := kY11.below hb12 kY11.lt; clear kY11; have iS12 := iS11.behind hb12; clear iS11; have iP12 := iP11.behind hb12; clear iP11; have kZ12 := kZ11.below hb12 kZ11.lt; clear kZ11; have iU12 := iU11.behind hb12; clear iU11; have hn13 := below_new w12 (.cells #[.slice V L2.length vap, .int .i64 ce] 36); have iA13 := iA12.behind hn13; clear iA12; have bw13 := below_next bw12 bw12.size hn13; clear bw12; have kH13 := kH12.below hn13 kH12.lt; clear kH12; have kX13 := kX12.below hn13 kX12.lt; clear kX12; have kY13 := kY12.below hn13 kY12.lt; clear kY12; have iS13 := iS12.behind hn13; clear iS12; have iP13 := iP12.behind hn13; clear iP12; have kZ13 := kZ12.below hn13 kZ12.lt; clear kZ12; have iU13 := iU12.behind hn13; clear iU12; have iV13 := iV12.behind hn13; clear iV12; have kV13 := Blk.new w12 36 #[.slice V L2.length vap, .int .i64 ce]; clear d0 d1 d2 d3 d4; obtain ⟨d0, d1, d2, d3, d4⟩ := kH13.five)
    | (go_at_call 24; refine (H24.out _ iA13).mono ?_; rintro e w14 ⟨X, xap, rfl, x1, x2, iX14, hb14⟩; have iA14 := iA13.behind hb14; clear iA13; have bw14 := below_next bw13 bw13.size hb14; clear bw13; have kH14 := kH13.below hb14 kH13.lt; clear kH13; have kX14 := kX13.below hb14 kX13.lt; clear kX13; have kY14 := kY13.below hb14 kY13.lt; clear kY13; have iS14 := iS13.behind hb14; clear iS13; have iP14 := iP13.behind hb14; clear iP13; have kZ14 := kZ13.below hb14 kZ13.lt; clear kZ13; have iU14 := iU13.behind hb14; clear iU13; have iV14 := iV13.behind hb14; clear iV13; have kV14 := kV13.below hb14 kV13.lt; clear kV13; have hn15 := below_new w14 (.cells #[.int .i64 C1, .int .i64 R1, .int .i64 B1, .int .i64 F1, .slice X L3.length xap] 24); have iA15 := iA14.behind hn15; clear iA14; have bw15 := below_next bw14 bw14.size hn15; clear bw14; have kH15 := kH14.below hn15 kH14.lt; clear kH14; have kX15 := kX14.below hn15 kX14.lt; clear kX14; have kY15 := kY14.below hn15 kY14.lt; clear kY14; have iS15 := iS14.behind hn15; clear iS14; have iP15 := iP14.behind hn15; clear iP14; have kZ15 := kZ14.below hn15 kZ14.lt; clear kZ14; have iU15 := iU14.behind hn15; clear iU14; have iV15 := iV14.behind hn15; clear iV14; have kV15 := kV14.below hn15 kV14.lt; clear kV14; have iX15 := iX14.behind hn15; clear iX14; have kT15 := Blk.new w14 24 #[.int .i64 C1, .int .i64 R1, .int .i64 B1, .int .i64 F1, .slice X L3.length xap]; clear d0 d1 d2 d3 d4; obtain ⟨d0, d1, d2, d3, d4⟩ := kH15.five)
    | (go_at_call 25; refine (H25.out _ iA15).mono ?_; rintro e w16 ⟨Y, yap, rfl, y1, y2, iY16, hb16⟩; have iA16 := iA15.behind hb16; clear iA15; have bw16 := below_next bw15 bw15.size hb16; clear bw15; have kH16 := kH15.below hb16 kH15.lt; clear kH15; have kX16 := kX15.below hb16 kX15.lt; clear kX15; have kY16 := kY15.below hb16 kY15.lt; clear kY15; have iS16 := iS15.behind hb16; clear iS15; have iP16 := iP15.behind hb16; clear iP15; have kZ16 := kZ15.below hb16 kZ15.lt; clear kZ15; have iU16 := iU15.behind hb16; clear iU15; have iV16 := iV15.behind hb16; clear iV15; have kV16 := kV15.below hb16 kV15.lt; clear kV15; have iX16 := iX15.behind hb16; clear iX15; have kT16 := kT15.below hb16 kT15.lt; clear kT15; have hn17 := below_new w16 (.cells #[.int .i64 C1, .int .i64 R1, .int .i64 B1, .int .i64 F1, .slice Y L3.length yap, .int .i64 te] 41); have iA17 := iA16.behind hn17; clear iA16; have bw17 := below_next bw16 bw16.size hn17; clear bw16; have kH17 := kH16.below hn17 kH16.lt; clear kH16; have kX17 := kX16.below hn17 kX16.lt; clear kX16; have kY17 := kY16.below hn17 kY16.lt; clear kY16; have iS17 := iS16.behind hn17; clear iS16; have iP17 := iP16.behind hn17; clear iP16; have kZ17 := kZ16.below hn17 kZ16.lt; clear kZ16; have iU17 := iU16.behind hn17; clear iU16; have iV17 := iV16.behind hn17; clear iV16; have kV17 := kV16.below hn17 kV16.lt; clear kV16; have iX17 := iX16.behind hn17; clear iX16; have kT17 := kT16.below hn17 kT16.lt; clear kT16; have iY17 := iY16.behind hn17; clear iY16; have kM17 := Blk.new w16 41 #[.int .i64 C1, .int .i64 R1, .int .i64 B1, .int .i64 F1, .slice Y L3.length yap, .int .i64 te]; clear d0 d1 d2 d3 d4; obtain ⟨d0, d1, d2, d3, d4⟩ := kH17.five)
    | fail)
  clear d0 d1 d2 d3 d4
  obtain ⟨d0, d1, d2, d3, d4⟩ := kH17.five
  have c0 := kX17.cell 0
  have c1 := kX17.cell 1
  have e0 := kY17.cell 0
  have e1 := kY17.cell 1
  go_region_held3 (fun w' => w'.cell? ⟨w.heap.size, 0, none⟩ = some (.int .i64 C) ∧ w'.cell? ⟨w.heap.size, 1, none⟩ = some (.int .i64 R) ∧ w'.cell? ⟨w.heap.size, 2, none⟩ = some (.int .i64 B) ∧ w'.cell? ⟨w.heap.size, 3, none⟩ = some (.int .i64 F) ∧ w'.cell? ⟨w.heap.size, 4, none⟩ = some (.slice A cl.length cap) ∧ w'.cell? ⟨w3.heap.size, 0, none⟩ = some (.int .i64 cn) ∧ w'.cell? ⟨w3.heap.size, 1, none⟩ = some (.int .i64 he) ∧ w'.cell? ⟨w6.heap.size, 0, none⟩ = some (.int .i64 rn) ∧ w'.cell? ⟨w6.heap.size, 1, none⟩ = some (.int .i64 he)) (first | exact K2 | exact K1 | exact ⟨d0, d1, d2, d3, d4, c0, c1, e0, e1⟩)
    (first
      | (go_at_call 26; refine (H26.out _ (by first | exact iA17 | exact iA17.behind (Below.refl _ _).drew)).mono ?_; rintro e w18 ⟨rfl, hb18⟩; have hc18 : Below (w16.alloc (.cells #[.int .i64 C1, .int .i64 R1, .int .i64 B1, .int .i64 F1, .slice Y L3.length yap, .int .i64 te] 41)).heap.size (w16.alloc (.cells #[.int .i64 C1, .int .i64 R1, .int .i64 B1, .int .i64 F1, .slice Y L3.length yap, .int .i64 te] 41)) w18 := (by first | exact hb18 | exact (Below.refl _ _).drew.trans hb18 | exact (Below.refl _ _).drew.drew.trans hb18); have iA18 := iA17.behind hc18; clear iA17; have bw18 := below_next bw17 bw17.size hc18; clear bw17; have kH18 := kH17.below hc18 kH17.lt; clear kH17; have kX18 := kX17.below hc18 kX17.lt; clear kX17; have kY18 := kY17.below hc18 kY17.lt; clear kY17; have iS18 := iS17.behind hc18; clear iS17; have iP18 := iP17.behind hc18; clear iP17; have kZ18 := kZ17.below hc18 kZ17.lt; clear kZ17; have iU18 := iU17.behind hc18; clear iU17; have iV18 := iV17.behind hc18; clear iV17; have kV18 := kV17.below hc18 kV17.lt; clear kV17; have iX18 := iX17.behind hc18; clear iX17; have kT18 := kT17.below hc18 kT17.lt; clear kT17; have iY18 := iY17.behind hc18; clear iY17; have kM18 := kM17.below hc18 kM17.lt; clear kM17; have K1 : w18.cell? ⟨w.heap.size, 0, none⟩ = some (.int .i64 C) ∧ w18.cell? ⟨w.heap.size, 1, none⟩ = some (.int .i64 R) ∧ w18.cell? ⟨w.heap.size, 2, none⟩ = some (.int .i64 B) ∧ w18.cell? ⟨w.heap.size, 3, none⟩ = some (.int .i64 F) ∧ w18.cell? ⟨w.heap.size, 4, none⟩ = some (.slice A cl.length cap) ∧ w18.cell? ⟨w3.heap.size, 0, none⟩ = some (.int .i64 cn) ∧ w18.cell? ⟨w3.heap.size, 1, none⟩ = some (.int .i64 he) ∧ w18.cell? ⟨w6.heap.size, 0, none⟩ = some (.int .i64 rn) ∧ w18.cell? ⟨w6.heap.size, 1, none⟩ = some (.int .i64 he) := (by obtain ⟨d0, d1, d2, d3, d4⟩ := kH18.five; exact ⟨d0, d1, d2, d3, d4, kX18.cell 0, kX18.cell 1, kY18.cell 0, kY18.cell 1⟩))
      | (go_at_call 27; refine (H27.out _ (by first | exact iA18 | exact iA18.behind (Below.refl _ _).drew)).mono ?_; rintro e w19 ⟨rfl, hb19⟩; have hc19 : Below w18.heap.size w18 w19 := (by first | exact hb19 | exact (Below.refl _ _).drew.trans hb19 | exact (Below.refl _ _).drew.drew.trans hb19); have iA19 := iA18.behind hc19; clear iA18; have bw19 := below_next bw18 bw18.size hc19; clear bw18; have kH19 := kH18.below hc19 kH18.lt; clear kH18; have kX19 := kX18.below hc19 kX18.lt; clear kX18; have kY19 := kY18.below hc19 kY18.lt; clear kY18; have iS19 := iS18.behind hc19; clear iS18; have iP19 := iP18.behind hc19; clear iP18; have kZ19 := kZ18.below hc19 kZ18.lt; clear kZ18; have iU19 := iU18.behind hc19; clear iU18; have iV19 := iV18.behind hc19; clear iV18; have kV19 := kV18.below hc19 kV18.lt; clear kV18; have iX19 := iX18.behind hc19; clear iX18; have kT19 := kT18.below hc19 kT18.lt; clear kT18; have iY19 := iY18.behind hc19; clear iY18; have kM19 := kM18.below hc19 kM18.lt; clear kM18; have K2 : w19.cell? ⟨w.heap.size, 0, none⟩ = some (.int .i64 C) ∧ w19.cell? ⟨w.heap.size, 1, none⟩ = some (.int .i64 R) ∧ w19.cell? ⟨w.heap.size, 2, none⟩ = some (.int .i64 B) ∧ w19.cell? ⟨w.heap.size, 3, none⟩ = some (.int .i64 F) ∧ w19.cell? ⟨w.heap.size, 4, none⟩ = some (.slice A cl.length cap) ∧ w19.cell? ⟨w3.heap.size, 0, none⟩ = some (.int .i64 cn) ∧ w19.cell? ⟨w3.heap.size, 1, none⟩ = some (.int .i64 he) ∧ w19.cell? ⟨w6.heap.size, 0, none⟩ = some (.int .i64 rn) ∧ w19.cell? ⟨w6.heap.size, 1, none⟩ = some (.int .i64 he) := (by obtain ⟨d0, d1, d2, d3, d4⟩ := kH19.five; exact ⟨d0, d1, d2, d3, d4, kX19.cell 0, kX19.cell 1, kY19.cell 0, kY19.cell 1⟩)))
  clear d0 d1 d2 d3 d4 c0 c1 e0 e1
  go_wp2_with fail
  go_at_call 15
  refine (sanity_any _).mono ?_
  rintro e w20 ⟨rfl, hb20⟩
  have iA20 := iA19.behind hb20
  clear iA19
  have bw20 := below_next bw19 bw19.size hb20
  clear bw19
  have kH20 := kH19.below hb20 kH19.lt
  clear kH19
  have kX20 := kX19.below hb20 kX19.lt
  clear kX19
  have kY20 := kY19.below hb20 kY19.lt
  clear kY19
  have iS20 := iS19.behind hb20
  clear iS19
  have iP20 := iP19.behind hb20
  clear iP19
  have kZ20 := kZ19.below hb20 kZ19.lt
  clear kZ19
  have iU20 := iU19.behind hb20
  clear iU19
  have iV20 := iV19.behind hb20
  clear iV19
  have kV20 := kV19.below hb20 kV19.lt
  clear kV19
  have iX20 := iX19.behind hb20
  clear iX19
  have kT20 := kT19.below hb20 kT19.lt
  clear kT19
  have iY20 := iY19.behind hb20
  clear iY19
  have kM20 := kM19.below hb20 kM19.lt
  clear kM19
  obtain ⟨z0, z1⟩ := And.intro (kZ20.cell 0) (kZ20.cell 1)
  obtain ⟨v0, v1⟩ := And.intro (kV20.cell 0) (kV20.cell 1)
  obtain ⟨x0, x1, x2, x3, x4⟩ := kT20.five
  have m0 := kM20.cell 0
  have m1 := kM20.cell 1
  have m2 := kM20.cell 2
  have m3 := kM20.cell 3
  have m4 := kM20.cell 4
  have m5 := kM20.cell 5
  go_wp2_with fail
  go_at_call 28
  refine (same_n _ iS20 iP20 rfl rfl hl1 rfl).mono ?_
  rintro e w21 ⟨rfl, hb21⟩
  clear z0 z1 v0 v1 x0 x1 x2 x3 x4 m0 m1 m2 m3 m4 m5
  have iA21 := iA20.behind hb21
  clear iA20
  have bw21 := below_next bw20 bw20.size hb21
  clear bw20
  have kH21 := kH20.below hb21 kH20.lt
  clear kH20
  have kX21 := kX20.below hb21 kX20.lt
  clear kX20
  have kY21 := kY20.below hb21 kY20.lt
  clear kY20
  have iS21 := iS20.behind hb21
  clear iS20
  have iP21 := iP20.behind hb21
  clear iP20
  have kZ21 := kZ20.below hb21 kZ20.lt
  clear kZ20
  have iU21 := iU20.behind hb21
  clear iU20
  have iV21 := iV20.behind hb21
  clear iV20
  have kV21 := kV20.below hb21 kV20.lt
  clear kV20
  have iX21 := iX20.behind hb21
  clear iX20
  have kT21 := kT20.below hb21 kT20.lt
  clear kT20
  have iY21 := iY20.behind hb21
  clear iY20
  have kM21 := kM20.below hb21 kM20.lt
  clear kM20
  obtain ⟨z0, z1⟩ := And.intro (kZ21.cell 0) (kZ21.cell 1)
  obtain ⟨v0, v1⟩ := And.intro (kV21.cell 0) (kV21.cell 1)
  obtain ⟨x0, x1, x2, x3, x4⟩ := kT21.five
  have m0 := kM21.cell 0
  have m1 := kM21.cell 1
  have m2 := kM21.cell 2
  have m3 := kM21.cell 3
  have m4 := kM21.cell 4
  have m5 := kM21.cell 5
  go_wp2_with fail
  go_at_call 28
  refine (same_n _ iU21 iV21 rfl rfl hl2 rfl).mono ?_
  rintro e w22 ⟨rfl, hb22⟩
  clear z0 z1 v0 v1 x0 x1 x2 x3 x4 m0 m1 m2 m3 m4 m5
  have iA22 := iA21.behind hb22
  clear iA21
  have bw22 := below_next bw21 bw21.size hb22
  clear bw21
  have kH22 := kH21.below hb22 kH21.lt
  clear kH21
  have kX22 := kX21.below hb22 kX21.lt
  clear kX21
  have kY22 := kY21.below hb22 kY21.lt
  clear kY21
  have iS22 := iS21.behind hb22
  clear iS21
  have iP22 := iP21.behind hb22
  clear iP21
  have kZ22 := kZ21.below hb22 kZ21.lt
  clear kZ21
  have iU22 := iU21.behind hb22
  clear iU21
  have iV22 := iV21.behind hb22
  clear iV21
  have kV22 := kV21.below hb22 kV21.lt
  clear kV21
  have iX22 := iX21.behind hb22
  clear iX21
  have kT22 := kT21.below hb22 kT21.lt
  clear kT21
  have iY22 := iY21.behind hb22
  clear iY21
  have kM22 := kM21.below hb22 kM21.lt
  clear kM21
  obtain ⟨z0, z1⟩ := And.intro (kZ22.cell 0) (kZ22.cell 1)
  obtain ⟨v0, v1⟩ := And.intro (kV22.cell 0) (kV22.cell 1)
  obtain ⟨x0, x1, x2, x3, x4⟩ := kT22.five
  have m0 := kM22.cell 0
  have m1 := kM22.cell 1
  have m2 := kM22.cell 2
  have m3 := kM22.cell 3
  have m4 := kM22.cell 4
  have m5 := kM22.cell 5
  go_wp2_with fail
  go_at_call 29
  refine (sameHouse_any C1 R1 B1 F1 X xap L3 L3 Y yap _ rfl hl3 iX22 iY22).mono ?_
  rintro e w23 ⟨rfl, hb23⟩
  clear z0 z1 v0 v1 x0 x1 x2 x3 x4 m0 m1 m2 m3 m4 m5
  have iA23 := iA22.behind hb23
  clear iA22
  have bw23 := below_next bw22 bw22.size hb23
  clear bw22
  have kH23 := kH22.below hb23 kH22.lt
  clear kH22
  have kX23 := kX22.below hb23 kX22.lt
  clear kX22
  have kY23 := kY22.below hb23 kY22.lt
  clear kY22
  have iS23 := iS22.behind hb23
  clear iS22
  have iP23 := iP22.behind hb23
  clear iP22
  have kZ23 := kZ22.below hb23 kZ22.lt
  clear kZ22
  have iU23 := iU22.behind hb23
  clear iU22
  have iV23 := iV22.behind hb23
  clear iV22
  have kV23 := kV22.below hb23 kV22.lt
  clear kV22
  have iX23 := iX22.behind hb23
  clear iX22
  have kT23 := kT22.below hb23 kT22.lt
  clear kT22
  have iY23 := iY22.behind hb23
  clear iY22
  have kM23 := kM22.below hb23 kM22.lt
  clear kM22
  obtain ⟨z0, z1⟩ := And.intro (kZ23.cell 0) (kZ23.cell 1)
  obtain ⟨v0, v1⟩ := And.intro (kV23.cell 0) (kV23.cell 1)
  obtain ⟨x0, x1, x2, x3, x4⟩ := kT23.five
  have m0 := kM23.cell 0
  have m1 := kM23.cell 1
  have m2 := kM23.cell 2
  have m3 := kM23.cell 3
  have m4 := kM23.cell 4
  have m5 := kM23.cell 5
  go_wp2_with fail
  go_ret
  exact ⟨ret_bool rfl, bw23⟩

set_option maxRecDepth 100000 in
theorem houses_out (C R B F : Int) (A : Option Addr) (cap : Nat) (cl : List Int) (n : Int) (w : World) (_hB : B ≤ 9223372036854775807) (_hcl : cl.length ≤ maxLen) (_hr : Ints w w.heap.size A cl) (hf : fewB C cl = false) :
    Calls Try.prog 3 #[.agg #[.int .i64 C, .int .i64 R, .int .i64 B, .int .i64 F, .slice A cl.length cap], .int .i64 n] w fun e w' => e = .returned (.bool true) ∧ Below w.heap.size w w' := by
  have HF := Lib.hid hf
  clear hf
  have bw0 := below_new w (.cells #[.int .i64 C, .int .i64 R, .int .i64 B, .int .i64 F, .slice A cl.length cap] 24)
  have kH0 := Blk.new w 24 #[.int .i64 C, .int .i64 R, .int .i64 B, .int .i64 F, .slice A cl.length cap]
  go_enter Try.func3, Try.ntmps3
  go_wp2_with (first
    | (go_at_call 14; refine (few_any C R B F A cap cl _).mono ?_; rw [HF.out]; rintro e w1 ⟨rfl, hb1⟩; have bw1 := below_next bw0 bw0.size hb1; have kH1 := kH0.below hb1 kH0.lt; obtain ⟨d0, d1, d2, d3, d4⟩ := kH1.five)
    | (go_at_call 15; refine (sanity_any _).mono ?_; rintro e w2 ⟨rfl, hb2⟩; have bw2 := below_next bw1 bw1.size hb2; have kH2 := kH1.below hb2 kH1.lt; clear d0 d1 d2 d3 d4; obtain ⟨d0, d1, d2, d3, d4⟩ := kH2.five)
    | fail)
  go_ret
  exact ⟨ret_bool rfl, bw2⟩

theorem houses_any (C R B F : Int) (A : Option Addr) (cap : Nat) (cl : List Int) (n : Int) (w : World) (hB : B ≤ 9223372036854775807) (hcl : cl.length ≤ maxLen) (hr : Ints w w.heap.size A cl) :
    Calls Try.prog 3 #[.agg #[.int .i64 C, .int .i64 R, .int .i64 B, .int .i64 F, .slice A cl.length cap], .int .i64 n] w fun e w' => e = .returned (.bool true) ∧ Below w.heap.size w w' := by
  cases hf : fewB C cl with
  | true => exact houses_few C R B F A cap cl n w hB hcl hr hf
  | false => exact houses_out C R B F A cap cl n w hB hcl hr hf

end Go.Proofs.Ytnjmkdgglpcfpaa

