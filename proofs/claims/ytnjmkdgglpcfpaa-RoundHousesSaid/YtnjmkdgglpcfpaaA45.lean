import Derived.Test.YtnjmkdgglpcfpaaA44
namespace Go.Proofs.Ytnjmkdgglpcfpaa
set_option linter.unusedSimpArgs false
set_option linter.unusedVariables false
open Go.RowKit

theorem Blk.fz5 {w : World} {g : Nat} {t : TypeId} {a b c d e : Value} (h : Blk w g t #[a, b, c, d, e]) :
    w.frozen? ⟨g, 0, none⟩ = false ∧ w.frozen? ⟨g, 1, none⟩ = false ∧ w.frozen? ⟨g, 2, none⟩ = false ∧ w.frozen? ⟨g, 3, none⟩ = false ∧ w.frozen? ⟨g, 4, none⟩ = false :=
  ⟨h.frozen 0, h.frozen 1, h.frozen 2, h.frozen 3, h.frozen 4⟩
/-- the error of 'Turned' -/
def turnErr (C R B F : Int) (cl : List Int) (y : Int) : Int := if chk C R B F cl ≠ 0 then chk C R B F cl else if -120 ≤ y ∧ y ≤ 120 then 0 else 1
theorem turnErr_bad {C R B F : Int} {cl : List Int} (y : Int) (h : ¬ Ok C R B F cl) : turnErr C R B F cl y = chk C R B F cl ∧ turnErr C R B F cl y ≠ 0 := by
  have h0 : chk C R B F cl ≠ 0 := fun e => h (chk_ok.1 e)
  have h1 : turnErr C R B F cl y = chk C R B F cl := if_pos h0
  exact ⟨h1, by rw [h1]; exact h0⟩
theorem turnErr_ok {C R B F : Int} {cl : List Int} (y : Int) (h : Ok C R B F cl) : turnErr C R B F cl y = if -120 ≤ y ∧ y ≤ 120 then 0 else 1 := if_neg fun e => e (chk_ok.2 h)
/-- the closed stands of a house that is turned -/
def turnedL (C : Int) (cl : List Int) (y : Int) : List Int := srt (cl.map fun c => (c + y) % C)
/-- what is handed back: a house and an error -/
def RetHouse (w : World) (C R B F : Int) (l : List Int) (er : Int) (e : Ending) (w' : World) : Prop :=
  ∃ A c, e = .returned (.tuple #[.agg #[.int .i64 C, .int .i64 R, .int .i64 B, .int .i64 F, .slice A l.length c], .int .i64 er]) ∧ l.length ≤ c ∧ c ≤ maxLen ∧ Ints w' w'.heap.size A l ∧ Below w.heap.size w w'
/-- k numbers, and zeros behind them -/
def part (l : List Int) (m : Nat) : Array Value := (l.map (Value.int .i64) ++ List.replicate m (Value.int .i64 0)).toArray
theorem part_set (l : List Int) (m : Nat) (x : Int) : (part l (m + 1)).setIfInBounds l.length (.int .i64 x) = part (l ++ [x]) m := by
  unfold part
  rw [List.setIfInBounds_toArray]
  congr 1
  rw [List.set_append_right _ _ (by simp)]
  simp [List.replicate_succ]
theorem part_get (l : List Int) (m : Nat) : (part l (m + 1))[l.length]? = some (.int .i64 0) := by
  unfold part
  simp [List.getElem?_append_right, List.replicate_succ]
theorem own_part {w : World} {g base : Nat} {l : List Int} (h : Blk w g 3 (part l 0)) (hb : base ≤ g) (hm : l.length ≤ maxLen) : w.ownsRow base 3 1 (.slice (some ⟨g, 0, none⟩) l.length l.length) l.length (l.map (Value.int .i64)) := by
  refine ⟨by simp, .inr ⟨g, l.length, part l 0, rfl, hb, h, Nat.le_refl _, hm, by simp [part], ?_⟩⟩
  simp [part, List.take_of_length_le]

set_option maxRecDepth 100000 in
set_option maxHeartbeats 2000000 in
theorem turned24_any (C R B F : Int) (A : Option Addr) (cap : Nat) (cl : List Int) (y : Int) (w : World) (hB : B ≤ 9223372036854775807) (hcl : cl.length ≤ 9223372036854775807) (hr : Ints w w.heap.size A cl) :
    Calls Try.prog 24 #[.agg #[.int .i64 C, .int .i64 R, .int .i64 B, .int .i64 F, .slice A cl.length cap], .int .i64 y] w (RetHouse w (if turnErr C R B F cl y = 0 then C else 0) (if turnErr C R B F cl y = 0 then R else 0) (if turnErr C R B F cl y = 0 then B else 0) (if turnErr C R B F cl y = 0 then F else 0) (if turnErr C R B F cl y = 0 then turnedL C cl y else []) (turnErr C R B F cl y)) := by
  have hb0 : Below w.heap.size w ((w.alloc (.cells #[.int .i64 C, .int .i64 R, .int .i64 B, .int .i64 F, .slice A cl.length cap] 24)).alloc (.cells #[.int .i64 0, .int .i64 0, .int .i64 0, .int .i64 0, .slice none 0 0] 24)) := (below_new w (.cells #[.int .i64 C, .int .i64 R, .int .i64 B, .int .i64 F, .slice A cl.length cap] 24)).alloc (by simp) _
  have hbk : Blk ((w.alloc (.cells #[.int .i64 C, .int .i64 R, .int .i64 B, .int .i64 F, .slice A cl.length cap] 24)).alloc (.cells #[.int .i64 0, .int .i64 0, .int .i64 0, .int .i64 0, .slice none 0 0] 24)) w.heap.size 24 #[.int .i64 C, .int .i64 R, .int .i64 B, .int .i64 F, .slice A cl.length cap] := (Blk.new _ _ _).alloc _
  have hbq : Blk ((w.alloc (.cells #[.int .i64 C, .int .i64 R, .int .i64 B, .int .i64 F, .slice A cl.length cap] 24)).alloc (.cells #[.int .i64 0, .int .i64 0, .int .i64 0, .int .i64 0, .slice none 0 0] 24)) (w.heap.size + 1) 24 #[.int .i64 0, .int .i64 0, .int .i64 0, .int .i64 0, .slice none 0 0] := Blk.newAt (by simp)
  have hr1 := hr.behind hb0
  by_cases hok : Ok C R B F cl
  case neg =>
    obtain ⟨n1, n2⟩ := chk_ne hok
    obtain ⟨he, hne⟩ := turnErr_bad y hok
    rw [if_neg hne, if_neg hne, if_neg hne, if_neg hne, if_neg hne, he]
    clear hok he hne
    go_enter Try.func24, Try.ntmps24
    go_wp2_with (first
      | (go_at_call 26; refine (check_any C R B F A cap cl _ hB hcl hr1).mono ?_; rintro e w1 ⟨rfl, hb1⟩; have hbq1 := hbq.below hb1 (by simp); obtain ⟨m0, m1, m2, m3, m4⟩ := hbq1.five; obtain ⟨m5, m6, m7, m8, m9⟩ := hbq1.fz5))
    refine bodyPost_ret (results_cell2 (g := w.heap.size + 1) rfl _ _ 24 _ (0, 0) _ rfl (((((hbq1.store 0 (.int .i64 0)).store 1 (.int .i64 0)).store 2 (.int .i64 0)).store 3 (.int .i64 0)).store 4 (.slice none 0 0)) Try.underlying24 rfl (info24 _ _ _ _ _)) rfl ?_
    exact ⟨none, 0, rfl, Nat.le_refl _, by simp [maxLen], Ints.nil, ((((((below_next hb0 (by simp; omega) hb1).setCell (p := ⟨w.heap.size + 1, 0, none⟩) (by simp) _).setCell (p := ⟨w.heap.size + 1, 1, none⟩) (by simp) _).setCell (p := ⟨w.heap.size + 1, 2, none⟩) (by simp) _).setCell (p := ⟨w.heap.size + 1, 3, none⟩) (by simp) _).setCell (p := ⟨w.heap.size + 1, 4, none⟩) (by simp) _)⟩
  case pos =>
  have hz : Hid (chk C R B F cl = 0) := chk_ok.2 hok
  have k1 := hok.c3
  have k2 := hok.c120
  have hte := turnErr_ok y hok
  by_cases hy : -120 ≤ y ∧ y ≤ 120
  case neg =>
    rw [if_neg hy] at hte
    have hne : ¬ turnErr C R B F cl y = 0 := by rw [hte]; decide
    rw [if_neg hne, if_neg hne, if_neg hne, if_neg hne, if_neg hne, hte]
    clear hok hte hne
    by_cases hy1 : y < -120
    · have e1 : decide (y < -120) = true := decide_eq_true hy1
      go_enter Try.func24, Try.ntmps24
      go_wp2_with (first
        | (go_at_call 26; refine (check_any C R B F A cap cl _ hB hcl hr1).mono ?_; rw [hz.out]; rintro e w1 ⟨rfl, hb1⟩; have hbq1 := hbq.below hb1 (by simp); obtain ⟨m0, m1, m2, m3, m4⟩ := hbq1.five; obtain ⟨m5, m6, m7, m8, m9⟩ := hbq1.fz5))
      refine bodyPost_ret (results_cell2 (g := w.heap.size + 1) rfl _ _ 24 _ (0, 0) _ rfl (((((hbq1.store 0 (.int .i64 0)).store 1 (.int .i64 0)).store 2 (.int .i64 0)).store 3 (.int .i64 0)).store 4 (.slice none 0 0)) Try.underlying24 rfl (info24 _ _ _ _ _)) rfl ?_
      exact ⟨none, 0, rfl, Nat.le_refl _, by simp [maxLen], Ints.nil, ((((((below_next hb0 (by simp; omega) hb1).setCell (p := ⟨w.heap.size + 1, 0, none⟩) (by simp) _).setCell (p := ⟨w.heap.size + 1, 1, none⟩) (by simp) _).setCell (p := ⟨w.heap.size + 1, 2, none⟩) (by simp) _).setCell (p := ⟨w.heap.size + 1, 3, none⟩) (by simp) _).setCell (p := ⟨w.heap.size + 1, 4, none⟩) (by simp) _)⟩
    · have e1 : decide (y < -120) = false := decide_eq_false hy1
      have e2 : decide ((120 : Int) < y) = true := decide_eq_true (by omega)
      have e3 : (120 : Int) < y := by omega
      go_enter Try.func24, Try.ntmps24
      go_wp2_with (first
        | (go_at_call 26; refine (check_any C R B F A cap cl _ hB hcl hr1).mono ?_; rw [hz.out]; rintro e w1 ⟨rfl, hb1⟩; have hbq1 := hbq.below hb1 (by simp); obtain ⟨m0, m1, m2, m3, m4⟩ := hbq1.five; obtain ⟨m5, m6, m7, m8, m9⟩ := hbq1.fz5))
      refine bodyPost_ret (results_cell2 (g := w.heap.size + 1) rfl _ _ 24 _ (0, 0) _ rfl (((((hbq1.store 0 (.int .i64 0)).store 1 (.int .i64 0)).store 2 (.int .i64 0)).store 3 (.int .i64 0)).store 4 (.slice none 0 0)) Try.underlying24 rfl (info24 _ _ _ _ _)) rfl ?_
      exact ⟨none, 0, rfl, Nat.le_refl _, by simp [maxLen], Ints.nil, ((((((below_next hb0 (by simp; omega) hb1).setCell (p := ⟨w.heap.size + 1, 0, none⟩) (by simp) _).setCell (p := ⟨w.heap.size + 1, 1, none⟩) (by simp) _).setCell (p := ⟨w.heap.size + 1, 2, none⟩) (by simp) _).setCell (p := ⟨w.heap.size + 1, 3, none⟩) (by simp) _).setCell (p := ⟨w.heap.size + 1, 4, none⟩) (by simp) _)⟩
  case pos =>
    rw [if_pos hy] at hte
    rw [if_pos hte, if_pos hte, if_pos hte, if_pos hte, if_pos hte, hte]
    have k6 := hok.len
    have hM : Hid (∀ x ∈ cl, 0 ≤ x ∧ x < C) := hok.rise.2
    have e1 : decide (y < -120) = false := decide_eq_false (by omega)
    have e2 : decide ((120 : Int) < y) = false := decide_eq_false (by omega)
    have e3 : ¬ (120 : Int) < y := by omega
    have e4 : ¬ y < -120 := by omega
    obtain ⟨y1, y2⟩ := hy
    generalize htl : turnedL C cl y = tl
    have HTL : Hid (srt (cl.map fun c => (c + y) % C) = tl) := htl
    clear hok hte htl
    obtain ⟨i0, hi, hz0, hz1, hz2⟩ := info_parts int_info
    go_enter Try.func24, Try.ntmps24
    go_wp2_with (first
      | (go_at_call 26; refine (check_any C R B F A cap cl _ hB hcl hr1).mono ?_; rw [hz.out]; rintro e w1 ⟨rfl, hb1⟩; have hbq1 := hbq.below hb1 (by simp); have hbk1 := hbk.below hb1 (by simp; omega); obtain ⟨d0, d1, d2, d3, d4⟩ := hbk1.five)
      | (at_make; refine wpList_make_full _ rfl _ _ 22 rfl w1.heap.size 3 i0 (.int .i64 0) 1 Try.underlying22 hi hz0 hz1 .i64 .i64 (cl.length : Int) (cl.length : Int) cl.length rfl rfl rfl rfl (by rw [hz2]; omega) (by simp only [maxLen]; omega) (Nat.le_refl _) ?_; intro w2 hown2 hgr2; have hb2 : Below w1.heap.size w1 w2 := (Below.refl _ _).grown hgr2 (Nat.le_refl _) (fun k hk => (by cases hk)); have hbk2 := hbk1.below hb2 hbk1.lt; clear d0 d1 d2 d3 d4; obtain ⟨d0, d1, d2, d3, d4⟩ := hbk2.five))
    have hB2 : Blk w2 w1.heap.size 3 (part [] cl.length) := by
      rcases hown2.2 with ⟨hv, _⟩ | ⟨g, cap', cur, hv, _, hg, _, _, h3, h4⟩
      · cases hv
      · cases hv
        have e5 : cur = part [] cl.length := by
          rw [List.take_of_length_le (by simp; omega)] at h4
          apply Array.toList_inj.1
          rw [h4]
          simp [part, toList_madeCells_one, Value.cells]
        rw [← e5]
        exact hg
    have hlt1 := hbk1.lt
    have hltq := hbq1.lt
    have hba : Below w.heap.size w w1 := (below_next hb0 (by simp; omega) hb1)
    clear hown2 hgr2 hb1 hb0 hbk hbq hr1 hi hz0 hz1 hz2
    clear d0 d1 d2 d3 d4
    go_loopw [8, 9, 30] (fun _ _ i wr => ∃ k : Nat, k ≤ cl.length ∧ i = .int .i64 k ∧ Below w1.heap.size w1 wr ∧ Blk wr w1.heap.size 3 (part ((cl.take k).map fun c => (c + y) % C) (cl.length - k)))
      (fun _ _ i _ => cl.length - (intOf i).toNat)
    case atStart => exact ⟨0, Nat.zero_le _, rfl, hb2, hB2⟩
    case round =>
      obtain ⟨k, hk, rfl, hb, hP⟩ := hrel
      have hbw := below_next hba hba.size hb
      have hbkr := hbk1.below hb hlt1
      have hzr := hb.size
      have hgl := hP.lt
      obtain ⟨d0, d1, d2, d3, d4⟩ := hbkr.five
      by_cases hlt : k < cl.length
      · obtain ⟨ad, hA, hadb, hce⟩ := (hr.below hbw).get hlt
        subst hA
        have hlt2 : (k : Int) < (cl.length : Int) := by omega
        have hx := hM.out _ (List.getElem_mem hlt)
        have hS : Hid ((cl.take (k + 1)).map (fun c => (c + y) % C) = (cl.take k).map (fun c => (c + y) % C) ++ [(cl[k] + y) % C]) := by
          unfold Hid; rw [List.take_succ_eq_append_getElem hlt, List.map_append]; rfl
        have hLk : Hid (((cl.take k).map fun c => (c + y) % C).length = k) := by unfold Hid; simp; omega
        have hNk : Hid (cl.length - k = (cl.length - (k + 1)) + 1) := by unfold Hid; omega
        generalize (cl.take k).map (fun c => (c + y) % C) = lk at *
        generalize cl[k] = x at *
        rw [hNk.out] at hP
        go_wp2_with (first
          | (go_at_call 70; refine (further_any C R B F _ x y _ (by omega) k2 (by omega) (by omega) (by omega) (by omega)).mono ?_; rintro e w3 ⟨rfl, hb3⟩; have hP3 := hP.below hb3 hgl; have c1 : w3.cell? ⟨w1.heap.size, k, none⟩ = some (.int .i64 0) := (by rw [hP3.cell, ← hLk.out]; exact part_get _ _); have c2 : w3.frozen? ⟨w1.heap.size, k, none⟩ = false := hP3.frozen k))
        go_roundw
        case rel =>
          refine ⟨k + 1, by omega, by go_num, ((hb.trans (hb3.mono hzr)).setCell (p := ⟨w1.heap.size, k, none⟩) (Nat.le_refl _) _), ?_⟩
          have h5 := hP3.store k (.int .i64 ((x + y) % C))
          rw [hS.out]
          have h6 : (part lk (cl.length - (k + 1) + 1)).setIfInBounds k (.int .i64 ((x + y) % C)) = part (lk ++ [(x + y) % C]) (cl.length - (k + 1)) := by
            have := part_set lk (cl.length - (k + 1)) ((x + y) % C)
            rwa [hLk.out] at this
          rw [h6] at h5
          exact h5
        case measure => simp [intOf]; try omega
      · have ek : cl.take k = cl := List.take_of_length_le (by omega)
        have e0 : cl.length - k = 0 := by omega
        rw [ek, e0] at hP
        clear ek e0
        have hLen : Hid ((cl.map fun c => (c + y) % C).length = cl.length) := by unfold Hid; simp
        generalize (cl.map fun c => (c + y) % C) = lk at *
        have hown := own_part hP (base := w1.heap.size) (Nat.le_refl _) (by rw [hLen.out]; simp only [maxLen]; omega)
        have hsort := sort_any.out w1.heap.size (some ⟨w1.heap.size, 0, none⟩) lk.length lk wr hzr (by rw [hLen.out]; omega) hown
        rw [hLen.out, HTL.out] at hsort
        have hTl : Hid (tl.length = cl.length) := by unfold Hid; rw [← HTL.out, srt_len, hLen.out]
        have HSO := Lib.hid hsort
        clear hsort hown
        have hbqr := hbq1.below hb hltq
        go_wp2_with (first
          | (go_at_call 71; refine HSO.out.mono ?_; rintro e w5 ⟨rfl, hown5, hb5⟩; have hbk5 := hbkr.below hb5 hlt1; have hbq5 := hbqr.below hb5 hltq; clear d0 d1 d2 d3 d4; obtain ⟨d0, d1, d2, d3, d4⟩ := hbk5.five; obtain ⟨d5, d6, d7, d8, d9⟩ := hbk5.fz5; obtain ⟨m0, m1, m2, m3, m4⟩ := hbq5.five; obtain ⟨m5, m6, m7, m8, m9⟩ := hbq5.fz5))
        rw [← hTl.out] at hown5
        obtain ⟨s1, s2, _⟩ := own_facts hown5
        refine bodyPost_ret (results_cell2 (g := w.heap.size + 1) rfl _ _ 24 _ (0, 0) _ rfl ((((((hbq5.far (p := ⟨w.heap.size, 4, none⟩) (by simp) _).store 0 (.int .i64 C)).store 1 (.int .i64 R)).store 2 (.int .i64 B)).store 3 (.int .i64 F)).store 4 _) Try.underlying24 rfl (info24 _ _ _ _ _)) rfl ?_
        refine ⟨some ⟨w1.heap.size, 0, none⟩, tl.length, ?_, s1, s2, Ints.of_own (ownsRow_setCell_below (ownsRow_setCell_below (ownsRow_setCell_below (ownsRow_setCell_below (ownsRow_setCell_below (ownsRow_setCell_below hown5 (a := ⟨w.heap.size, 4, none⟩) (show w.heap.size < w1.heap.size by omega) _) (a := ⟨w.heap.size + 1, 0, none⟩) (show w.heap.size + 1 < w1.heap.size by omega) _) (a := ⟨w.heap.size + 1, 1, none⟩) (show w.heap.size + 1 < w1.heap.size by omega) _) (a := ⟨w.heap.size + 1, 2, none⟩) (show w.heap.size + 1 < w1.heap.size by omega) _) (a := ⟨w.heap.size + 1, 3, none⟩) (show w.heap.size + 1 < w1.heap.size by omega) _) (a := ⟨w.heap.size + 1, 4, none⟩) (show w.heap.size + 1 < w1.heap.size by omega) _), (((((((hbw.trans (hb5.mono (by have := hba.size; omega))).setCell (p := ⟨w.heap.size, 4, none⟩) (by simp) _).setCell (p := ⟨w.heap.size + 1, 0, none⟩) (by simp) _).setCell (p := ⟨w.heap.size + 1, 1, none⟩) (by simp) _).setCell (p := ⟨w.heap.size + 1, 2, none⟩) (by simp) _).setCell (p := ⟨w.heap.size + 1, 3, none⟩) (by simp) _).setCell (p := ⟨w.heap.size + 1, 4, none⟩) (by simp) _)⟩
        rw [hTl.out]
        rfl

end Go.Proofs.Ytnjmkdgglpcfpaa
