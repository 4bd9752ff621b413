import Derived.Test.YtnjmkdgglpcfpaaA45
namespace Go.Proofs.Ytnjmkdgglpcfpaa
set_option linter.unusedSimpArgs false
set_option linter.unusedVariables false
open Go.RowKit

theorem Blk.six {w : World} {g : Nat} {t : TypeId} {a b c d e f : Value} (h : Blk w g t #[a, b, c, d, e, f]) :
    w.cell? ⟨g, 0, none⟩ = some a ∧ w.cell? ⟨g, 1, none⟩ = some b ∧ w.cell? ⟨g, 2, none⟩ = some c ∧ w.cell? ⟨g, 3, none⟩ = some d ∧ w.cell? ⟨g, 4, none⟩ = some e ∧ w.cell? ⟨g, 5, none⟩ = some f :=
  ⟨h.cell 0, h.cell 1, h.cell 2, h.cell 3, h.cell 4, h.cell 5⟩
theorem Blk.fz6 {w : World} {g : Nat} {t : TypeId} {a b c d e f : Value} (h : Blk w g t #[a, b, c, d, e, f]) :
    w.frozen? ⟨g, 0, none⟩ = false ∧ w.frozen? ⟨g, 1, none⟩ = false ∧ w.frozen? ⟨g, 2, none⟩ = false ∧ w.frozen? ⟨g, 3, none⟩ = false ∧ w.frozen? ⟨g, 4, none⟩ = false ∧ w.frozen? ⟨g, 5, none⟩ = false :=
  ⟨h.frozen 0, h.frozen 1, h.frozen 2, h.frozen 3, h.frozen 4, h.frozen 5⟩
theorem info41 {a b c d e f : Value} : (Try.prog.info? 41).map (·.size) = some #[a, b, c, d, e, f].size := by
  show _ = some 6
  kernel_rfl
/-- what the reference hands back: a house with an error -/
def RetMade (w : World) (C R B F : Int) (l : List Int) (er : Int) (e : Ending) (w' : World) : Prop :=
  ∃ A c, e = .returned (.agg #[.int .i64 C, .int .i64 R, .int .i64 B, .int .i64 F, .slice A l.length c, .int .i64 er]) ∧ l.length ≤ c ∧ c ≤ maxLen ∧ Ints w' w'.heap.size A l ∧ Below w.heap.size w w'
/-- the closed stands of a turned house, as the reference finds them -/
def turnedR (C : Int) (cl : List Int) (y : Int) : List Int := colsTo (fun c => decide (((c : Int) + -y) % C ∈ cl)) C.toNat

set_option maxRecDepth 100000 in
set_option maxHeartbeats 800000 in
theorem refTurned25_any (C R B F : Int) (A : Option Addr) (cap : Nat) (cl : List Int) (y : Int) (w : World) (hcl : cl.length ≤ 1000000) (hr : Ints w w.heap.size A cl) :
    Calls Try.prog 25 #[.agg #[.int .i64 C, .int .i64 R, .int .i64 B, .int .i64 F, .slice A cl.length cap], .int .i64 y] w (RetMade w (if turnErr C R B F cl y = 0 then C else 0) (if turnErr C R B F cl y = 0 then R else 0) (if turnErr C R B F cl y = 0 then B else 0) (if turnErr C R B F cl y = 0 then F else 0) (if turnErr C R B F cl y = 0 then turnedR C cl y else []) (turnErr C R B F cl y)) := by
  have hb0 : Below w.heap.size w ((w.alloc (.cells #[.int .i64 C, .int .i64 R, .int .i64 B, .int .i64 F, .slice A cl.length cap] 24)).alloc (.cells #[.int .i64 0, .int .i64 0, .int .i64 0, .int .i64 0, .slice none 0 0, .int .i64 0] 41)) := (below_new w (.cells #[.int .i64 C, .int .i64 R, .int .i64 B, .int .i64 F, .slice A cl.length cap] 24)).alloc (by simp) _
  have hbk : Blk ((w.alloc (.cells #[.int .i64 C, .int .i64 R, .int .i64 B, .int .i64 F, .slice A cl.length cap] 24)).alloc (.cells #[.int .i64 0, .int .i64 0, .int .i64 0, .int .i64 0, .slice none 0 0, .int .i64 0] 41)) w.heap.size 24 #[.int .i64 C, .int .i64 R, .int .i64 B, .int .i64 F, .slice A cl.length cap] := (Blk.new _ _ _).alloc _
  have hbq : Blk ((w.alloc (.cells #[.int .i64 C, .int .i64 R, .int .i64 B, .int .i64 F, .slice A cl.length cap] 24)).alloc (.cells #[.int .i64 0, .int .i64 0, .int .i64 0, .int .i64 0, .slice none 0 0, .int .i64 0] 41)) (w.heap.size + 1) 41 #[.int .i64 0, .int .i64 0, .int .i64 0, .int .i64 0, .slice none 0 0, .int .i64 0] := Blk.newAt (by simp)
  have hr1 := hr.behind hb0
  by_cases hok : Ok C R B F cl
  case neg =>
    obtain ⟨n1, n2⟩ := chk_ne hok
    obtain ⟨he, hne⟩ := turnErr_bad y hok
    rw [if_neg hne, if_neg hne, if_neg hne, if_neg hne, if_neg hne, he]
    clear hok he hne
    go_enter Try.func25, Try.ntmps25
    go_wp2_with (first
      | (go_at_call 27; refine (refCheck_any C R B F A cap cl _ hcl hr1).mono ?_; rintro e w1 ⟨rfl, hb1⟩; have hbq1 := hbq.below hb1 (by simp); obtain ⟨m0, m1, m2, m3, m4, m5⟩ := hbq1.six; obtain ⟨m6, m7, m8, m9, m10, m11⟩ := hbq1.fz6))
    refine bodyPost_ret (v := .agg #[.int .i64 0, .int .i64 0, .int .i64 0, .int .i64 0, .slice none 0 0, .int .i64 (chk C R B F cl)]) (results_cell_row (g := w.heap.size + 1) rfl _ _ 41 _ (0, 0) _ rfl ((((((hbq1.store 0 (.int .i64 0)).store 1 (.int .i64 0)).store 2 (.int .i64 0)).store 3 (.int .i64 0)).store 4 (.slice none 0 0)).store 5 (.int .i64 (chk C R B F cl))) Try.underlying41 rfl info41) rfl ?_
    exact ⟨none, 0, rfl, Nat.le_refl _, by simp [maxLen], Ints.nil, (((((((below_next hb0 (by simp; omega) hb1).setCell (p := ⟨w.heap.size + 1, 0, none⟩) (by simp) _).setCell (p := ⟨w.heap.size + 1, 1, none⟩) (by simp) _).setCell (p := ⟨w.heap.size + 1, 2, none⟩) (by simp) _).setCell (p := ⟨w.heap.size + 1, 3, none⟩) (by simp) _).setCell (p := ⟨w.heap.size + 1, 4, none⟩) (by simp) _).setCell (p := ⟨w.heap.size + 1, 5, none⟩) (by simp) _)⟩
  case pos =>
  have hz : Hid (chk C R B F cl = 0) := chk_ok.2 hok
  have k1 := hok.c3
  have k2 := hok.c120
  have hte := turnErr_ok y hok
  by_cases hy : -120 ≤ y ∧ y ≤ 120
  case neg =>
    rw [if_neg hy] at hte
    have hne : ¬ turnErr C R B F cl y = 0 := by rw [hte]; decide
    rw [if_neg hne, if_neg hne, if_neg hne, if_neg hne, if_neg hne, hte]
    have D1 : Hid (decide (-120 ≤ y ∧ y ≤ 120) = false) := decide_eq_false hy
    clear hok hte hne hy
    go_enter Try.func25, Try.ntmps25
    go_wp2_with (first
      | (go_at_call 27; refine (refCheck_any C R B F A cap cl _ hcl hr1).mono ?_; rw [hz.out]; rintro e w1 ⟨rfl, hb1⟩; have hbq1 := hbq.below hb1 (by simp); obtain ⟨m0, m1, m2, m3, m4, m5⟩ := hbq1.six; obtain ⟨m6, m7, m8, m9, m10, m11⟩ := hbq1.fz6)
      | (go_at_call 61; refine (in_any _ _ _ _).mono ?_; rw [D1.out]; rintro e w2 ⟨rfl, rfl⟩))
    refine bodyPost_ret (v := .agg #[.int .i64 0, .int .i64 0, .int .i64 0, .int .i64 0, .slice none 0 0, .int .i64 1]) (results_cell_row (g := w.heap.size + 1) rfl _ _ 41 _ (0, 0) _ rfl ((((((hbq1.store 0 (.int .i64 0)).store 1 (.int .i64 0)).store 2 (.int .i64 0)).store 3 (.int .i64 0)).store 4 (.slice none 0 0)).store 5 (.int .i64 1)) Try.underlying41 rfl info41) rfl ?_
    exact ⟨none, 0, rfl, Nat.le_refl _, by simp [maxLen], Ints.nil, (((((((below_next hb0 (by simp; omega) hb1).setCell (p := ⟨w.heap.size + 1, 0, none⟩) (by simp) _).setCell (p := ⟨w.heap.size + 1, 1, none⟩) (by simp) _).setCell (p := ⟨w.heap.size + 1, 2, none⟩) (by simp) _).setCell (p := ⟨w.heap.size + 1, 3, none⟩) (by simp) _).setCell (p := ⟨w.heap.size + 1, 4, none⟩) (by simp) _).setCell (p := ⟨w.heap.size + 1, 5, none⟩) (by simp) _)⟩
  case pos =>
    rw [if_pos hy] at hte
    rw [if_pos hte, if_pos hte, if_pos hte, if_pos hte, if_pos hte, hte]
    have k6 := hok.len
    have D1 : Hid (decide (-120 ≤ y ∧ y ≤ 120) = true) := decide_eq_true hy
    obtain ⟨y1, y2⟩ := hy
    obtain ⟨n, rfl⟩ := Int.eq_ofNat_of_zero_le (show 0 ≤ C by omega)
    generalize htl : turnedR n cl y = tl
    have HTL : Hid (colsTo (fun c => decide (((c : Int) + -y) % (n : Int) ∈ cl)) n = tl) := by unfold Hid; rw [← htl]; rfl
    generalize hp : (fun c : Nat => decide (((c : Int) + -y) % (n : Int) ∈ cl)) = pu at HTL
    have HP : Hid (∀ c : Nat, pu c = decide (((c : Int) + -y) % (n : Int) ∈ cl)) := fun c => by rw [← hp]
    clear hok hte htl hp
    go_enter Try.func25, Try.ntmps25
    go_wp2_with (first
      | (go_at_call 27; refine (refCheck_any n R B F A cap cl _ hcl hr1).mono ?_; rw [hz.out]; rintro e w1 ⟨rfl, hb1⟩; have hbq1 := hbq.below hb1 (by simp); have hbk1 := hbk.below hb1 (by simp; omega))
      | (go_at_call 61; refine (in_any _ _ _ _).mono ?_; rw [D1.out]; rintro e w2 ⟨rfl, rfl⟩))
    have hlt1 := hbk1.lt
    have hltq := hbq1.lt
    have hba : Below w.heap.size w w1 := (below_next hb0 (by simp; omega) hb1)
    clear hb1 hb0 hbk hbq hr1
    go_loopw [6, 7, 8] (fun v i _ wr => ∃ k : Nat, ∃ A' c', k ≤ n ∧ i = .int .i64 k ∧ v = .slice A' (colsTo pu k).length c' ∧ Below w1.heap.size w1 wr ∧ wr.ownsRow w1.heap.size 3 1 (.slice A' (colsTo pu k).length c') (colsTo pu k).length ((colsTo pu k).map (Value.int .i64)))
      (fun _ i _ _ => n - (intOf i).toNat)
    case atStart => exact ⟨0, none, 0, Nat.zero_le _, rfl, rfl, Below.refl _ _, World.ownsRow_nil _ _ _ _⟩
    case round =>
      obtain ⟨k, A', c', hk, rfl, rfl, hb, hown⟩ := hrel
      have hbw := below_next hba hba.size hb
      have hbkr := hbk1.below hb hlt1
      have hbqr := hbq1.below hb hltq
      have hltr := hbkr.lt
      have hzr := hb.size
      obtain ⟨d0, d1, d2, d3, d4⟩ := hbkr.five
      have hrw : Ints wr wr.heap.size A cl := (hr.below hbw).more hbw.size
      have hln := colsTo_len pu k
      by_cases hlt : k < n
      · cases hf : decide (((k : Int) + -y) % (n : Int) ∈ cl) with
        | true =>
          have HD := Lib.hid hf
          have HY := Lib.hid (colsTo_yes ((HP.out k).trans hf))
          clear hf
          go_wp2_with fail
          have hw1 : IntKind.i64.wrap (-y) = -y := IntWalk.i64_in _ (by omega)
          go_region_held3 (fun w' => w'.cell? ⟨w.heap.size, 0, none⟩ = some (.int .i64 n) ∧ w'.cell? ⟨w.heap.size, 1, none⟩ = some (.int .i64 R) ∧ w'.cell? ⟨w.heap.size, 2, none⟩ = some (.int .i64 B) ∧ w'.cell? ⟨w.heap.size, 3, none⟩ = some (.int .i64 F) ∧ w'.cell? ⟨w.heap.size, 4, none⟩ = some (.slice A cl.length cap)) (first | exact K1 | exact ⟨d0, d1, d2, d3, d4⟩)
            (first
              | (go_at_call 73; refine (refFurther_any n R B F _ k (-y) _ (by omega) k2 (by omega) (by omega) (by omega) (by omega)).mono ?_; rintro e w3 ⟨rfl, hb3⟩; obtain ⟨q1, q2⟩ := bcell hb3; have K1 : w3.cell? ⟨w.heap.size, 0, none⟩ = some (.int .i64 n) ∧ w3.cell? ⟨w.heap.size, 1, none⟩ = some (.int .i64 R) ∧ w3.cell? ⟨w.heap.size, 2, none⟩ = some (.int .i64 B) ∧ w3.cell? ⟨w.heap.size, 3, none⟩ = some (.int .i64 F) ∧ w3.cell? ⟨w.heap.size, 4, none⟩ = some (.slice A cl.length cap) := ⟨(q1 _ _ hltr).trans d0, (q1 _ _ hltr).trans d1, (q1 _ _ hltr).trans d2, (q1 _ _ hltr).trans d3, (q1 _ _ hltr).trans d4⟩; have hrw3 : Ints w3 w3.heap.size A cl := hrw.behind ((Below.refl _ _).drew.trans hb3))
              | (go_at_call 72; refine (has_any cl _ _ _ _ (by omega) hrw3).mono ?_; rw [HD.out]; rintro e w4 ⟨rfl, rfl⟩))
          clear hw1
          have hb5 : Below wr.heap.size wr w3 := (Below.refl _ _).drew.trans hb3
          have hz5 := hb5.size
          go_wp2_with (at_builtin; refine app1 (by rfl) _ _ (by rfl) w1.heap.size (colsTo pu k) k _ (by rfl) (own_below hown hb5) (by rfl) (by omega) (by omega) ?_; intro A6 c6 w6 hown6 hb6)
          go_roundw
          case rel => exact ⟨k + 1, A6, c6, by omega, by go_num, by rw [HY.out]; simp, (below_next hb hzr hb5).trans hb6, by rw [HY.out]; exact hown6⟩
          case measure => simp [intOf]; try omega
        | false =>
          have HD := Lib.hid hf
          have HY := Lib.hid (colsTo_no ((HP.out k).trans hf))
          clear hf
          go_wp2_with fail
          have hw1 : IntKind.i64.wrap (-y) = -y := IntWalk.i64_in _ (by omega)
          go_region_held3 (fun w' => w'.cell? ⟨w.heap.size, 0, none⟩ = some (.int .i64 n) ∧ w'.cell? ⟨w.heap.size, 1, none⟩ = some (.int .i64 R) ∧ w'.cell? ⟨w.heap.size, 2, none⟩ = some (.int .i64 B) ∧ w'.cell? ⟨w.heap.size, 3, none⟩ = some (.int .i64 F) ∧ w'.cell? ⟨w.heap.size, 4, none⟩ = some (.slice A cl.length cap)) (first | exact K1 | exact ⟨d0, d1, d2, d3, d4⟩)
            (first
              | (go_at_call 73; refine (refFurther_any n R B F _ k (-y) _ (by omega) k2 (by omega) (by omega) (by omega) (by omega)).mono ?_; rintro e w3 ⟨rfl, hb3⟩; obtain ⟨q1, q2⟩ := bcell hb3; have K1 : w3.cell? ⟨w.heap.size, 0, none⟩ = some (.int .i64 n) ∧ w3.cell? ⟨w.heap.size, 1, none⟩ = some (.int .i64 R) ∧ w3.cell? ⟨w.heap.size, 2, none⟩ = some (.int .i64 B) ∧ w3.cell? ⟨w.heap.size, 3, none⟩ = some (.int .i64 F) ∧ w3.cell? ⟨w.heap.size, 4, none⟩ = some (.slice A cl.length cap) := ⟨(q1 _ _ hltr).trans d0, (q1 _ _ hltr).trans d1, (q1 _ _ hltr).trans d2, (q1 _ _ hltr).trans d3, (q1 _ _ hltr).trans d4⟩; have hrw3 : Ints w3 w3.heap.size A cl := hrw.behind ((Below.refl _ _).drew.trans hb3))
              | (go_at_call 72; refine (has_any cl _ _ _ _ (by omega) hrw3).mono ?_; rw [HD.out]; rintro e w4 ⟨rfl, rfl⟩))
          clear hw1
          have hb5 : Below wr.heap.size wr w3 := (Below.refl _ _).drew.trans hb3
          go_wp2_with fail
          go_roundw
          case rel => exact ⟨k + 1, A', c', by omega, by go_num, by rw [HY.out], below_next hb hzr hb5, by rw [HY.out]; exact own_below hown hb5⟩
          case measure => simp [intOf]; try omega
      · obtain rfl : k = n := by omega
        rw [HTL.out] at hown hln ⊢
        obtain ⟨s1, s2, _⟩ := own_facts hown
        clear d0 d1 d2 d3 d4
        obtain ⟨d0, d1, d2, d3, d4⟩ := hbkr.five
        obtain ⟨d5, d6, d7, d8, d9⟩ := hbkr.fz5
        obtain ⟨m0, m1, m2, m3, m4, m5⟩ := hbqr.six
        obtain ⟨m6, m7, m8, m9, m10, m11⟩ := hbqr.fz6
        go_wp2_with fail
        refine bodyPost_ret (v := .agg #[.int .i64 k, .int .i64 R, .int .i64 B, .int .i64 F, .slice A' tl.length c', .int .i64 0]) (results_cell_row (g := w.heap.size + 1) rfl _ _ 41 _ (0, 0) _ rfl (((((((hbqr.far (p := ⟨w.heap.size, 4, none⟩) (by simp) _).store 0 (.int .i64 k)).store 1 (.int .i64 R)).store 2 (.int .i64 B)).store 3 (.int .i64 F)).store 4 (.slice A' tl.length c')).store 5 (.int .i64 0)) Try.underlying41 rfl info41) rfl ?_
        exact ⟨A', c', rfl, s1, s2, Ints.of_own (ownsRow_setCell_below (ownsRow_setCell_below (ownsRow_setCell_below (ownsRow_setCell_below (ownsRow_setCell_below (ownsRow_setCell_below (ownsRow_setCell_below hown (a := ⟨w.heap.size, 4, none⟩) (show w.heap.size < w1.heap.size by omega) _) (a := ⟨w.heap.size + 1, 0, none⟩) (show w.heap.size + 1 < w1.heap.size by omega) _) (a := ⟨w.heap.size + 1, 1, none⟩) (show w.heap.size + 1 < w1.heap.size by omega) _) (a := ⟨w.heap.size + 1, 2, none⟩) (show w.heap.size + 1 < w1.heap.size by omega) _) (a := ⟨w.heap.size + 1, 3, none⟩) (show w.heap.size + 1 < w1.heap.size by omega) _) (a := ⟨w.heap.size + 1, 4, none⟩) (show w.heap.size + 1 < w1.heap.size by omega) _) (a := ⟨w.heap.size + 1, 5, none⟩) (show w.heap.size + 1 < w1.heap.size by omega) _), (((((((hbw.setCell (p := ⟨w.heap.size, 4, none⟩) (by simp) _).setCell (p := ⟨w.heap.size + 1, 0, none⟩) (by simp) _).setCell (p := ⟨w.heap.size + 1, 1, none⟩) (by simp) _).setCell (p := ⟨w.heap.size + 1, 2, none⟩) (by simp) _).setCell (p := ⟨w.heap.size + 1, 3, none⟩) (by simp) _).setCell (p := ⟨w.heap.size + 1, 4, none⟩) (by simp) _).setCell (p := ⟨w.heap.size + 1, 5, none⟩) (by simp) _)⟩

end Go.Proofs.Ytnjmkdgglpcfpaa
