import Derived.Test.YtnjmkdgglpcfpaaD14
namespace Go.Proofs.Ytnjmkdgglpcfpaa
set_option linter.unusedSimpArgs false
set_option linter.unusedVariables false
open Go.RowKit

set_option maxRecDepth 100000 in
set_option maxHeartbeats 8000000 in
theorem moreLaw_m1 (C R B F : Int) (A : Option Addr) (cap : Nat) (cl : List Int) (D : Option Addr) (dap : Nat) (l : List Int) (E : Option Addr) (eap : Nat) (m : List Int) (x : Int) (w : World) (hB : B ≤ 9223372036854775807) (hcl : cl.length ≤ maxLen) (hll : l.length ≤ maxLen) (hml : m.length ≤ maxLen) (hr : Ints w w.heap.size A cl) (hl : Ints w w.heap.size D l) (hm : Ints w w.heap.size E m) (h30 : l.length ≤ 30) (h30m : m.length ≤ 30) (hs : someB C R B F cl l = true) (N1 N2 N3 N4 : Nat) (M : Nat → Nat) (sv cs : List Int)
    (hsl : sv.length ≤ 1000000) (hcsl : cs.length ≤ 120) (hN : N1 ≤ 1000 ∧ N2 ≤ 1000 ∧ N3 ≤ 1000 ∧ N4 ≤ 1000)
    (C1 : ∀ W : World, Ints W W.heap.size A cl → Ints W W.heap.size D l → Calls Try.prog 37 #[.agg #[.int .i64 C, .int .i64 R, .int .i64 B, .int .i64 F, .slice A cl.length cap], .slice D l.length dap] W fun e w' => e = .returned (.tuple #[.int .i64 (N1 : Nat), .int .i64 0]) ∧ Below W.heap.size W w')
    (C2 : ∀ W : World, Ints W W.heap.size A cl → Ints W W.heap.size E m → Calls Try.prog 37 #[.agg #[.int .i64 C, .int .i64 R, .int .i64 B, .int .i64 F, .slice A cl.length cap], .slice E m.length eap] W fun e w' => e = .returned (.tuple #[.int .i64 (N2 : Nat), .int .i64 0]) ∧ Below W.heap.size W w')
    (C3 : ∀ (X : Option Addr) (xap : Nat) (W : World), Ints W W.heap.size A cl → Ints W W.heap.size X (l ++ m) → Calls Try.prog 37 #[.agg #[.int .i64 C, .int .i64 R, .int .i64 B, .int .i64 F, .slice A cl.length cap], .slice X (l.length + m.length) xap] W fun e w' => e = .returned (.tuple #[.int .i64 (N3 : Nat), .int .i64 0]) ∧ Below W.heap.size W w')
    (C4 : ∀ (X : Option Addr) (xap : Nat) (W : World), Ints W W.heap.size A cl → Ints W W.heap.size X (l ++ [x]) → Calls Try.prog 37 #[.agg #[.int .i64 C, .int .i64 R, .int .i64 B, .int .i64 F, .slice A cl.length cap], .slice X (l.length + 1) xap] W fun e w' => e = .returned (.tuple #[.int .i64 (N4 : Nat), .int .i64 1]) ∧ Below W.heap.size W w')
    (CS : ∀ (X : Option Addr) (xap : Nat) (W : World), Ints W W.heap.size A cl → Ints W W.heap.size X (l ++ m) → Calls Try.prog 47 #[.agg #[.int .i64 C, .int .i64 R, .int .i64 B, .int .i64 F, .slice A cl.length cap], .slice X (l.length + m.length) xap] W (RetInts2 W sv 0))
    (CC : ∀ (X : Option Addr) (xap : Nat) (W : World), Ints W W.heap.size A cl → Ints W W.heap.size X (l ++ m) → Calls Try.prog 30 #[.agg #[.int .i64 C, .int .i64 R, .int .i64 B, .int .i64 F, .slice A cl.length cap], .slice X (l.length + m.length) xap] W (RetInts2 W cs 0))
    (C5 : ∀ (k : Nat), k < cs.length → ∀ (X : Option Addr) (xap : Nat) (W : World), Ints W W.heap.size A cl → Ints W W.heap.size X (lessOf cs k) → Calls Try.prog 37 #[.agg #[.int .i64 C, .int .i64 R, .int .i64 B, .int .i64 F, .slice A cl.length cap], .slice X (k + (cs.length - (k + 1))) xap] W fun e w' => e = .returned (.tuple #[.int .i64 (M k : Nat), .int .i64 0]) ∧ Below W.heap.size W w')
    (hc1 : N1 ≤ N3) (hc2 : N2 ≤ N3) (hc3 : N3 ≤ N1 + N2) (hM : ∀ (k : Nat) (hk : k < cs.length), M k ≤ N3 ∧ N3 ≤ M k + 1 ∧ (M k + 1 = N3 ↔ cs[k] ∈ sv))
    (h4 : True) :
    Calls Try.prog 10 #[.agg #[.int .i64 C, .int .i64 R, .int .i64 B, .int .i64 F, .slice A cl.length cap], .slice D l.length dap, .slice E m.length eap, .int .i64 x] w fun e w' => e = .returned (.bool true) ∧ Below w.heap.size w w' := by
  have hc63 : cl.length ≤ 9223372036854775807 := Nat.le_trans hcl (by decide)
  have bw0 := below_new w (.cells #[.int .i64 C, .int .i64 R, .int .i64 B, .int .i64 F, .slice A cl.length cap] 24)
  have kH0 := Blk.new w 24 #[.int .i64 C, .int .i64 R, .int .i64 B, .int .i64 F, .slice A cl.length cap]
  have iA0 := hr.behind bw0
  have iD0 := hl.behind bw0
  have iE0 := hm.behind bw0
  obtain ⟨d0, d1, d2, d3, d4⟩ := kH0.five
  have q1 : ¬ (30 : Int) < (l.length : Int) := by omega
  have q2 : decide ((30 : Int) < (l.length : Int)) = false := decide_eq_false q1
  have g1 : ¬ (30 : Int) < (m.length : Int) := by omega
  have g2 : decide ((30 : Int) < (m.length : Int)) = false := decide_eq_false g1
  have HS := Lib.hid hs
  have a1 : ¬ (N3 : Int) < (N1 : Int) := by omega
  have a2 : decide ((N3 : Int) < (N1 : Int)) = false := decide_eq_false a1
  have a3 : ¬ (N3 : Int) < (N2 : Int) := by omega
  have a4 : decide ((N3 : Int) < (N2 : Int)) = false := decide_eq_false a3
  have a5 : ¬ (N1 : Int) + (N2 : Int) < (N3 : Int) := by omega
  have a6 : decide ((N1 : Int) + (N2 : Int) < (N3 : Int)) = false := decide_eq_false a5
  have a7 : IntKind.i64.wrap ((N1 : Int) + (N2 : Int)) = (N1 : Int) + (N2 : Int) := IntWalk.i64_in _ (by omega)
  have a8 : IntKind.i64.wrap ((N1 : Int) + 1) = (N1 : Int) + 1 := IntWalk.i64_in _ (by omega)
  have H1 := Lib.hid C1
  have H2 := Lib.hid C2
  have H3 := Lib.hid C3
  have H4 := Lib.hid C4
  have HSV := Lib.hid CS
  have HCC := Lib.hid CC
  have H5 := Lib.hid C5
  have HMM := Lib.hid hM
  have HH4 := Lib.hid h4
  clear hs C1 C2 C3 C4 CS CC C5 hM hc1 hc2 hc3 h4
  go_enter Try.func10, Try.ntmps10
  go_wp2_with (first
    | (refine wpList_load_rowG (by rfl) 24 _ (by rfl) _ (by rfl) 24 _ (0, 0) _ kH0 Try.underlying24 rfl (info24 _ _ _ _ _) ?_)
    | (go_at_call 55; refine (some_any C R B F A cap cl D dap l _ hB hc63 iA0).mono ?_; rw [HS.out]; rintro e w1 ⟨rfl, hb1⟩; have bw1 := below_next bw0 bw0.size hb1; clear bw0; have kH1 := kH0.below hb1 kH0.lt; clear kH0; have iA1 := iA0.behind hb1; clear iA0; have iD1 := iD0.behind hb1; clear iD0; have iE1 := iE0.behind hb1; clear iE0; clear d0 d1 d2 d3 d4; obtain ⟨d0, d1, d2, d3, d4⟩ := kH1.five)
    | (at_builtin; have hn2 : Below w1.heap.size w1 (w1.alloc (.cells #[] 3)) := below_new w1 _; have hoe : (w1.alloc (.cells #[] 3)).ownsRow w1.heap.size 3 1 (.slice (some ⟨w1.heap.size, 0, none⟩) ([] : List Int).length 0) ([] : List Int).length (([] : List Int).map (Value.int .i64)) := own_empty (Blk.new w1 3 #[]) (Nat.le_refl _); refine appL (by rfl) _ _ (by rfl) (by rfl) w1.heap.size [] l _ D dap _ (by rfl) hoe (by rfl) (iD1.behind hn2) (by simp) (by omega) (by simp) ?_; intro X1 c1 w3 hown3 hb3'; have hb3 : Below w1.heap.size w1 w3 := hn2.trans hb3'; rw [List.nil_append] at hown3)
    | (at_builtin; refine appL (by rfl) _ _ (by rfl) (by rfl) w1.heap.size l m _ E eap _ (by rfl) hown3 (by rfl) (iE1.behind hb3) (by omega) (by omega) hb3.size ?_; intro X2 c2 w4 hown4 hb4'; have hb4 : Below w1.heap.size w1 w4 := hb3.trans hb4'; have bw4 := below_next bw1 bw1.size hb4; clear bw1; have kH4 := kH1.below hb4 kH1.lt; clear kH1; have iA4 := iA1.behind hb4; clear iA1; have iD4 := iD1.behind hb4; clear iD1; have iE4 := iE1.behind hb4; clear iE1; have iX4 := Ints.of_own hown4; clear d0 d1 d2 d3 d4; obtain ⟨d0, d1, d2, d3, d4⟩ := kH4.five)
    | (go_at_call 37; refine (H1.out _ iA4 iD4).mono ?_; rintro e w5 ⟨rfl, hb5⟩; have bw5 := below_next bw4 bw4.size hb5; clear bw4; have kH5 := kH4.below hb5 kH4.lt; clear kH4; have iA5 := iA4.behind hb5; clear iA4; have iD5 := iD4.behind hb5; clear iD4; have iE5 := iE4.behind hb5; clear iE4; have iX5 := iX4.behind hb5; clear iX4; clear d0 d1 d2 d3 d4; obtain ⟨d0, d1, d2, d3, d4⟩ := kH5.five)
    | (go_at_call 37; refine (H2.out _ iA5 iE5).mono ?_; rintro e w6 ⟨rfl, hb6⟩; have bw6 := below_next bw5 bw5.size hb6; clear bw5; have kH6 := kH5.below hb6 kH5.lt; clear kH5; have iA6 := iA5.behind hb6; clear iA5; have iD6 := iD5.behind hb6; clear iD5; have iE6 := iE5.behind hb6; clear iE5; have iX6 := iX5.behind hb6; clear iX5; clear d0 d1 d2 d3 d4; obtain ⟨d0, d1, d2, d3, d4⟩ := kH6.five)
    | (go_at_call 37; refine (H3.out X2 c2 _ iA6 iX6).mono ?_; rintro e w7 ⟨rfl, hb7⟩; have bw7 := below_next bw6 bw6.size hb7; clear bw6; have kH7 := kH6.below hb7 kH6.lt; clear kH6; have iA7 := iA6.behind hb7; clear iA6; have iD7 := iD6.behind hb7; clear iD6; have iE7 := iE6.behind hb7; clear iE6; have iX7 := iX6.behind hb7; clear iX6; clear d0 d1 d2 d3 d4; obtain ⟨d0, d1, d2, d3, d4⟩ := kH7.five)
    | fail)
  have kH7lt := kH7.lt
  go_cut [16, 17] from 26 (fun v16 v17 wx => v16 = .int .i64 (N4 : Nat) ∧ v17 = .int .i64 1 ∧ Below w7.heap.size w7 wx)
  case first =>
    go_region_held3 (fun w' => w'.cell? ⟨w.heap.size, 0, none⟩ = some (.int .i64 C) ∧ w'.cell? ⟨w.heap.size, 1, none⟩ = some (.int .i64 R) ∧ w'.cell? ⟨w.heap.size, 2, none⟩ = some (.int .i64 B) ∧ w'.cell? ⟨w.heap.size, 3, none⟩ = some (.int .i64 F) ∧ w'.cell? ⟨w.heap.size, 4, none⟩ = some (.slice A cl.length cap)) (first | exact kH10.five | exact kH9.five | exact kH8.five | exact (kH8.alloc _).five | exact ⟨d0, d1, d2, d3, d4⟩ | exact (kH7.alloc _).five | exact ((kH7.alloc _).alloc _).five | go_keep)
      (first
        | (go_at_call 37; refine (H4.out X2' c2' _ (iA7.behind hb9) iX9).mono ?_; rintro e w10 ⟨rfl, hb10'⟩; have hb10 := hb9.trans (hb10'.mono hb9.size); have kH10 := kH7.below hb10 kH7lt)
        | (rw [if_pos (by rfl)]; refine wp_appL _ _ (by rfl) (by rfl) w7.heap.size [] l (.slice (some ⟨w7.heap.size, 0, none⟩) ([] : List Int).length 0) D dap w7.heap.size (by rfl) (by with_reducible exact (own_empty (blk_drew (Blk.new w7 3 #[])) (Nat.le_refl _))) (by rfl) (by exact iD7.below ((below_new w7 (.cells #[] 3)).drew)) (by simp) (by omega) (by first | exact ((below_new w7 (.cells #[] 3)).drew).size | (simp; omega)) ?_; intro X1 c1 w8 hown8 hb8' hg8; have hb8 : Below w7.heap.size w7 w8 := ((below_new w7 (.cells #[] 3)).drew).trans hb8'; rw [List.nil_append] at hown8; have kH8 := kH7.below hb8 kH7.lt)
        | (rw [if_pos (by rfl)]; refine wp_appL _ _ (by rfl) (by rfl) w7.heap.size l [x] (.slice X1 l.length c1) (some ⟨w8.heap.size, 0, none⟩) 1 (w8.alloc (.cells #[.int .i64 x] 3)).heap.size (by rfl) (by with_reducible exact (hown8.alloc (.cells #[.int .i64 x] 3))) (by rfl) (by exact (one_newD w8 x)) (by omega) (by simp) (by exact (by have := hb8.size; simp; omega)) ?_; intro X2' c2' w9 hown9 hb9' _; have hb9 : Below w7.heap.size w7 w9 := (hb8.alloc hb8.size (.cells #[.int .i64 x] 3)).trans hb9'; have kH9 := kH7.below hb9 kH7.lt; have iX9 := Ints.of_own hown9)
        | (rw [if_pos (by rfl)]; refine wp_appL _ _ (by rfl) (by rfl) w7.heap.size [] l (.slice (some ⟨w7.heap.size, 0, none⟩) ([] : List Int).length 0) D dap w7.heap.size (by rfl) (by with_reducible exact (own_empty (blk_drew ((Blk.new w7 3 #[]).alloc (.cells #[.int .i64 x] 3))) (Nat.le_refl _))) (by rfl) (by exact iD7.below (((below_new w7 (.cells #[] 3)).alloc (by simp) (.cells #[.int .i64 x] 3)).drew)) (by simp) (by omega) (by first | exact (((below_new w7 (.cells #[] 3)).alloc (by simp) (.cells #[.int .i64 x] 3)).drew).size | (simp; omega)) ?_; intro X1 c1 w8 hown8 hb8' hg8; have hb8 : Below w7.heap.size w7 w8 := (((below_new w7 (.cells #[] 3)).alloc (by simp) (.cells #[.int .i64 x] 3)).drew).trans hb8'; rw [List.nil_append] at hown8; have kH8 := kH7.below hb8 kH7.lt; have kX8 : Blk w8 (w7.heap.size + 1) 3 #[.int .i64 x] := (hg8.block (w7.heap.size + 1) (by simp <;> omega) (by simp [Value.ownBlock])).trans ((Blk.newAt (by simp) : Blk ((w7.alloc (.cells #[] 3)).alloc (.cells #[.int .i64 x] 3)) (w7.heap.size + 1) 3 #[.int .i64 x])))
        | (rw [if_pos (by rfl)]; refine wp_appL _ _ (by rfl) (by rfl) w7.heap.size [] l (.slice (some ⟨w7.heap.size + 1, 0, none⟩) ([] : List Int).length 0) D dap w7.heap.size (by rfl) (by with_reducible exact (own_empty (blk_drew (Blk.newAt (by simp) : Blk ((w7.alloc (.cells #[.int .i64 x] 3)).alloc (.cells #[] 3)) (w7.heap.size + 1) 3 #[])) (Nat.le_succ _))) (by rfl) (by exact iD7.below (((below_new w7 (.cells #[.int .i64 x] 3)).alloc (by simp) (.cells #[] 3)).drew)) (by simp) (by omega) (by first | exact (((below_new w7 (.cells #[.int .i64 x] 3)).alloc (by simp) (.cells #[] 3)).drew).size | (simp; omega)) ?_; intro X1 c1 w8 hown8 hb8' hg8; have hb8 : Below w7.heap.size w7 w8 := (((below_new w7 (.cells #[.int .i64 x] 3)).alloc (by simp) (.cells #[] 3)).drew).trans hb8'; rw [List.nil_append] at hown8; have kH8 := kH7.below hb8 kH7.lt; have kX8 : Blk w8 (w7.heap.size) 3 #[.int .i64 x] := (hg8.block (w7.heap.size) (by simp <;> omega) (by simp [Value.ownBlock])).trans (((Blk.new w7 3 #[.int .i64 x]).alloc _ : Blk ((w7.alloc (.cells #[.int .i64 x] 3)).alloc (.cells #[] 3)) w7.heap.size 3 #[.int .i64 x])))
        | (rw [if_pos (by rfl)]; refine wp_appL _ _ (by rfl) (by rfl) w7.heap.size l [x] (.slice X1 l.length c1) (some ⟨w7.heap.size + 1, 0, none⟩) 1 (w7.heap.size + 1 + 1) (by rfl) (by with_reducible exact hown8) (by rfl) (by exact (blk_one kX8)) (by omega) (by simp) (by exact hb8.size) ?_; intro X2' c2' w9 hown9 hb9' _; have hb9 : Below w7.heap.size w7 w9 := (hb8).trans hb9'; have kH9 := kH7.below hb9 kH7.lt; have iX9 := Ints.of_own hown9)
        | (rw [if_pos (by rfl)]; refine wp_appL _ _ (by rfl) (by rfl) w7.heap.size l [x] (.slice X1 l.length c1) (some ⟨w7.heap.size, 0, none⟩) 1 (w7.heap.size + 1) (by rfl) (by with_reducible exact hown8) (by rfl) (by exact (blk_one kX8)) (by omega) (by simp) (by exact hb8.size) ?_; intro X2' c2' w9 hown9 hb9' _; have hb9 : Below w7.heap.size w7 w9 := (hb8).trans hb9'; have kH9 := kH7.below hb9 kH7.lt; have iX9 := Ints.of_own hown9)
        | fail)
    all_goals (go_wp2_with fail; go_meet; case rel => exact ⟨rfl, rfl, hb10⟩)
  case rest =>
    obtain ⟨rfl, rfl, hbx⟩ := hcut
    have bw8 := below_next bw7 bw7.size hbx
    clear bw7
    have kH8 := kH7.below hbx kH7.lt
    clear kH7
    have iA8 := iA7.behind hbx
    clear iA7
    have iX8 := iX7.behind hbx
    clear iX7
    clear d0 d1 d2 d3 d4
    obtain ⟨d0, d1, d2, d3, d4⟩ := kH8.five
    go_wp2_with (first
    | (go_at_call 47; refine (HSV.out X2 c2 _ iA8 iX8).mono ?_; rintro e w9 ⟨SA, sap, rfl, sx1, sx2, iS9, hb9⟩; have bw9 := below_next bw8 bw8.size hb9; clear bw8; have kH9 := kH8.below hb9 kH8.lt; clear kH8; have iA9 := iA8.behind hb9; clear iA8; have iX9 := iX8.behind hb9; clear iX8; clear d0 d1 d2 d3 d4; obtain ⟨d0, d1, d2, d3, d4⟩ := kH9.five)
    | (go_at_call 30; refine (HCC.out X2 c2 _ iA9 iX9).mono ?_; rintro e w10 ⟨KA, kap, rfl, kx1, kx2, iK10, hb10⟩; have bw10 := below_next bw9 bw9.size hb10; clear bw9; have kH10 := kH9.below hb10 kH9.lt; clear kH9; have iA10 := iA9.behind hb10; clear iA9; have iX10 := iX9.behind hb10; clear iX9; have iS10 := iS9.behind hb10; clear iS9; clear d0 d1 d2 d3 d4; obtain ⟨d0, d1, d2, d3, d4⟩ := kH10.five)
    | fail)
    clear d0 d1 d2 d3 d4
    go_loopw [150] (fun i wr => ∃ k : Nat, k ≤ cs.length ∧ i = .int .i64 k ∧ Below w10.heap.size w10 wr)
      (fun i _ => cs.length - (intOf i).toNat)
    case atStart => exact ⟨0, Nat.zero_le _, rfl, Below.refl _ _⟩
    case round =>
      obtain ⟨k, hk, rfl, hb⟩ := hrel
      have kH := kH10.below hb kH10.lt
      have iA := iA10.behind hb
      have iS := iS10.behind hb
      have iK := iK10.behind hb
      have bw := below_next bw10 bw10.size hb
      by_cases hlt : k < cs.length
      · obtain ⟨ad, hKA, hBd, hc⟩ := iK.get hlt
        subst hKA
        have hlt1 : (cs.take k).length = k := by rw [List.length_take]; omega
        have hlt2 : (cs.drop (k + 1)).length = cs.length - (k + 1) := by rw [List.length_drop]
        have hki : (k : Int) < (cs.length : Int) := by omega
        have hkc : (k : Int) ≤ (kap : Int) := by omega
        have hk1 : (k : Int) + 1 ≤ (cs.length : Int) := by omega
        have hk2 : ((k : Int) + 1).toNat = k + 1 := by omega
        have hk4 : k + 1 ≤ cs.length := hlt
        have hk5 : k ≤ kap := by omega
        have hk6 : (k : Int) + 1 ≤ (kap : Int) := by omega
        have hk7 : (cs.length : Int) ≤ (kap : Int) := by omega
        have hk8 : 0 ≤ (k : Int) + 1 := by omega
        have hk3 : IntKind.i64.wrap ((k : Int) + 1) = (k : Int) + 1 := IntWalk.i64_in _ (by omega)
        obtain ⟨m1, m2, m3⟩ := HMM.out k hlt
        have b1 : ¬ (N3 : Int) < (M k : Int) := by omega
        have b2 : decide ((N3 : Int) < (M k : Int)) = false := decide_eq_false b1
        have b3 : ¬ (M k : Int) < (N3 : Int) - 1 := by omega
        have b4 : decide ((M k : Int) < (N3 : Int) - 1) = false := decide_eq_false b3
        have b5 : IntKind.i64.wrap ((N3 : Int) - 1) = (N3 : Int) - 1 := IntWalk.i64_in _ (by omega)
        have HL := H5.out k hlt
        have HL5 := Lib.hid HL
        have hlo : lessOf cs k = cs.take k ++ cs.drop (k + 1) := rfl
        have HLO := Lib.hid hlo
        obtain ⟨y, hy⟩ : ∃ y, cs[k] = y := ⟨_, rfl⟩
        rw [hy] at hc m3
        have hM3 : Hid (decide (y ∈ sv) = decide (M k + 1 = N3)) := by unfold Hid; exact decide_eq_decide.2 m3.symm
        clear HL m3 hlo
        by_cases hkk : kap = k + 1
        · skip
          have hdrop : cs.drop (k + 1) = [] := List.eq_nil_of_length_eq_zero (by rw [hlt2]; omega)
          subst hkk
          have hk9 : (k : Int) ≤ (k : Int) + 1 := by omega
          have hk10 : k ≤ k + 1 := by omega
          go_wp2_with fail
          go_region_held3 (fun _ => True) (trivial)
            (first
              | (rw [if_pos (by rfl)]; refine wp_appN _ _ (by rfl) (by rfl) wr.heap.size (([] : List Int)) (cs.take k) (0) (k) (k) (.slice (some ⟨wr.heap.size, 0, none⟩) 0 0) _ _ wr.heap.size (by rfl) (by exact hlt1) (by simp) (by rfl) (by with_reducible exact (own_empty0 (blk_drew (Blk.new wr 3 #[])) (Nat.le_refl _))) (by rfl) (by exact ((iK.take k).below ((below_new wr (.cells #[] 3)).drew))) (by omega) (by omega) (by exact ((below_new wr (.cells #[] 3)).drew).size) ?_; intro Y1 y1 w11 hown11 hb11' _; have hb11 : Below wr.heap.size wr w11 := (((below_new wr (.cells #[] 3)).drew)).trans hb11'; rw [List.nil_append] at hown11)
              | (rw [if_pos (by rfl)]; refine wp_appN _ _ (by rfl) (by rfl) wr.heap.size (cs.take k) (cs.drop (k + 1)) (k) (0) (k) (.slice Y1 k y1) _ _ wr.heap.size (by exact hlt1) (by rw [hdrop]; rfl) (by rfl) (by rfl) (by with_reducible exact hown11) (by rfl) (by exact (by rw [hdrop]; exact Ints.nil)) (by omega) (by omega) (by exact hb11.size) ?_; intro Y2 y2 w12 hown12 hb12' _; have hb12 : Below wr.heap.size wr w12 := (hb11).trans hb12')
              | fail)
          have HL := HL5.out
          have e5 : k + (cs.length - (k + 1)) = k := by omega
          rw [e5] at HL
          clear HL5
          have HL5 := Lib.hid HL
          clear HL e5
          have kH12 := kH.below hb12 kH.lt
          obtain ⟨d0, d1, d2, d3, d4⟩ := kH12.five
          cases hdy : decide (M k + 1 = N3) with
          | true =>
            have DY : Hid (decide (y ∈ sv) = true) := hM3.out.trans hdy
            have dy : ((M k : Int) == (N3 : Int) - 1) = true := by have := of_decide_eq_true hdy; simp; omega
            clear hdy hM3
            go_wp2_with (first
              | (go_at_call 37; refine (HL5.out Y2 y2 _ (iA.behind hb12) (by rw [HLO.out]; exact Ints.of_own hown12)).mono ?_; rintro e w13 ⟨rfl, hb13⟩; have hb13x := hb12.trans (hb13.mono hb12.size); have iS13 := iS.behind hb13x; have iK13 := iK.behind hb13x; have hc13 := (hb13x.cell (p := ad.add k) (by rw [addr_block]; exact hBd)).trans hc)
              | (go_at_call 56; refine (has56_any sv SA sap y _ hsl iS13).mono ?_; rw [DY.out]; rintro e w14 ⟨rfl, rfl⟩)
              | fail)
            go_roundw
            case rel => exact ⟨k + 1, by omega, by go_num, hb.trans (hb13x.mono hb.size)⟩
            case measure => simp [intOf]; try omega
          | false =>
            have DY : Hid (decide (y ∈ sv) = false) := hM3.out.trans hdy
            have dy : ((M k : Int) == (N3 : Int) - 1) = false := by have := of_decide_eq_false hdy; simp; omega
            clear hdy hM3
            go_wp2_with (first
              | (go_at_call 37; refine (HL5.out Y2 y2 _ (iA.behind hb12) (by rw [HLO.out]; exact Ints.of_own hown12)).mono ?_; rintro e w13 ⟨rfl, hb13⟩; have hb13x := hb12.trans (hb13.mono hb12.size); have iS13 := iS.behind hb13x; have iK13 := iK.behind hb13x; have hc13 := (hb13x.cell (p := ad.add k) (by rw [addr_block]; exact hBd)).trans hc)
              | (go_at_call 56; refine (has56_any sv SA sap y _ hsl iS13).mono ?_; rw [DY.out]; rintro e w14 ⟨rfl, rfl⟩)
              | fail)
            go_roundw
            case rel => exact ⟨k + 1, by omega, by go_num, hb.trans (hb13x.mono hb.size)⟩
            case measure => simp [intOf]; try omega
        · skip
          have hdd : True := trivial
          go_wp2_with fail
          go_region_held3 (fun _ => True) (trivial)
            (first
              | (rw [if_pos (by rfl)]; refine wp_appN _ _ (by rfl) (by rfl) wr.heap.size (([] : List Int)) (cs.take k) (0) (k) (k) (.slice (some ⟨wr.heap.size, 0, none⟩) 0 0) _ _ wr.heap.size (by rfl) (by exact hlt1) (by simp) (by rfl) (by with_reducible exact (own_empty0 (blk_drew (Blk.new wr 3 #[])) (Nat.le_refl _))) (by rfl) (by exact ((iK.take k).below ((below_new wr (.cells #[] 3)).drew))) (by omega) (by omega) (by exact ((below_new wr (.cells #[] 3)).drew).size) ?_; intro Y1 y1 w11 hown11 hb11' _; have hb11 : Below wr.heap.size wr w11 := (((below_new wr (.cells #[] 3)).drew)).trans hb11'; rw [List.nil_append] at hown11)
              | (rw [if_pos (by rfl)]; refine wp_appN _ _ (by rfl) (by rfl) wr.heap.size (cs.take k) (cs.drop (k + 1)) (k) (cs.length - (k + 1)) (k + (cs.length - (k + 1))) (.slice Y1 k y1) _ _ wr.heap.size (by exact hlt1) (by exact hlt2) (by rfl) (by rfl) (by with_reducible exact hown11) (by rfl) (by exact ((iK.drop (k + 1)).below hb11)) (by omega) (by omega) (by exact hb11.size) ?_; intro Y2 y2 w12 hown12 hb12' _; have hb12 : Below wr.heap.size wr w12 := (hb11).trans hb12')
              | fail)
          have kH12 := kH.below hb12 kH.lt
          obtain ⟨d0, d1, d2, d3, d4⟩ := kH12.five
          cases hdy : decide (M k + 1 = N3) with
          | true =>
            have DY : Hid (decide (y ∈ sv) = true) := hM3.out.trans hdy
            have dy : ((M k : Int) == (N3 : Int) - 1) = true := by have := of_decide_eq_true hdy; simp; omega
            clear hdy hM3
            go_wp2_with (first
              | (go_at_call 37; refine (HL5.out Y2 y2 _ (iA.behind hb12) (by rw [HLO.out]; exact Ints.of_own hown12)).mono ?_; rintro e w13 ⟨rfl, hb13⟩; have hb13x := hb12.trans (hb13.mono hb12.size); have iS13 := iS.behind hb13x; have iK13 := iK.behind hb13x; have hc13 := (hb13x.cell (p := ad.add k) (by rw [addr_block]; exact hBd)).trans hc)
              | (go_at_call 56; refine (has56_any sv SA sap y _ hsl iS13).mono ?_; rw [DY.out]; rintro e w14 ⟨rfl, rfl⟩)
              | fail)
            go_roundw
            case rel => exact ⟨k + 1, by omega, by go_num, hb.trans (hb13x.mono hb.size)⟩
            case measure => simp [intOf]; try omega
          | false =>
            have DY : Hid (decide (y ∈ sv) = false) := hM3.out.trans hdy
            have dy : ((M k : Int) == (N3 : Int) - 1) = false := by have := of_decide_eq_false hdy; simp; omega
            clear hdy hM3
            go_wp2_with (first
              | (go_at_call 37; refine (HL5.out Y2 y2 _ (iA.behind hb12) (by rw [HLO.out]; exact Ints.of_own hown12)).mono ?_; rintro e w13 ⟨rfl, hb13⟩; have hb13x := hb12.trans (hb13.mono hb12.size); have iS13 := iS.behind hb13x; have iK13 := iK.behind hb13x; have hc13 := (hb13x.cell (p := ad.add k) (by rw [addr_block]; exact hBd)).trans hc)
              | (go_at_call 56; refine (has56_any sv SA sap y _ hsl iS13).mono ?_; rw [DY.out]; rintro e w14 ⟨rfl, rfl⟩)
              | fail)
            go_roundw
            case rel => exact ⟨k + 1, by omega, by go_num, hb.trans (hb13x.mono hb.size)⟩
            case measure => simp [intOf]; try omega
      · obtain rfl : k = cs.length := by omega
        obtain ⟨d0, d1, d2, d3, d4⟩ := kH.five
        go_wp2_with (first
          | (go_at_call 15; refine (sanity_any _).mono ?_; rintro e w11 ⟨rfl, hb11⟩; have bw11 := below_next bw bw.size hb11)
          | fail)
        go_ret
        exact ⟨ret_bool rfl, bw11⟩

end Go.Proofs.Ytnjmkdgglpcfpaa
