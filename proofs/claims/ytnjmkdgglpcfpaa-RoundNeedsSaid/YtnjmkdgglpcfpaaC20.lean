import Derived.Test.YtnjmkdgglpcfpaaC19
import Derived.Test.YtnjmkdgglpcfpaaM7
namespace Go.Proofs.Ytnjmkdgglpcfpaa
set_option linter.unusedSimpArgs false
set_option linter.unusedVariables false
open Go.RowKit

theorem findLB_len {C R B F : Int} {cl l : List Int} : (findL C R B F cl l).length ≤ 1000 := by
  by_cases he : findErr C R B F cl l = 0
  · have hk := find_holes he
    have hb := find_best he
    have hr : Rise C (findL C R B F cl l) := ⟨hb.rise, fun x hx => ⟨(hb.cov.op x hx).lo, (hb.cov.op x hx).hi⟩⟩
    have := rise_len hr
    have := hk.ok.c120
    omega
  · by_cases hk : HolesOk C R B F cl l
    · rw [(find_none hk he).2.1]; simp
    · rw [(find_bad_err hk).2.1]; simp
theorem use_line {C R B F : Int} {cl l : List Int} (h : findErr C R B F cl l = 0) {s : Int} (hs : 0 ≤ s ∧ s < C) (ho : s ∉ cl) (hN : 0 < (findL C R B F cl l).length) {r : Int} (hr : LineP C B F (isIn cl) ((colsTo (isIn (colm C l)) C.toNat).filter fun x => !anyR C B F [s] x) r) : (r == ((findL C R B F cl l).length : Int) - 1) = decide (s ∈ useL C R B F cl l) := by
  have hk := find_holes h
  obtain ⟨hk', hm⟩ := left_ok' (st := [s]) hk
  obtain ⟨p1, p2⟩ := stands_rest h hs ho
  have key : r = ((findL C R B F cl l).length : Int) - 1 ↔ s ∈ useL C R B F cl l := by
    rw [← p2]
    rcases line_find hk' (fun x => by rw [hm, List.mem_filter, colsTo_in hk]; simp) hr with ⟨g1, g2⟩ | ⟨g1, g2, g3⟩
    · rw [p1] at g2
      exact absurd g2 (by decide)
    · constructor
      · intro e
        exact ⟨hN, by omega⟩
      · rintro ⟨_, e⟩
        omega
  by_cases hm : s ∈ useL C R B F cl l
  · rw [decide_eq_true hm]
    simpa using key.2 hm
  · rw [decide_eq_false hm]
    simpa using fun e => hm (key.1 e)
theorem use_zero {C R B F : Int} {cl l : List Int} (h : findErr C R B F cl l = 0) (hN : (findL C R B F cl l).length = 0) (s : Int) : decide (s ∈ useL C R B F cl l) = false := decide_eq_false fun hm => by
  obtain ⟨S, _, h2, h3⟩ := (use_iff h).1 hm
  have := List.length_pos_of_mem h3
  omega
theorem use_filter {C R B F : Int} {cl l : List Int} (h : findErr C R B F cl l = 0) : (openL C cl).filter (fun s => decide (s ∈ useL C R B F cl l)) = useL C R B F cl l := by
  have hk := find_holes h
  refine rise_ext _ _ ((colsTo_rise _ _).filter _) (need_rise hk h).2.1.1 fun x => ?_
  rw [List.mem_filter, openL_iff hk.ok, decide_eq_true_eq]
  constructor
  · exact fun hx => hx.2
  · intro hx
    exact ⟨⟨(need_rise hk h).2.1.2 x hx, use_open h hx⟩, hx⟩

set_option maxRecDepth 100000 in
set_option maxHeartbeats 4000000 in
/-- the reference's Useful -/
theorem refUseful46_any (C R B F : Int) (A : Option Addr) (cap : Nat) (cl : List Int) (D : Option Addr) (dap : Nat) (l : List Int) (w : World) (hcl : cl.length ≤ 1000000) (hll : l.length ≤ 1000000) (hr : Ints w w.heap.size A cl) (hl : Ints w w.heap.size D l) :
    Calls Try.prog 46 #[.agg #[.int .i64 C, .int .i64 R, .int .i64 B, .int .i64 F, .slice A cl.length cap], .slice D l.length dap] w (RetIntsE w (useL C R B F cl l) (findErr C R B F cl l)) := by
  have hb0 : Below w.heap.size w ((w.alloc (.cells #[.int .i64 C, .int .i64 R, .int .i64 B, .int .i64 F, .slice A cl.length cap] 24)).alloc (.cells #[.slice none 0 0, .int .i64 0] 36)) := (below_new w (.cells #[.int .i64 C, .int .i64 R, .int .i64 B, .int .i64 F, .slice A cl.length cap] 24)).alloc (by simp) _
  have hbk : Blk ((w.alloc (.cells #[.int .i64 C, .int .i64 R, .int .i64 B, .int .i64 F, .slice A cl.length cap] 24)).alloc (.cells #[.slice none 0 0, .int .i64 0] 36)) w.heap.size 24 #[.int .i64 C, .int .i64 R, .int .i64 B, .int .i64 F, .slice A cl.length cap] := (Blk.new _ _ _).alloc _
  have hbq : Blk ((w.alloc (.cells #[.int .i64 C, .int .i64 R, .int .i64 B, .int .i64 F, .slice A cl.length cap] 24)).alloc (.cells #[.slice none 0 0, .int .i64 0] 36)) (w.heap.size + 1) 36 #[.slice none 0 0, .int .i64 0] := Blk.newAt (by simp)
  have iA0 := hr.behind hb0
  have iD0 := hl.behind hb0
  have H95 := Lib.hid (fun (W : World) (ha : Ints W W.heap.size A cl) (hd : Ints W W.heap.size D l) => round95_any C R B F A cap cl D dap l W hcl hll ha hd)
  by_cases he : findErr C R B F cl l = 0
  case neg =>
    have hL0 : useL C R B F cl l = [] := if_neg he
    have n1 : (findErr C R B F cl l == 0) = false := by simpa using he
    have n2 : (findErr C R B F cl l != 0) = true := by simpa using he
    rw [hL0]
    rw [if_neg he] at H95
    clear he hL0
    generalize findErr C R B F cl l = er at *
    generalize (findL C R B F cl l).length = N at *
    go_enter Try.func46, Try.ntmps46
    go_wp2_with (first
      | (go_at_call 95; refine (H95.out _ iA0 iD0).mono ?_; rintro e w1 ⟨E, ec, rfl, e1, e2, iE1, hb1⟩; have hbq1 := hbq.below hb1 (by simp); obtain ⟨m0, m1, m2, m3⟩ : w1.cell? ⟨w.heap.size + 1, 0, none⟩ = some (.slice none 0 0) ∧ w1.cell? ⟨w.heap.size + 1, 1, none⟩ = some (.int .i64 0) ∧ w1.frozen? ⟨w.heap.size + 1, 0, none⟩ = false ∧ w1.frozen? ⟨w.heap.size + 1, 1, none⟩ = false := ⟨hbq1.cell 0, hbq1.cell 1, hbq1.frozen 0, hbq1.frozen 1⟩))
    refine bodyPost_ret (v := .agg #[.slice none 0 0, .int .i64 (er)]) (results_cell_row (g := w.heap.size + 1) rfl _ _ 36 _ (0, 0) _ rfl ((hbq1.store 0 (.slice none 0 0)).store 1 (.int .i64 (er))) Try.underlying36 rfl info36) rfl ?_
    exact ⟨none, 0, rfl, Nat.le_refl _, by simp [maxLen], Ints.nil, ((below_next hb0 (by simp; omega) hb1).setCell (p := ⟨w.heap.size + 1, 0, none⟩) (by simp) _).setCell (p := ⟨w.heap.size + 1, 1, none⟩) (by simp) _⟩
  case pos =>
    have hk := find_holes he
    have hC1 : 1 ≤ C := by have := hk.ok.c3; omega
    have q2 := hk.ok.c120
    have k3 := hk.ok.b0
    have k4 := hk.ok.f0
    have k5 := hk.ok.bf
    have hin := colsTo_in hk
    have hcb : ∀ x ∈ colsTo (isIn (colm C l)) C.toNat, 0 ≤ x ∧ x < C := fun x hx => hk.cols x ((hin x).1 hx)
    have hcn : (colsTo (isIn (colm C l)) C.toNat).length ≤ 1000 := by have : (colsTo (isIn (colm C l)) C.toNat).length ≤ C.toNat := colsTo_len _ _; omega
    have hob : ∀ x ∈ openL C cl, 0 ≤ x ∧ x < C := fun x hx => ((openL_iff hk.ok).1 hx).1
    have hon : (openL C cl).length ≤ 120 := by have : (openL C cl).length ≤ C.toNat := colsTo_len _ _; omega
    have HP : Hid (∀ s, s ∈ openL C cl → 0 < (findL C R B F cl l).length → ∀ r, LineP C B F (isIn cl) ((colsTo (isIn (colm C l)) C.toNat).filter fun x => !anyR C B F [s] x) r → (r == ((findL C R B F cl l).length : Int) - 1) = (fun s => decide (s ∈ useL C R B F cl l)) s) := fun s hs h0 r hr => use_line he ((openL_iff hk.ok).1 hs).1 ((openL_iff hk.ok).1 hs).2 h0 hr
    have HZ : Hid ((findL C R B F cl l).length = 0 → ∀ s, (fun s => decide (s ∈ useL C R B F cl l)) s = false) := fun h0 s => use_zero he h0 s
    have hNl : (findL C R B F cl l).length ≤ 1000 := findLB_len
    have HDM := Lib.hid hk.dims
    have HCB := Lib.hid hcb
    have H96 := Lib.hid (fun (W : World) (ha : Ints W W.heap.size A cl) => open_own C R B F A cap cl W hC1 q2 hcl ha)
    have HB := Lib.hid hob
    rw [if_pos he, he] at H95
    rw [he, ← use_filter he]
    clear hk hin hob he
    generalize colsTo (isIn (colm C l)) C.toNat = cs at *
    generalize openL C cl = ol at *
    generalize (fun s => decide (s ∈ useL C R B F cl l)) = pu at *
    generalize (findL C R B F cl l).length = N at *
    go_enter Try.func46, Try.ntmps46
    go_wp2_with (first
      | (go_at_call 95; refine (H95.out _ iA0 iD0).mono ?_; rintro e w1 ⟨E, ec, rfl, e1, e2, iE1, hb1⟩; have bw1 := below_next hb0 (by simp; omega) hb1; have hbk1 := hbk.below hb1 (by simp; omega); have hbq1 := hbq.below hb1 (by simp); have iA1 := iA0.behind hb1; have hn2 := below_new w1 (.cells #[.slice none 0 0, .int .i64 0] 36); have bw2 := below_next bw1 bw1.size hn2; have hbk2 := hbk1.below hn2 hbk1.lt; have hbq2 := hbq1.below hn2 hbq1.lt; have iA2 := iA1.behind hn2; have hbg2 := Blk.new w1 36 #[.slice none 0 0, .int .i64 0]; have iE2 := iE1.alloc (Nat.le_refl _) (.cells #[.slice none 0 0, .int .i64 0] 36); obtain ⟨d0, d1, d2, d3, d4⟩ := hbk2.five)
      | (go_at_call 96; refine (H96.out _ iA2).mono ?_; rintro e w3 ⟨G, gap, rfl, hownG, hb3⟩; have bw3 := below_next bw2 bw2.size hb3; have hbk3 := hbk2.below hb3 hbk2.lt; have hbq3 := hbq2.below hb3 hbq2.lt; have hbg3 := hbg2.below hb3 hbg2.lt; have iE3 := iE2.below (hb3.mono hn2.size); have iA3 := hr.below bw3; have iG3 := IntsG.own hownG (g := w1.heap.size) (by simp); have hgap := (own_facts hownG).1))
    have hz3 : w1.heap.size + 1 ≤ w3.heap.size := by have := hb3.size; simp at this; omega
    have hz1 : w.heap.size + 2 ≤ w1.heap.size := by have := hb1.size; simp at this; omega
    clear hb0 hbk hbq iA0 iD0 H95 hb1 bw1 hbk1 hbq1 iA1 hn2 bw2 hbk2 hbq2 iA2 hbg2 iE2 d0 d1 d2 d3 d4 H96 hownG hb3 iE1 e1 e2
    go_loopw [10] (fun i wr => ∃ (k : Nat) (A' : Option Addr) (c' : Nat), k ≤ ol.length ∧ i = .int .i64 k ∧ Below w.heap.size w wr ∧ Blk wr w.heap.size 24 #[.int .i64 C, .int .i64 R, .int .i64 B, .int .i64 F, .slice A cl.length cap] ∧ Blk wr (w.heap.size + 1) 36 #[.slice none 0 0, .int .i64 0] ∧ Blk wr w1.heap.size 36 #[.slice A' ((ol.take k).filter pu).length c', .int .i64 0] ∧ w3.heap.size ≤ wr.heap.size ∧ wr.ownsRow w3.heap.size 3 1 (.slice A' ((ol.take k).filter pu).length c') ((ol.take k).filter pu).length (((ol.take k).filter pu).map (Value.int .i64)) ∧ IntsG wr w1.heap.size w3.heap.size G ol ∧ Ints wr w1.heap.size E cs ∧ Ints wr w.heap.size A cl)
      (fun i _ => ol.length - (intOf i).toNat)
    case atStart => exact ⟨0, none, 0, Nat.zero_le _, rfl, bw3, hbk3, hbq3, hbg3, Nat.le_refl _, World.ownsRow_nil _ _ _ _, iG3, iE3, iA3⟩
    case round =>
      clear bw3 hbk3 hbq3 hbg3 iG3 iE3 iA3
      obtain ⟨k, A', c', hk, rfl, hb, hbk, hbq, hbg, hzr, hown, iG, iE, iA⟩ := hrel
      obtain ⟨d0, d1, d2, d3, d4⟩ := hbk.five
      have hbs := hb.size
      by_cases hlt : k < ol.length
      · obtain ⟨ad, hA, hadb, hadn, hce⟩ := iG.get hlt
        subst hA
        have hlt2 : (k : Int) < (ol.length : Int) := by omega
        have hs := HB.out _ (List.getElem_mem hlt)
        have hmo := List.getElem_mem hlt
        have HPS := Lib.hid (HP.out _ hmo)
        have HY := Lib.hid (filt_yes (pu := pu) hlt)
        have HN := Lib.hid (filt_no (pu := pu) hlt)
        have hgl : ((ol.take k).filter pu).length ≤ 120 := by have := filt_len (L := ol) (k := k) (pu := pu); omega
        have hk1 : (k : Int) + 1 ≤ (gap : Int) := by omega
        have hk2 : (k : Int) ≤ (k : Int) + 1 := by omega
        have hk3 : ((k : Int) + 1).toNat = k + 1 := by omega
        have hk4 : k + 1 - k = 1 := by omega
        have hk5 : ¬ gap = k := by omega
        have hk6 : k + 1 ≤ gap := by omega
        have hk7 : k ≤ k + 1 := by omega
        have hw1 : IntKind.i64.wrap ((k : Int) + 1) = (k : Int) + 1 := IntWalk.i64_in _ (by omega)
        have hw2 : IntKind.i64.wrap ((N : Int) - 1) = (N : Int) - 1 := IntWalk.i64_in _ (by omega)
        clear hmo
        generalize (ol.take k).filter pu = gs at *
        generalize ol[k] = s at *
        have iAr := iA.more hbs
        have iEr := iE.more (show w1.heap.size ≤ wr.heap.size by omega)
        have hkl := hbk.lt
        have hs0 := hs.1
        have hs1 := hs.2
        have hsm : ∀ x ∈ [s], 0 ≤ x ∧ x < C := by simpa using hs
        have HRL : (cs.filter fun x => !anyR C B F [s] x).length ≤ 1000 := by have := List.length_filter_le (fun x => !anyR C B F [s] x) cs; omega
        have HBR : Hid (∀ x ∈ (cs.filter fun x => !anyR C B F [s] x), Bh C B F s x) := fun x hx => by
          obtain ⟨g1, g2⟩ := (rest_mem HDM.out HCB.out).1 hx
          obtain ⟨g3, g4⟩ := HCB.out x g1
          exact (bh_iff HDM.out hs0 hs1 g3 g4).2 g2
        have hBl : ad.block < wr.heap.size := by omega
        have iS := cell_one (B := wr.heap.size) (a := ad.add k) hce (by rw [addr_block]; exact hBl)
        by_cases hN0 : N = 0
        · have g1 : ¬ 0 < N := by omega
          have g2 : ¬ (0 : Int) < (N : Int) := by omega
          have g3 : decide ((0 : Int) < (N : Int)) = false := decide_eq_false g2
          have g4 : decide (0 < N) = false := decide_eq_false g1
          have HYY := Lib.hid (HN.out (HZ.out hN0 s))
          clear HPS HY HN HBR iS HZ HP hN0
          go_wp2_with fail
          go_quiet (fail)
          go_wp2_with fail
          go_roundw
          case rel => exact ⟨k + 1, A', c', by omega, by go_num, below_drewN hb _, hbk, hbq, by rw [HYY.out]; exact hbg, hzr, by rw [HYY.out]; exact hown, iG, iE, iA⟩
          case measure => simp [intOf]; try omega
        have hNp : 0 < N := by omega
        have g2 : (0 : Int) < (N : Int) := by omega
        have g3 : decide ((0 : Int) < (N : Int)) = true := decide_eq_true g2
        have g4 : decide (0 < N) = true := decide_eq_true hNp
        clear hN0
        go_wp2_with fail
        go_region_held3 (fun w' => w'.cell? ⟨w.heap.size, 0, none⟩ = some (.int .i64 C) ∧ w'.cell? ⟨w.heap.size, 1, none⟩ = some (.int .i64 R) ∧ w'.cell? ⟨w.heap.size, 2, none⟩ = some (.int .i64 B) ∧ w'.cell? ⟨w.heap.size, 3, none⟩ = some (.int .i64 F) ∧ w'.cell? ⟨w.heap.size, 4, none⟩ = some (.slice A cl.length cap) ∧ w'.cell? (ad.add k) = some (.int .i64 s)) (first | exact K6 | exact K5 | exact ⟨d0, d1, d2, d3, d4, hce⟩ | go_keep)
          (first
            | (go_at_call 83; refine (refLeft_own C R B F _ E ec cs _ _ [s] _ hC1 q2 k3 k4 k5 (by omega) (by simp) hsm (by first | exact iEr | exact iEr.behind (Below.refl _ _).drew) (by first | exact iS | exact iS.behind (Below.refl _ _).drew)).mono ?_; rintro e w5 ⟨Y, yap, rfl, hown5, hb5'⟩; have hb5 : Below wr.heap.size wr w5 := (by first | exact hb5' | exact (Below.refl _ _).drew.trans hb5'); have hbk5 := hbk.below hb5 hkl; have K5 : w5.cell? ⟨w.heap.size, 0, none⟩ = some (.int .i64 C) ∧ w5.cell? ⟨w.heap.size, 1, none⟩ = some (.int .i64 R) ∧ w5.cell? ⟨w.heap.size, 2, none⟩ = some (.int .i64 B) ∧ w5.cell? ⟨w.heap.size, 3, none⟩ = some (.int .i64 F) ∧ w5.cell? ⟨w.heap.size, 4, none⟩ = some (.slice A cl.length cap) ∧ w5.cell? (ad.add k) = some (.int .i64 s) := ⟨hbk5.cell 0, hbk5.cell 1, hbk5.cell 2, hbk5.cell 3, hbk5.cell 4, (hb5.cell (p := ad.add k) (by rw [addr_block]; omega)).trans hce⟩; have iY5 := Ints.of_own hown5; have iA5 := iAr.behind hb5)
            | (go_at_call 98; refine (line98_any C R B F A cap cl s hC1 q2 k3 k4 k5 hs0 hs1 hcl _ _ Y yap _ (Nat.le_refl _) HRL HBR.out iA5 iY5).mono ?_; rintro e w6 ⟨r, rfl, hr6, hb6'⟩; have hb6 : Below wr.heap.size wr w6 := hb5.trans (hb6'.mono hb5.size); have hbk6 := hbk.below hb6 hkl; have K6 : w6.cell? ⟨w.heap.size, 0, none⟩ = some (.int .i64 C) ∧ w6.cell? ⟨w.heap.size, 1, none⟩ = some (.int .i64 R) ∧ w6.cell? ⟨w.heap.size, 2, none⟩ = some (.int .i64 B) ∧ w6.cell? ⟨w.heap.size, 3, none⟩ = some (.int .i64 F) ∧ w6.cell? ⟨w.heap.size, 4, none⟩ = some (.slice A cl.length cap) ∧ w6.cell? (ad.add k) = some (.int .i64 s) := ⟨hbk6.cell 0, hbk6.cell 1, hbk6.cell 2, hbk6.cell 3, hbk6.cell 4, (hb6.cell (p := ad.add k) (by rw [addr_block]; omega)).trans hce⟩)
            | fail)
        all_goals (
          have hq := HPS.out hNp r hr6
          have bw6 := below_next hb hbs hb6
          have hbq6 := hbq.below hb6 hbq.lt
          have hbg6 := hbg.below hb6 hbg.lt
          have hown6 := own_below hown hb6
          have iG6 := iG.below (hb6.mono hzr)
          have iE6 := iE.below (hb6.mono (show w1.heap.size ≤ wr.heap.size by omega))
          have iA6 := iA.below (hb6.mono hbs)
          have hz6 := hb6.size
          clear d0 d1 d2 d3 d4 hce
          obtain ⟨d0, d1, d2, d3, d4, hce⟩ := K6
          cases hpu : pu s with
          | true =>
            have z1 : (r == (N : Int) - 1) = true := by rw [hq, hpu]
            have HYY := Lib.hid (HY.out hpu)
            have u0 := hbg6.cell 0
            have u1 := hbg6.frozen 0
            clear hq hpu HPS HY HN K5
            have b7 : Below w6.heap.size w6 (w6.drew.alloc (.cells #[.int .i64 s] 3)) := (Below.refl _ _).drew.alloc (by simp) _
            have i7 := one_newC w6.drew s
            have hown7 := own_below hown6 b7
            have hz7 : w3.heap.size ≤ (w6.drew.alloc (.cells #[.int .i64 s] 3)).heap.size := by have := b7.size; omega
            have u0a : (w6.alloc (.cells #[.int .i64 s] 3)).cell? ⟨w1.heap.size, 0, none⟩ = some (.slice A' gs.length c') := (hbg6.alloc _).cell 0
            go_wp2_with fail
            go_region_law (rw [if_pos (by rfl)]; refine wp_one _ _ (by rfl) (by rfl) w3.heap.size gs s (.slice A' gs.length c') (some ⟨w6.drew.heap.size, 0, none⟩) 1 (w6.drew.alloc (.cells #[.int .i64 s] 3)).heap.size (by rfl) hown7 (by rfl) i7 (by omega) hz7 ?_; intro A8 c8 w8 hown8 hb8'; have hb8 : Below w3.heap.size w6 w8 := (b7.mono (by omega)).trans hb8'; have hbg8 := hbg6.below hb8 (by omega); have u08 := hbg8.cell 0; have u18 := hbg8.frozen 0; have bw8 : Below w.heap.size w w8 := bw6.trans (hb8.mono (by omega)); have hbk8 := hbk6.below hb8 (by omega); have hbq8 := hbq6.below hb8 (by omega); have iG8 := iG6.below hb8; have iE8 := iE6.below (hb8.mono (by omega)); have iA8 := iA6.below (hb8.mono (by omega)); have hz8 := hb8.size)
            all_goals (
              go_wp2_with fail
              go_roundw
              case rel =>
                refine ⟨k + 1, A8, c8, by omega, by go_num, bw8.setCell (p := ⟨w1.heap.size, 0, none⟩) (by simp; omega) _, hbk8.far (p := ⟨w1.heap.size, 0, none⟩) (by simp; omega) _, hbq8.far (p := ⟨w1.heap.size, 0, none⟩) (by simp; omega) _, ?_, by simp [World.setCell]; omega, ?_, iG8.set rfl _, iE8.setCell (p := ⟨w1.heap.size, 0, none⟩) (by simp) _, iA8.setCell (p := ⟨w1.heap.size, 0, none⟩) (by simp; omega) _⟩
                · have h9 := hbg8.store 0 (.slice A8 (gs.length + 1) c8)
                  rw [HYY.out, show (gs ++ [s]).length = gs.length + 1 by simp]
                  exact h9
                · rw [HYY.out, show (gs ++ [s]).length = gs.length + 1 by simp]; exact ownsRow_setCell_below hown8 (a := ⟨w1.heap.size, 0, none⟩) (show w1.heap.size < w3.heap.size by omega) _
              case measure => simp [intOf]; try omega)
          | false =>
            have z1 : (r == (N : Int) - 1) = false := by rw [hq, hpu]
            have HYY := Lib.hid (HN.out hpu)
            clear hq hpu HPS HY HN K5
            go_wp2_with fail
            go_roundw
            case rel => exact ⟨k + 1, A', c', by omega, by go_num, bw6, hbk6, hbq6, by rw [HYY.out]; exact hbg6, by omega, by rw [HYY.out]; exact hown6, iG6, iE6, iA6⟩
            case measure => simp [intOf]; try omega)
      · obtain rfl : k = ol.length := by omega
        rw [List.take_length] at hbg hown
        have u0 := hbg.cell 0
        have u1 := hbg.cell 1
        obtain ⟨m0, m1, m2, m3⟩ : wr.cell? ⟨w.heap.size + 1, 0, none⟩ = some (.slice none 0 0) ∧ wr.cell? ⟨w.heap.size + 1, 1, none⟩ = some (.int .i64 0) ∧ wr.frozen? ⟨w.heap.size + 1, 0, none⟩ = false ∧ wr.frozen? ⟨w.heap.size + 1, 1, none⟩ = false := ⟨hbq.cell 0, hbq.cell 1, hbq.frozen 0, hbq.frozen 1⟩
        go_wp2_with fail
        obtain ⟨s1, s2, _⟩ := own_facts hown
        refine bodyPost_ret (v := .agg #[.slice A' (ol.filter pu).length c', .int .i64 0]) (results_cell_row (g := w.heap.size + 1) rfl _ _ 36 _ (0, 0) _ rfl ((hbq.store 0 (.slice A' (ol.filter pu).length c')).store 1 (.int .i64 0)) Try.underlying36 rfl info36) rfl ?_
        exact ⟨A', c', rfl, s1, s2, Ints.of_own (ownsRow_setCell_below (ownsRow_setCell_below hown (a := ⟨w.heap.size + 1, 0, none⟩) (show w.heap.size + 1 < w3.heap.size by omega) _) (a := ⟨w.heap.size + 1, 1, none⟩) (show w.heap.size + 1 < w3.heap.size by omega) _), (hb.setCell (p := ⟨w.heap.size + 1, 0, none⟩) (by simp) _).setCell (p := ⟨w.heap.size + 1, 1, none⟩) (by simp) _⟩

theorem Ints.takeB {w : World} {B : Nat} {A : Option Addr} {l : List Int} (h : Ints w B A l) (k : Nat) : Ints w B A (l.take k) := fun j y hy => by
  rw [List.getElem?_take] at hy
  split at hy
  · exact h j y hy
  · cases hy
theorem Ints.dropB {w : World} {B : Nat} {ad : Addr} {l : List Int} (h : Ints w B (some ad) l) (k : Nat) : Ints w B (some (ad.add k)) (l.drop k) := fun j y hy => by
  rw [List.getElem?_drop] at hy
  obtain ⟨ad', e, hb, hc⟩ := h (k + j) y hy
  cases e
  exact ⟨_, rfl, by rw [addr_block]; exact hb, by rw [addr_add]; exact hc⟩
theorem wpl_app {ops : Array Oper} {rest : List Oper} {o : Oper} {a : Act} {Q : Exit → Act → World → Prop} {w : World} (hgd : o.guard = none) (s x : Operand)
    (ho : o.op = .call { callee := .builtin .append, args := #[s, x], argTypes := #[22, 22] }) (hty : o.type = 22) (base : Nat) (l m : List Int) (nl n N : Nat) (v : Value) (A : Option Addr) (c : Nat) (B : Nat) (hnl : l.length = nl) (hn : m.length = n) (hN : nl + n = N)
    (hs : a.eval s = v) (hown : w.ownsRow base 3 1 v nl (l.map (Value.int .i64))) (hx : a.eval x = .slice A n c) (hm : Ints w B A m) (hl : nl ≤ 1000000) (hml : n ≤ 1000000) (hbase : base ≤ w.heap.size)
    (h : ∀ A' c' w', w'.ownsRow base 3 1 (.slice A' N c') N ((l ++ m).map (Value.int .i64)) → Below base w w' → wpList Try.prog ops Q rest (a.put o.dst (.slice A' N c')) w') :
    wpList Try.prog ops Q (o :: rest) a w := by
  have hw : Region.wanted o (yielded ops a.tmps) = true := by simp [Region.wanted, hgd]
  subst hnl hn
  unfold wpList
  rw [if_pos hw]
  refine .inl (wp_appL s x ho hty base l m v A c B hs hown hx hm hl hml hbase fun A' c' w' h1 h2 _ => ?_)
  rw [List.length_append, hN] at h1 ⊢
  exact h A' c' w' h1 h2
theorem colsC_eq {C R B F : Int} {cl l : List Int} (hk : HolesOk C R B F cl l) : colsTo (isIn (colm C l)) C.toNat = cols (isIn (colm C l)) := by
  have := hk.ok.c3
  exact rise_ext _ _ (colsTo_rise _ _) (colsTo_rise _ _) fun x => by rw [colsTo_in hk, cols_in (C := C) hk.ok.c120 (by omega) l]
theorem colm_low {C : Int} {l : List Int} (h : ∀ x ∈ l, 0 ≤ x ∧ x < C) : colm C l = l := by
  unfold colm
  conv => rhs; rw [← List.map_id l]
  exact List.map_congr_left fun x hx => Int.emod_eq_of_lt (h x hx).1 (h x hx).2
theorem sav_line {C R B F : Int} {cl l : List Int} (h : findErr C R B F cl l = 0) {k : Nat} (hk : k < (colsTo (isIn (colm C l)) C.toNat).length) {r : Int} (hr : LineP C B F (isIn cl) (lessOf (colsTo (isIn (colm C l)) C.toNat) k) r) : decide (r < ((findL C R B F cl l).length : Int)) = decide ((colsTo (isIn (colm C l)) C.toNat)[k] ∈ savL C R B F cl l) := by
  have hho := find_holes h
  have hin := colsTo_in hho
  have e := colsC_eq hho
  have hrise : (colsTo (isIn (colm C l)) C.toNat).Pairwise (· < ·) := colsTo_rise _ _
  have hb : ∀ x ∈ lessOf (colsTo (isIn (colm C l)) C.toNat) k, 0 ≤ x ∧ x < C := fun x hx => hho.cols x ((hin x).1 ((less_mem hrise hk).1 hx).1)
  generalize hcs : colsTo (isIn (colm C l)) C.toNat = cs at *
  subst e
  obtain ⟨p0, p1, p2, p3⟩ := less_find h hk
  have hm := colm_low hb
  apply decide_eq_decide.2
  rw [← p3]
  rcases line_find (find_holes p0) (fun x => by rw [hm]) hr with ⟨g1, g2⟩ | ⟨g1, g2, g3⟩
  · rw [p0] at g2
    exact absurd g2 (by decide)
  · omega
theorem sav_filter {C R B F : Int} {cl l : List Int} (h : findErr C R B F cl l = 0) : (colsTo (isIn (colm C l)) C.toNat).filter (fun s => decide (s ∈ savL C R B F cl l)) = savL C R B F cl l := by
  have hk := find_holes h
  refine rise_ext _ _ ((colsTo_rise _ _).filter _) (need_rise hk h).2.2.1 fun x => ?_
  rw [List.mem_filter, decide_eq_true_eq]
  constructor
  · exact fun hx => hx.2
  · intro hx
    refine ⟨?_, hx⟩
    rw [colsC_eq hk]
    unfold savL at hx
    rw [if_pos h] at hx
    exact (List.mem_filter.1 hx).1
theorem findLC_len {C R B F : Int} {cl l : List Int} : (findL C R B F cl l).length ≤ 1000 := by
  by_cases he : findErr C R B F cl l = 0
  · have hk := find_holes he
    have hb := find_best he
    have hr : Rise C (findL C R B F cl l) := ⟨hb.rise, fun x hx => ⟨(hb.cov.op x hx).lo, (hb.cov.op x hx).hi⟩⟩
    have := rise_len hr
    have := hk.ok.c120
    omega
  · by_cases hk : HolesOk C R B F cl l
    · rw [(find_none hk he).2.1]; simp
    · rw [(find_bad_err hk).2.1]; simp

set_option maxRecDepth 100000 in
set_option maxHeartbeats 4000000 in
/-- the reference's Saves -/
theorem refSaves48_any (C R B F : Int) (A : Option Addr) (cap : Nat) (cl : List Int) (D : Option Addr) (dap : Nat) (l : List Int) (w : World) (hcl : cl.length ≤ 1000000) (hll : l.length ≤ 1000000) (hr : Ints w w.heap.size A cl) (hl : Ints w w.heap.size D l) :
    Calls Try.prog 48 #[.agg #[.int .i64 C, .int .i64 R, .int .i64 B, .int .i64 F, .slice A cl.length cap], .slice D l.length dap] w (RetIntsE w (savL C R B F cl l) (findErr C R B F cl l)) := by
  have hb0 : Below w.heap.size w ((w.alloc (.cells #[.int .i64 C, .int .i64 R, .int .i64 B, .int .i64 F, .slice A cl.length cap] 24)).alloc (.cells #[.slice none 0 0, .int .i64 0] 36)) := (below_new w (.cells #[.int .i64 C, .int .i64 R, .int .i64 B, .int .i64 F, .slice A cl.length cap] 24)).alloc (by simp) _
  have hbk : Blk ((w.alloc (.cells #[.int .i64 C, .int .i64 R, .int .i64 B, .int .i64 F, .slice A cl.length cap] 24)).alloc (.cells #[.slice none 0 0, .int .i64 0] 36)) w.heap.size 24 #[.int .i64 C, .int .i64 R, .int .i64 B, .int .i64 F, .slice A cl.length cap] := (Blk.new _ _ _).alloc _
  have hbq : Blk ((w.alloc (.cells #[.int .i64 C, .int .i64 R, .int .i64 B, .int .i64 F, .slice A cl.length cap] 24)).alloc (.cells #[.slice none 0 0, .int .i64 0] 36)) (w.heap.size + 1) 36 #[.slice none 0 0, .int .i64 0] := Blk.newAt (by simp)
  have iA0 := hr.behind hb0
  have iD0 := hl.behind hb0
  have H95 := Lib.hid (fun (W : World) (ha : Ints W W.heap.size A cl) (hd : Ints W W.heap.size D l) => round95_any C R B F A cap cl D dap l W hcl hll ha hd)
  by_cases he : findErr C R B F cl l = 0
  case neg =>
    have hL0 : savL C R B F cl l = [] := if_neg he
    have n1 : (findErr C R B F cl l == 0) = false := by simpa using he
    have n2 : (findErr C R B F cl l != 0) = true := by simpa using he
    rw [hL0]
    rw [if_neg he] at H95
    clear he hL0
    generalize findErr C R B F cl l = er at *
    generalize (findL C R B F cl l).length = N at *
    go_enter Try.func48, Try.ntmps48
    go_wp2_with (first
      | (go_at_call 95; refine (H95.out _ iA0 iD0).mono ?_; rintro e w1 ⟨E, ec, rfl, e1, e2, iE1, hb1⟩; have hbq1 := hbq.below hb1 (by simp); obtain ⟨m0, m1, m2, m3⟩ : w1.cell? ⟨w.heap.size + 1, 0, none⟩ = some (.slice none 0 0) ∧ w1.cell? ⟨w.heap.size + 1, 1, none⟩ = some (.int .i64 0) ∧ w1.frozen? ⟨w.heap.size + 1, 0, none⟩ = false ∧ w1.frozen? ⟨w.heap.size + 1, 1, none⟩ = false := ⟨hbq1.cell 0, hbq1.cell 1, hbq1.frozen 0, hbq1.frozen 1⟩))
    refine bodyPost_ret (v := .agg #[.slice none 0 0, .int .i64 (er)]) (results_cell_row (g := w.heap.size + 1) rfl _ _ 36 _ (0, 0) _ rfl ((hbq1.store 0 (.slice none 0 0)).store 1 (.int .i64 (er))) Try.underlying36 rfl info36) rfl ?_
    exact ⟨none, 0, rfl, Nat.le_refl _, by simp [maxLen], Ints.nil, ((below_next hb0 (by simp; omega) hb1).setCell (p := ⟨w.heap.size + 1, 0, none⟩) (by simp) _).setCell (p := ⟨w.heap.size + 1, 1, none⟩) (by simp) _⟩
  case pos =>
    have hk := find_holes he
    have hC1 : 1 ≤ C := by have := hk.ok.c3; omega
    have q2 := hk.ok.c120
    have k3 := hk.ok.b0
    have k4 := hk.ok.f0
    have k5 := hk.ok.bf
    have hin := colsTo_in hk
    have hcb : ∀ x ∈ colsTo (isIn (colm C l)) C.toNat, 0 ≤ x ∧ x < C := fun x hx => hk.cols x ((hin x).1 hx)
    have hcn : (colsTo (isIn (colm C l)) C.toNat).length ≤ 120 := by have : (colsTo (isIn (colm C l)) C.toNat).length ≤ C.toNat := colsTo_len _ _; omega
    have HRI : Hid ((colsTo (isIn (colm C l)) C.toNat).Pairwise (· < ·)) := colsTo_rise _ _
    have HP : Hid (∀ (k : Nat) (hk : k < (colsTo (isIn (colm C l)) C.toNat).length), ∀ r, LineP C B F (isIn cl) (lessOf (colsTo (isIn (colm C l)) C.toNat) k) r → decide (r < ((findL C R B F cl l).length : Int)) = (fun s => decide (s ∈ savL C R B F cl l)) ((colsTo (isIn (colm C l)) C.toNat)[k])) := fun k hk r hr => sav_line he hk hr
    have hNl : (findL C R B F cl l).length ≤ 1000 := findLC_len
    have HCB := Lib.hid hcb
    rw [if_pos he, he] at H95
    rw [he, ← sav_filter he]
    clear hk hin hcb he
    generalize colsTo (isIn (colm C l)) C.toNat = cs at *
    generalize (fun s => decide (s ∈ savL C R B F cl l)) = pu at *
    generalize (findL C R B F cl l).length = N at *
    go_enter Try.func48, Try.ntmps48
    go_wp2_with (first
      | (go_at_call 95; refine (H95.out _ iA0 iD0).mono ?_; rintro e w1 ⟨E, ec, rfl, e1, e2, iE1, hb1⟩; have bw1 := below_next hb0 (by simp; omega) hb1; have hbk1 := hbk.below hb1 (by simp; omega); have hbq1 := hbq.below hb1 (by simp); have iA1 := iA0.behind hb1; have hn2 := below_new w1 (.cells #[.slice none 0 0, .int .i64 0] 36); have bw2 := below_next bw1 bw1.size hn2; have hbk2 := hbk1.below hn2 hbk1.lt; have hbq2 := hbq1.below hn2 hbq1.lt; have iA2 := hr.below bw2; have hbg2 := Blk.new w1 36 #[.slice none 0 0, .int .i64 0]; have iE2 := iE1.alloc (Nat.le_refl _) (.cells #[.slice none 0 0, .int .i64 0] 36)))
    have hz1 : w.heap.size + 2 ≤ w1.heap.size := by have := hb1.size; simp at this; omega
    clear hb0 hbk hbq iA0 iD0 H95 hb1 bw1 hbk1 hbq1 iA1 hn2 iE1
    go_loopw [9] (fun i wr => ∃ (k : Nat) (A' : Option Addr) (c' : Nat), k ≤ cs.length ∧ i = .int .i64 k ∧ Below w.heap.size w wr ∧ Blk wr w.heap.size 24 #[.int .i64 C, .int .i64 R, .int .i64 B, .int .i64 F, .slice A cl.length cap] ∧ Blk wr (w.heap.size + 1) 36 #[.slice none 0 0, .int .i64 0] ∧ Blk wr w1.heap.size 36 #[.slice A' ((cs.take k).filter pu).length c', .int .i64 0] ∧ w1.heap.size + 1 ≤ wr.heap.size ∧ wr.ownsRow (w1.heap.size + 1) 3 1 (.slice A' ((cs.take k).filter pu).length c') ((cs.take k).filter pu).length (((cs.take k).filter pu).map (Value.int .i64)) ∧ Ints wr w1.heap.size E cs ∧ Ints wr w.heap.size A cl)
      (fun i _ => cs.length - (intOf i).toNat)
    case atStart => exact ⟨0, none, 0, Nat.zero_le _, rfl, bw2, hbk2, hbq2, hbg2, by simp, World.ownsRow_nil _ _ _ _, iE2, iA2⟩
    case round =>
      clear bw2 hbk2 hbq2 hbg2 iE2 iA2
      obtain ⟨k, A', c', hk, rfl, hb, hbk, hbq, hbg, hzr, hown, iE, iA⟩ := hrel
      obtain ⟨d0, d1, d2, d3, d4⟩ := hbk.five
      have hbs := hb.size
      by_cases hlt : k < cs.length
      · obtain ⟨ad, hA, hadb, hce⟩ := iE.get hlt
        subst hA
        have hlt2 : (k : Int) < (cs.length : Int) := by omega
        have hlt3 : (cs.take k).length = k := by rw [List.length_take]; omega
        have hlt4 : (cs.drop (k + 1)).length = cs.length - (k + 1) := by rw [List.length_drop]
        have hkc : (k : Int) ≤ (ec : Int) := by omega
        have hk1 : (k : Int) + 1 ≤ (cs.length : Int) := by omega
        have hk2 : ((k : Int) + 1).toNat = k + 1 := by omega
        have hk4 : k + 1 ≤ cs.length := hlt
        have hk5 : k ≤ ec := by omega
        have hk6 : (k : Int) + 1 ≤ (ec : Int) := by omega
        have hk7 : (cs.length : Int) ≤ (ec : Int) := by omega
        have hk8 : 0 ≤ (k : Int) + 1 := by omega
        have hk3 : IntKind.i64.wrap ((k : Int) + 1) = (k : Int) + 1 := IntWalk.i64_in _ (by omega)
        have hlo : lessOf cs k = cs.take k ++ cs.drop (k + 1) := rfl
        have HLO := Lib.hid hlo
        have hlen : (lessOf cs k).length = k + (cs.length - (k + 1)) := by rw [hlo, List.length_append, hlt3, hlt4]
        have hlb : ∀ x ∈ lessOf cs k, 0 ≤ x ∧ x < C := fun x hx => HCB.out x ((less_mem HRI.out hlt).1 hx).1
        have H87 : Hid (∀ (X : Option Addr) (xap : Nat) (W : World), Ints W W.heap.size A cl → Ints W W.heap.size X (lessOf cs k) → Calls Try.prog 87 #[.agg #[.int .i64 C, .int .i64 R, .int .i64 B, .int .i64 F, .slice A cl.length cap], .slice X (k + (cs.length - (k + 1))) xap] W fun e w' => ∃ r, e = .returned (.int .i64 r) ∧ LineP C B F (isIn cl) (lessOf cs k) r ∧ Below W.heap.size W w') := fun X xap W ha hx => by
          have := fewest87_any C R B F A cap cl X xap (lessOf cs k) W hC1 q2 k3 k4 k5 hcl (by rw [hlen]; omega) hlb ha hx
          rwa [hlen] at this
        have HPS := Lib.hid (HP.out k hlt)
        have HY := Lib.hid (filt_yes (pu := pu) hlt)
        have HN := Lib.hid (filt_no (pu := pu) hlt)
        have hgl : ((cs.take k).filter pu).length ≤ 120 := by have := filt_len (L := cs) (k := k) (pu := pu); omega
        clear hlo hlen hlb
        generalize (cs.take k).filter pu = gs at *
        obtain ⟨s, hs⟩ : ∃ s, cs[k] = s := ⟨_, rfl⟩
        rw [hs] at HPS HY HN hce
        clear hs
        have iAr := iA.more hbs
        have iEr := iE.more (show w1.heap.size ≤ wr.heap.size by omega)
        have hkl := hbk.lt
        by_cases hkk : ec = k + 1
        ·
          have hdrop : cs.drop (k + 1) = [] := List.eq_nil_of_length_eq_zero (by rw [hlt4]; omega)
          subst hkk
          have hk9 : (k : Int) ≤ (k : Int) + 1 := by omega
          have hk10 : k ≤ k + 1 := by omega
          have HL := H87.out
          have e5 : k + (cs.length - (k + 1)) = k := by omega
          rw [e5] at HL
          clear H87
          have H87 := Lib.hid HL
          clear HL e5
          cases hpu : pu s with
          | true =>
            have HPU := Lib.hid hpu
            clear hpu
            go_wp2_with (first
              | (at_builtin; refine wpl_app (by rfl) _ _ (by rfl) (by rfl) wr.heap.size ([] : List Int) (cs.take k) 0 k k (.slice none 0 0) (some ad) _ wr.heap.size (by rfl) hlt3 (by omega) (by rfl) (World.ownsRow_nil _ _ _ _) (by rfl) (iEr.takeB k) (by omega) (by omega) (Nat.le_refl _) ?_; intro Y1 y1 w4 hown4 hb4; rw [List.nil_append] at hown4)
              | (at_builtin; refine wpl_app (by rfl) _ _ (by rfl) (by rfl) wr.heap.size (cs.take k) (cs.drop (k + 1)) (k) (0) (k) (.slice Y1 k y1) _ _ wr.heap.size hlt3 (by rw [hdrop]; rfl) (by rfl) (by rfl) hown4 (by rfl) (by rw [hdrop]; exact Ints.nil) (by omega) (by omega) hb4.size ?_; intro Y2 y2 w5 hown5 hb5'; have hb5 : Below wr.heap.size wr w5 := hb4.trans hb5'; have hbk5 := hbk.below hb5 hkl; clear d0 d1 d2 d3 d4; obtain ⟨d0, d1, d2, d3, d4⟩ := hbk5.five)
              | (go_at_call 87; refine (H87.out Y2 y2 _ (iAr.behind hb5) (by rw [HLO.out]; exact Ints.of_own hown5)).mono ?_; rintro e w6 ⟨r, rfl, hr6, hb6'⟩; have hb6 : Below wr.heap.size wr w6 := hb5.trans (hb6'.mono hb5.size); have z1 : decide (r < (N : Int)) = true := (HPS.out r hr6).trans HPU.out; have z3 : r < (N : Int) := of_decide_eq_true z1)
              | fail)
            have bw6 := below_next hb hbs hb6
            have hbk6 := hbk.below hb6 hbk.lt
            have hbq6 := hbq.below hb6 hbq.lt
            have hbg6 := hbg.below hb6 hbg.lt
            have hown6 := own_below hown hb6
            have iE6 := iE.below (hb6.mono (show w1.heap.size ≤ wr.heap.size by omega))
            have iA6 := iA.below (hb6.mono hbs)
            have hz6 := hb6.size
            have hce6 := (hb6.cell (p := ad.add k) (by rw [addr_block]; omega)).trans hce
            clear d0 d1 d2 d3 d4 hce
            have HYY := Lib.hid (HY.out HPU.out)
            have u0 := hbg6.cell 0
            have u1 := hbg6.frozen 0
            have b7 : Below w6.heap.size w6 (w6.drew.alloc (.cells #[.int .i64 s] 3)) := (Below.refl _ _).drew.alloc (by simp) _
            have i7 := one_newC w6.drew s
            have hown7 := own_below hown6 b7
            have hz7 : w1.heap.size + 1 ≤ (w6.drew.alloc (.cells #[.int .i64 s] 3)).heap.size := by have := b7.size; omega
            have u0a : (w6.alloc (.cells #[.int .i64 s] 3)).cell? ⟨w1.heap.size, 0, none⟩ = some (.slice A' gs.length c') := (hbg6.alloc _).cell 0
            clear HPU HPS HY HN H87 HLO
            go_wp2_with fail
            go_region_law (rw [if_pos (by rfl)]; refine wp_one _ _ (by rfl) (by rfl) (w1.heap.size + 1) gs s (.slice A' gs.length c') (some ⟨w6.drew.heap.size, 0, none⟩) 1 (w6.drew.alloc (.cells #[.int .i64 s] 3)).heap.size (by rfl) hown7 (by rfl) i7 (by omega) hz7 ?_; intro A8 c8 w8 hown8 hb8'; have hb8 : Below (w1.heap.size + 1) w6 w8 := (b7.mono (by omega)).trans hb8'; have hbg8 := hbg6.below hb8 (by omega); have u08 := hbg8.cell 0; have u18 := hbg8.frozen 0; have bw8 : Below w.heap.size w w8 := bw6.trans (hb8.mono (by omega)); have hbk8 := hbk6.below hb8 (by omega); have hbq8 := hbq6.below hb8 (by omega); have iE8 := iE6.below (hb8.mono (by omega)); have iA8 := iA6.below (hb8.mono (by omega)); have hz8 := hb8.size)
            all_goals (
              go_wp2_with fail
              go_roundw
              case rel =>
                refine ⟨k + 1, A8, c8, by omega, by go_num, bw8.setCell (p := ⟨w1.heap.size, 0, none⟩) (by simp; omega) _, hbk8.far (p := ⟨w1.heap.size, 0, none⟩) (by simp; omega) _, hbq8.far (p := ⟨w1.heap.size, 0, none⟩) (by simp; omega) _, ?_, by simp [World.setCell]; omega, ?_, iE8.setCell (p := ⟨w1.heap.size, 0, none⟩) (by simp) _, iA8.setCell (p := ⟨w1.heap.size, 0, none⟩) (by simp; omega) _⟩
                · have h9 := hbg8.store 0 (.slice A8 (gs.length + 1) c8)
                  rw [HYY.out, show (gs ++ [s]).length = gs.length + 1 by simp]
                  exact h9
                · rw [HYY.out, show (gs ++ [s]).length = gs.length + 1 by simp]; exact ownsRow_setCell_below hown8 (a := ⟨w1.heap.size, 0, none⟩) (show w1.heap.size < w1.heap.size + 1 by omega) _
              case measure => simp [intOf]; try omega)
          | false =>
            have HPU := Lib.hid hpu
            clear hpu
            go_wp2_with (first
              | (at_builtin; refine wpl_app (by rfl) _ _ (by rfl) (by rfl) wr.heap.size ([] : List Int) (cs.take k) 0 k k (.slice none 0 0) (some ad) _ wr.heap.size (by rfl) hlt3 (by omega) (by rfl) (World.ownsRow_nil _ _ _ _) (by rfl) (iEr.takeB k) (by omega) (by omega) (Nat.le_refl _) ?_; intro Y1 y1 w4 hown4 hb4; rw [List.nil_append] at hown4)
              | (at_builtin; refine wpl_app (by rfl) _ _ (by rfl) (by rfl) wr.heap.size (cs.take k) (cs.drop (k + 1)) (k) (0) (k) (.slice Y1 k y1) _ _ wr.heap.size hlt3 (by rw [hdrop]; rfl) (by rfl) (by rfl) hown4 (by rfl) (by rw [hdrop]; exact Ints.nil) (by omega) (by omega) hb4.size ?_; intro Y2 y2 w5 hown5 hb5'; have hb5 : Below wr.heap.size wr w5 := hb4.trans hb5'; have hbk5 := hbk.below hb5 hkl; clear d0 d1 d2 d3 d4; obtain ⟨d0, d1, d2, d3, d4⟩ := hbk5.five)
              | (go_at_call 87; refine (H87.out Y2 y2 _ (iAr.behind hb5) (by rw [HLO.out]; exact Ints.of_own hown5)).mono ?_; rintro e w6 ⟨r, rfl, hr6, hb6'⟩; have hb6 : Below wr.heap.size wr w6 := hb5.trans (hb6'.mono hb5.size); have z1 : decide (r < (N : Int)) = false := (HPS.out r hr6).trans HPU.out; have z3 : ¬ r < (N : Int) := of_decide_eq_false z1)
              | fail)
            have bw6 := below_next hb hbs hb6
            have hbk6 := hbk.below hb6 hbk.lt
            have hbq6 := hbq.below hb6 hbq.lt
            have hbg6 := hbg.below hb6 hbg.lt
            have hown6 := own_below hown hb6
            have iE6 := iE.below (hb6.mono (show w1.heap.size ≤ wr.heap.size by omega))
            have iA6 := iA.below (hb6.mono hbs)
            have hz6 := hb6.size
            have hce6 := (hb6.cell (p := ad.add k) (by rw [addr_block]; omega)).trans hce
            clear d0 d1 d2 d3 d4 hce
            have HYY := Lib.hid (HN.out HPU.out)
            clear HPU HPS HY HN H87 HLO
            go_wp2_with fail
            go_roundw
            case rel => exact ⟨k + 1, A', c', by omega, by go_num, bw6, hbk6, hbq6, by rw [HYY.out]; exact hbg6, by omega, by rw [HYY.out]; exact hown6, iE6, iA6⟩
            case measure => simp [intOf]; try omega
        ·
          cases hpu : pu s with
          | true =>
            have HPU := Lib.hid hpu
            clear hpu
            go_wp2_with (first
              | (at_builtin; refine wpl_app (by rfl) _ _ (by rfl) (by rfl) wr.heap.size ([] : List Int) (cs.take k) 0 k k (.slice none 0 0) (some ad) _ wr.heap.size (by rfl) hlt3 (by omega) (by rfl) (World.ownsRow_nil _ _ _ _) (by rfl) (iEr.takeB k) (by omega) (by omega) (Nat.le_refl _) ?_; intro Y1 y1 w4 hown4 hb4; rw [List.nil_append] at hown4)
              | (at_builtin; refine wpl_app (by rfl) _ _ (by rfl) (by rfl) wr.heap.size (cs.take k) (cs.drop (k + 1)) (k) (cs.length - (k + 1)) (k + (cs.length - (k + 1))) (.slice Y1 k y1) _ _ wr.heap.size hlt3 hlt4 (by rfl) (by rfl) hown4 (by rfl) ((iEr.dropB (k + 1)).below hb4) (by omega) (by omega) hb4.size ?_; intro Y2 y2 w5 hown5 hb5'; have hb5 : Below wr.heap.size wr w5 := hb4.trans hb5'; have hbk5 := hbk.below hb5 hkl; clear d0 d1 d2 d3 d4; obtain ⟨d0, d1, d2, d3, d4⟩ := hbk5.five)
              | (go_at_call 87; refine (H87.out Y2 y2 _ (iAr.behind hb5) (by rw [HLO.out]; exact Ints.of_own hown5)).mono ?_; rintro e w6 ⟨r, rfl, hr6, hb6'⟩; have hb6 : Below wr.heap.size wr w6 := hb5.trans (hb6'.mono hb5.size); have z1 : decide (r < (N : Int)) = true := (HPS.out r hr6).trans HPU.out; have z3 : r < (N : Int) := of_decide_eq_true z1)
              | fail)
            have bw6 := below_next hb hbs hb6
            have hbk6 := hbk.below hb6 hbk.lt
            have hbq6 := hbq.below hb6 hbq.lt
            have hbg6 := hbg.below hb6 hbg.lt
            have hown6 := own_below hown hb6
            have iE6 := iE.below (hb6.mono (show w1.heap.size ≤ wr.heap.size by omega))
            have iA6 := iA.below (hb6.mono hbs)
            have hz6 := hb6.size
            have hce6 := (hb6.cell (p := ad.add k) (by rw [addr_block]; omega)).trans hce
            clear d0 d1 d2 d3 d4 hce
            have HYY := Lib.hid (HY.out HPU.out)
            have u0 := hbg6.cell 0
            have u1 := hbg6.frozen 0
            have b7 : Below w6.heap.size w6 (w6.drew.alloc (.cells #[.int .i64 s] 3)) := (Below.refl _ _).drew.alloc (by simp) _
            have i7 := one_newC w6.drew s
            have hown7 := own_below hown6 b7
            have hz7 : w1.heap.size + 1 ≤ (w6.drew.alloc (.cells #[.int .i64 s] 3)).heap.size := by have := b7.size; omega
            have u0a : (w6.alloc (.cells #[.int .i64 s] 3)).cell? ⟨w1.heap.size, 0, none⟩ = some (.slice A' gs.length c') := (hbg6.alloc _).cell 0
            clear HPU HPS HY HN H87 HLO
            go_wp2_with fail
            go_region_law (rw [if_pos (by rfl)]; refine wp_one _ _ (by rfl) (by rfl) (w1.heap.size + 1) gs s (.slice A' gs.length c') (some ⟨w6.drew.heap.size, 0, none⟩) 1 (w6.drew.alloc (.cells #[.int .i64 s] 3)).heap.size (by rfl) hown7 (by rfl) i7 (by omega) hz7 ?_; intro A8 c8 w8 hown8 hb8'; have hb8 : Below (w1.heap.size + 1) w6 w8 := (b7.mono (by omega)).trans hb8'; have hbg8 := hbg6.below hb8 (by omega); have u08 := hbg8.cell 0; have u18 := hbg8.frozen 0; have bw8 : Below w.heap.size w w8 := bw6.trans (hb8.mono (by omega)); have hbk8 := hbk6.below hb8 (by omega); have hbq8 := hbq6.below hb8 (by omega); have iE8 := iE6.below (hb8.mono (by omega)); have iA8 := iA6.below (hb8.mono (by omega)); have hz8 := hb8.size)
            all_goals (
              go_wp2_with fail
              go_roundw
              case rel =>
                refine ⟨k + 1, A8, c8, by omega, by go_num, bw8.setCell (p := ⟨w1.heap.size, 0, none⟩) (by simp; omega) _, hbk8.far (p := ⟨w1.heap.size, 0, none⟩) (by simp; omega) _, hbq8.far (p := ⟨w1.heap.size, 0, none⟩) (by simp; omega) _, ?_, by simp [World.setCell]; omega, ?_, iE8.setCell (p := ⟨w1.heap.size, 0, none⟩) (by simp) _, iA8.setCell (p := ⟨w1.heap.size, 0, none⟩) (by simp; omega) _⟩
                · have h9 := hbg8.store 0 (.slice A8 (gs.length + 1) c8)
                  rw [HYY.out, show (gs ++ [s]).length = gs.length + 1 by simp]
                  exact h9
                · rw [HYY.out, show (gs ++ [s]).length = gs.length + 1 by simp]; exact ownsRow_setCell_below hown8 (a := ⟨w1.heap.size, 0, none⟩) (show w1.heap.size < w1.heap.size + 1 by omega) _
              case measure => simp [intOf]; try omega)
          | false =>
            have HPU := Lib.hid hpu
            clear hpu
            go_wp2_with (first
              | (at_builtin; refine wpl_app (by rfl) _ _ (by rfl) (by rfl) wr.heap.size ([] : List Int) (cs.take k) 0 k k (.slice none 0 0) (some ad) _ wr.heap.size (by rfl) hlt3 (by omega) (by rfl) (World.ownsRow_nil _ _ _ _) (by rfl) (iEr.takeB k) (by omega) (by omega) (Nat.le_refl _) ?_; intro Y1 y1 w4 hown4 hb4; rw [List.nil_append] at hown4)
              | (at_builtin; refine wpl_app (by rfl) _ _ (by rfl) (by rfl) wr.heap.size (cs.take k) (cs.drop (k + 1)) (k) (cs.length - (k + 1)) (k + (cs.length - (k + 1))) (.slice Y1 k y1) _ _ wr.heap.size hlt3 hlt4 (by rfl) (by rfl) hown4 (by rfl) ((iEr.dropB (k + 1)).below hb4) (by omega) (by omega) hb4.size ?_; intro Y2 y2 w5 hown5 hb5'; have hb5 : Below wr.heap.size wr w5 := hb4.trans hb5'; have hbk5 := hbk.below hb5 hkl; clear d0 d1 d2 d3 d4; obtain ⟨d0, d1, d2, d3, d4⟩ := hbk5.five)
              | (go_at_call 87; refine (H87.out Y2 y2 _ (iAr.behind hb5) (by rw [HLO.out]; exact Ints.of_own hown5)).mono ?_; rintro e w6 ⟨r, rfl, hr6, hb6'⟩; have hb6 : Below wr.heap.size wr w6 := hb5.trans (hb6'.mono hb5.size); have z1 : decide (r < (N : Int)) = false := (HPS.out r hr6).trans HPU.out; have z3 : ¬ r < (N : Int) := of_decide_eq_false z1)
              | fail)
            have bw6 := below_next hb hbs hb6
            have hbk6 := hbk.below hb6 hbk.lt
            have hbq6 := hbq.below hb6 hbq.lt
            have hbg6 := hbg.below hb6 hbg.lt
            have hown6 := own_below hown hb6
            have iE6 := iE.below (hb6.mono (show w1.heap.size ≤ wr.heap.size by omega))
            have iA6 := iA.below (hb6.mono hbs)
            have hz6 := hb6.size
            have hce6 := (hb6.cell (p := ad.add k) (by rw [addr_block]; omega)).trans hce
            clear d0 d1 d2 d3 d4 hce
            have HYY := Lib.hid (HN.out HPU.out)
            clear HPU HPS HY HN H87 HLO
            go_wp2_with fail
            go_roundw
            case rel => exact ⟨k + 1, A', c', by omega, by go_num, bw6, hbk6, hbq6, by rw [HYY.out]; exact hbg6, by omega, by rw [HYY.out]; exact hown6, iE6, iA6⟩
            case measure => simp [intOf]; try omega
      · obtain rfl : k = cs.length := by omega
        rw [List.take_length] at hbg hown
        have u0 := hbg.cell 0
        have u1 := hbg.cell 1
        obtain ⟨m0, m1, m2, m3⟩ : wr.cell? ⟨w.heap.size + 1, 0, none⟩ = some (.slice none 0 0) ∧ wr.cell? ⟨w.heap.size + 1, 1, none⟩ = some (.int .i64 0) ∧ wr.frozen? ⟨w.heap.size + 1, 0, none⟩ = false ∧ wr.frozen? ⟨w.heap.size + 1, 1, none⟩ = false := ⟨hbq.cell 0, hbq.cell 1, hbq.frozen 0, hbq.frozen 1⟩
        go_wp2_with fail
        obtain ⟨s1, s2, _⟩ := own_facts hown
        refine bodyPost_ret (v := .agg #[.slice A' (cs.filter pu).length c', .int .i64 0]) (results_cell_row (g := w.heap.size + 1) rfl _ _ 36 _ (0, 0) _ rfl ((hbq.store 0 (.slice A' (cs.filter pu).length c')).store 1 (.int .i64 0)) Try.underlying36 rfl info36) rfl ?_
        exact ⟨A', c', rfl, s1, s2, Ints.of_own (ownsRow_setCell_below (ownsRow_setCell_below hown (a := ⟨w.heap.size + 1, 0, none⟩) (show w.heap.size + 1 < w1.heap.size + 1 by omega) _) (a := ⟨w.heap.size + 1, 1, none⟩) (show w.heap.size + 1 < w1.heap.size + 1 by omega) _), (hb.setCell (p := ⟨w.heap.size + 1, 0, none⟩) (by simp) _).setCell (p := ⟨w.heap.size + 1, 1, none⟩) (by simp) _⟩

end Go.Proofs.Ytnjmkdgglpcfpaa
