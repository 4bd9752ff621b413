import Derived.Test.YtnjmkdgglpcfpaaC17
import Derived.Test.YtnjmkdgglpcfpaaM9
namespace Go.Proofs.Ytnjmkdgglpcfpaa
set_option linter.unusedSimpArgs false
set_option linter.unusedVariables false
open Go.RowKit

theorem covL_iff {C R B F : Int} {cl l cs S : List Int} (hk : HolesOk C R B F cl l) (hcs : ∀ x, x ∈ cs ↔ x ∈ colm C l) : CovL C B F (isIn cl) cs S ↔ Cov C B F (isIn cl) (isIn (colm C l)) S := by
  constructor
  · rintro ⟨h1, h2⟩
    exact ⟨h1, fun x x0 x1 hx => h2 x ((hcs x).2 (by rwa [isIn_iff, Int.toNat_of_nonneg x0] at hx))⟩
  · rintro ⟨h1, h2⟩
    refine ⟨h1, fun x hx => ?_⟩
    have hx' := (hcs x).1 hx
    obtain ⟨x0, x1⟩ := hk.cols x hx'
    exact h2 x x0 x1 (by rw [isIn_iff, Int.toNat_of_nonneg x0]; exact hx')
/-- the reference's number is the program's -/
theorem line_find {C R B F : Int} {cl l cs : List Int} (hk : HolesOk C R B F cl l) (hcs : ∀ x, x ∈ cs ↔ x ∈ colm C l) {r : Int} (h : LineP C B F (isIn cl) cs r) : (r < 0 ∧ findErr C R B F cl l = 5) ∨ (0 ≤ r ∧ findErr C R B F cl l = 0 ∧ r = (findL C R B F cl l).length) := by
  by_cases he : findErr C R B F cl l = 0
  · right
    have hb := find_best he
    rcases h with ⟨rfl, x, hx, hno⟩ | ⟨S, h1, h2, h3⟩
    · have := ((covL_iff hk hcs).2 hb.cov).all x hx
      obtain ⟨t, ht, hr⟩ := this
      rw [hno t (hb.cov.op t ht)] at hr
      cases hr
    · have e1 := h3 _ ((covL_iff hk hcs).2 hb.cov)
      have e2 := hb.least _ ((covL_iff hk hcs).1 h1)
      exact ⟨by omega, he, by omega⟩
  · left
    obtain ⟨h5, _, hno⟩ := find_none hk he
    refine ⟨?_, h5⟩
    rcases h with ⟨rfl, _⟩ | ⟨S, h1, h2, h3⟩
    · omega
    · exact absurd ((covL_iff hk hcs).1 h1) (hno S)
theorem colsTo_in {C R B F : Int} {cl l : List Int} (hk : HolesOk C R B F cl l) (x : Int) : x ∈ colsTo (isIn (colm C l)) C.toNat ↔ x ∈ colm C l := by
  rw [colsTo_mem]
  constructor
  · rintro ⟨i, hi, hp, rfl⟩
    exact isIn_iff.1 hp
  · intro hx
    have := hk.cols x hx
    exact ⟨x.toNat, by omega, by rw [isIn_iff, Int.toNat_of_nonneg this.1]; exact hx, by omega⟩

set_option maxRecDepth 100000 in
set_option maxHeartbeats 2000000 in
/-- the reference's Count -/
theorem refCount38_any (C R B F : Int) (A : Option Addr) (cap : Nat) (cl : List Int) (D : Option Addr) (dap : Nat) (l : List Int) (w : World) (hcl : cl.length ≤ 1000000) (hll : l.length ≤ 1000000) (hr : Ints w w.heap.size A cl) (hl : Ints w w.heap.size D l) :
    Calls Try.prog 38 #[.agg #[.int .i64 C, .int .i64 R, .int .i64 B, .int .i64 F, .slice A cl.length cap], .slice D l.length dap] w fun e w' => e = .returned (.agg #[.int .i64 (findL C R B F cl l).length, .int .i64 (findErr C R B F cl l)]) ∧ Below w.heap.size w w' := by
  have hb0 : Below w.heap.size w ((w.alloc (.cells #[.int .i64 C, .int .i64 R, .int .i64 B, .int .i64 F, .slice A cl.length cap] 24)).alloc (.cells #[.int .i64 0, .int .i64 0] 31)) := (below_new w (.cells #[.int .i64 C, .int .i64 R, .int .i64 B, .int .i64 F, .slice A cl.length cap] 24)).alloc (by simp) _
  have hbk : Blk ((w.alloc (.cells #[.int .i64 C, .int .i64 R, .int .i64 B, .int .i64 F, .slice A cl.length cap] 24)).alloc (.cells #[.int .i64 0, .int .i64 0] 31)) w.heap.size 24 #[.int .i64 C, .int .i64 R, .int .i64 B, .int .i64 F, .slice A cl.length cap] := (Blk.new _ _ _).alloc _
  have hbq : Blk ((w.alloc (.cells #[.int .i64 C, .int .i64 R, .int .i64 B, .int .i64 F, .slice A cl.length cap] 24)).alloc (.cells #[.int .i64 0, .int .i64 0] 31)) (w.heap.size + 1) 31 #[.int .i64 0, .int .i64 0] := Blk.newAt (by simp)
  have hr1 := hr.behind hb0
  have hl1 := hl.behind hb0
  by_cases he : holesErr C R B F cl l = 0
  · have hk := holesErr_zero.1 he
    have k1 := hk.ok.c3
    have k2 := hk.ok.c120
    have k3 := hk.ok.b0
    have k4 := hk.ok.f0
    have k5 := hk.ok.bf
    have hpos : ∀ x ∈ l, 0 ≤ x := fun x hx => (hk.all x hx).1
    have hin := colsTo_in hk
    have HF : Hid (∀ r, LineP C B F (isIn cl) (colsTo (isIn (colm C l)) C.toNat) r → (r < 0 ∧ findErr C R B F cl l = 5) ∨ (0 ≤ r ∧ findErr C R B F cl l = 0 ∧ r = (findL C R B F cl l).length)) := fun r => line_find hk hin
    have hno : Hid (findErr C R B F cl l = 5 → findL C R B F cl l = []) := fun h => (find_none hk (by rw [h]; decide)).2.1
    have hcb : ∀ x ∈ colsTo (isIn (colm C l)) C.toNat, 0 ≤ x ∧ x < C := fun x hx => hk.cols x ((hin x).1 hx)
    have hcn : (colsTo (isIn (colm C l)) C.toNat).length ≤ 1000 := by have : (colsTo (isIn (colm C l)) C.toNat).length ≤ C.toNat := colsTo_len _ _; omega
    have HE := Lib.hid he
    have refColumns80 := Lib.hid (fun (W : World) (hd : Ints W W.heap.size D l) => refColumns_own C R B F (.slice A cl.length cap) D dap l W (by omega) k2 hll hpos hd)
    clear he hk hin
    generalize colsTo (isIn (colm C l)) C.toNat = cs at *
    go_enter Try.func38, Try.ntmps38
    go_wp2_with (first
      | (go_at_call 79; refine (wanted_any C R B F A cap cl D dap l _ hcl hll hr1 hl1).mono ?_; rw [HE.out]; rintro e w1 ⟨rfl, hb1⟩; have hbq1 := hbq.below hb1 (by simp); have hbk1 := hbk.below hb1 (by simp; omega); obtain ⟨d0, d1, d2, d3, d4⟩ := hbk1.five; have iA1 := hr1.behind hb1; have iD1 := hl1.behind hb1))
    have hkl := hbk1.lt
    go_region_held3 (fun w' => w'.cell? ⟨w.heap.size, 0, none⟩ = some (.int .i64 C) ∧ w'.cell? ⟨w.heap.size, 1, none⟩ = some (.int .i64 R) ∧ w'.cell? ⟨w.heap.size, 2, none⟩ = some (.int .i64 B) ∧ w'.cell? ⟨w.heap.size, 3, none⟩ = some (.int .i64 F) ∧ w'.cell? ⟨w.heap.size, 4, none⟩ = some (.slice A cl.length cap)) (first | exact kH3.five | exact kH2.five | exact ⟨d0, d1, d2, d3, d4⟩ | go_keep)
      (first
        | (go_at_call 80; refine (refColumns80.out _ (by first | exact iD1 | exact iD1.behind (Below.refl _ _).drew)).mono ?_; rintro e w2 ⟨S, sap, rfl, hown2, hb2'⟩; have hb2 : Below w1.heap.size w1 w2 := (by first | exact hb2' | exact (Below.refl _ _).drew.trans hb2'); have kH2 := hbk1.below hb2 hkl; have iA2 := iA1.behind hb2; have hbq2 := hbq1.below hb2 hbq1.lt)
        | (go_at_call 87; refine (fewest87_any C R B F A cap cl S sap cs _ (by omega) k2 k3 k4 k5 hcl hcn hcb iA2 (Ints.of_own hown2)).mono ?_; rintro e w3 ⟨r, rfl, hr3, hb3⟩; have kH3 := kH2.below hb3 kH2.lt; have hbq3 := hbq2.below hb3 hbq2.lt))
    obtain ⟨m0, m1, m2, m3⟩ : w3.cell? ⟨w.heap.size + 1, 0, none⟩ = some (.int .i64 0) ∧ w3.cell? ⟨w.heap.size + 1, 1, none⟩ = some (.int .i64 0) ∧ w3.frozen? ⟨w.heap.size + 1, 0, none⟩ = false ∧ w3.frozen? ⟨w.heap.size + 1, 1, none⟩ = false := ⟨hbq3.cell 0, hbq3.cell 1, hbq3.frozen 0, hbq3.frozen 1⟩
    have bw3 := below_next (below_next (below_next hb0 (by simp; omega) hb1) (by have := hb1.size; simp at this; omega) hb2) (by have := hb1.size; have := hb2.size; simp at *; omega) hb3
    have hrb : r ≤ 1000 := by have := hr3.le; omega
    rcases HF.out r hr3 with ⟨g1, g2⟩ | ⟨g1, g2, g3⟩
    · have g4 : decide (r < 0) = true := decide_eq_true g1
      have G2 := Lib.hid g2
      have G3 := Lib.hid (hno.out g2)
      clear hr3 HF hno g2
      go_wp2_with fail
      refine bodyPost_ret (v := .agg #[.int .i64 0, .int .i64 5]) (results_cell_row (g := w.heap.size + 1) rfl _ _ 31 _ (0, 0) _ rfl ((hbq3.store 0 (.int .i64 0)).store 1 (.int .i64 5)) Try.underlying31 rfl info31) rfl ?_
      exact ⟨by rw [G2.out, G3.out]; rfl, ((bw3.setCell (p := ⟨w.heap.size + 1, 0, none⟩) (by simp) _).setCell (p := ⟨w.heap.size + 1, 1, none⟩) (by simp) _)⟩
    · have g5 : ¬ r < 0 := by omega
      have g4 : decide (r < 0) = false := decide_eq_false g5
      have G2 := Lib.hid g2
      have G3 := Lib.hid g3
      clear hr3 HF hno g2 g3
      go_wp2_with fail
      refine bodyPost_ret (v := .agg #[.int .i64 r, .int .i64 0]) (results_cell_row (g := w.heap.size + 1) rfl _ _ 31 _ (0, 0) _ rfl ((hbq3.store 0 (.int .i64 r)).store 1 (.int .i64 0)) Try.underlying31 rfl info31) rfl ?_
      exact ⟨by rw [G2.out, ← G3.out], ((bw3.setCell (p := ⟨w.heap.size + 1, 0, none⟩) (by simp) _).setCell (p := ⟨w.heap.size + 1, 1, none⟩) (by simp) _)⟩
  · have n1 : (holesErr C R B F cl l == 0) = false := by simpa using he
    have n2 : (holesErr C R B F cl l != 0) = true := by simpa using he
    obtain ⟨f1, f2⟩ : findErr C R B F cl l = holesErr C R B F cl l ∧ findL C R B F cl l = [] := findErr_bad fun h => he (holesErr_zero.2 h)
    rw [f1, f2]
    clear he f1 f2
    go_enter Try.func38, Try.ntmps38
    go_wp2_with (first
      | (go_at_call 79; refine (wanted_any C R B F A cap cl D dap l _ hcl hll hr1 hl1).mono ?_; rintro e w1 ⟨rfl, hb1⟩; have hbq1 := hbq.below hb1 (by simp); obtain ⟨m0, m1, m2, m3⟩ : w1.cell? ⟨w.heap.size + 1, 0, none⟩ = some (.int .i64 0) ∧ w1.cell? ⟨w.heap.size + 1, 1, none⟩ = some (.int .i64 0) ∧ w1.frozen? ⟨w.heap.size + 1, 0, none⟩ = false ∧ w1.frozen? ⟨w.heap.size + 1, 1, none⟩ = false := ⟨hbq1.cell 0, hbq1.cell 1, hbq1.frozen 0, hbq1.frozen 1⟩))
    refine bodyPost_ret (v := .agg #[.int .i64 0, .int .i64 (holesErr C R B F cl l)]) (results_cell_row (g := w.heap.size + 1) rfl _ _ 31 _ (0, 0) _ rfl ((hbq1.store 0 (.int .i64 0)).store 1 (.int .i64 (holesErr C R B F cl l))) Try.underlying31 rfl info31) rfl ?_
    exact ⟨rfl, (((below_next hb0 (by simp; omega) hb1).setCell (p := ⟨w.heap.size + 1, 0, none⟩) (by simp) _).setCell (p := ⟨w.heap.size + 1, 1, none⟩) (by simp) _)⟩

/-- columns and a number, or an error -/
def RetRound (w : World) (cs : List Int) (n er : Int) (e : Ending) (w' : World) : Prop :=
  ∃ A c, e = .returned (.tuple #[.slice A cs.length c, .int .i64 n, .int .i64 er]) ∧ cs.length ≤ c ∧ c ≤ maxLen ∧ Ints w' w'.heap.size A cs ∧ Below w.heap.size w w'

set_option maxRecDepth 100000 in
set_option maxHeartbeats 2000000 in
/-- the reference's columns with their number -/
theorem round95_any (C R B F : Int) (A : Option Addr) (cap : Nat) (cl : List Int) (D : Option Addr) (dap : Nat) (l : List Int) (w : World) (hcl : cl.length ≤ 1000000) (hll : l.length ≤ 1000000) (hr : Ints w w.heap.size A cl) (hl : Ints w w.heap.size D l) :
    Calls Try.prog 95 #[.agg #[.int .i64 C, .int .i64 R, .int .i64 B, .int .i64 F, .slice A cl.length cap], .slice D l.length dap] w (RetRound w (if findErr C R B F cl l = 0 then colsTo (isIn (colm C l)) C.toNat else []) (findL C R B F cl l).length (findErr C R B F cl l)) := by
  have bw0 := below_new w (.cells #[.int .i64 C, .int .i64 R, .int .i64 B, .int .i64 F, .slice A cl.length cap] 24)
  have kH0 := Blk.new w 24 #[.int .i64 C, .int .i64 R, .int .i64 B, .int .i64 F, .slice A cl.length cap]
  have iA0 := hr.behind bw0
  have iD0 := hl.behind bw0
  have H38 := Lib.hid (fun (W : World) (ha : Ints W W.heap.size A cl) (hd : Ints W W.heap.size D l) => refCount38_any C R B F A cap cl D dap l W hcl hll ha hd)
  have hno : findErr C R B F cl l ≠ 0 → findL C R B F cl l = [] := fun h => by
    by_cases hk : HolesOk C R B F cl l
    · exact (find_none hk h).2.1
    · exact (find_bad_err hk).2.1
  have A38 : True := trivial
  by_cases he : findErr C R B F cl l = 0
  · have hk := find_holes he
    have k1 := hk.ok.c3
    have k2 := hk.ok.c120
    have hpos : ∀ x ∈ l, 0 ≤ x := fun x hx => (hk.all x hx).1
    have H80 := Lib.hid (fun (W : World) (hd : Ints W W.heap.size D l) => refColumns_own C R B F (.slice A cl.length cap) D dap l W (by omega) k2 hll hpos hd)
    rw [if_pos he]
    rw [he] at H38 ⊢
    clear he hk hno
    generalize colsTo (isIn (colm C l)) C.toNat = cs at *
    generalize (findL C R B F cl l).length = N at *
    go_enter Try.func95, Try.ntmps95
    go_wp2_with (first
      | (go_at_call 38; refine (H38.out _ iA0 iD0).mono ?_; rintro e w1 ⟨rfl, hb1⟩; have bw1 := below_next bw0 bw0.size hb1; have hn2 := below_new w1 (.cells #[.int .i64 (N : Nat), .int .i64 0] 31); have bw2 := below_next bw1 bw1.size hn2; have kH2 := (kH0.below hb1 kH0.lt).below hn2 (kH0.below hb1 kH0.lt).lt; have iD2 := (iD0.behind hb1).behind hn2; have kN2 := Blk.new w1 31 #[.int .i64 (N : Nat), .int .i64 0]; obtain ⟨d0, d1, d2, d3, d4⟩ := kH2.five; have m0 := kN2.cell 0; have m1 := kN2.cell 1)
      | fail)
    have hkl := kH2.lt
    have hnl := kN2.lt
    go_region_held3 (fun w' => (w'.cell? ⟨w.heap.size, 0, none⟩ = some (.int .i64 C) ∧ w'.cell? ⟨w.heap.size, 1, none⟩ = some (.int .i64 R) ∧ w'.cell? ⟨w.heap.size, 2, none⟩ = some (.int .i64 B) ∧ w'.cell? ⟨w.heap.size, 3, none⟩ = some (.int .i64 F) ∧ w'.cell? ⟨w.heap.size, 4, none⟩ = some (.slice A cl.length cap)) ∧ w'.cell? ⟨w1.heap.size, 0, none⟩ = some (.int .i64 (N : Nat))) (first | exact ⟨kH3.five, kN3.cell 0⟩ | exact ⟨⟨d0, d1, d2, d3, d4⟩, m0⟩ | go_keep)
      (first
        | (go_at_call 80; refine (H80.out _ (by first | exact iD2 | exact iD2.behind (Below.refl _ _).drew)).mono ?_; rintro e w3 ⟨S, sap, rfl, hown3, hb3'⟩; have hb3 : Below (w1.alloc (.cells #[.int .i64 (N : Nat), .int .i64 0] 31)).heap.size (w1.alloc (.cells #[.int .i64 (N : Nat), .int .i64 0] 31)) w3 := (by first | exact hb3' | exact (Below.refl _ _).drew.trans hb3'); have kH3 := kH2.below hb3 hkl; have kN3 := kN2.below hb3 hnl))
    obtain ⟨s1, s2, s3⟩ := own_facts hown3
    go_wp2_with fail
    go_ret3
    exact ⟨S, sap, rfl, s1, s2, s3, below_next bw2 bw2.size hb3⟩
  · have n1 : (findErr C R B F cl l == 0) = false := by simpa using he
    have n2 : (findErr C R B F cl l != 0) = true := by simpa using he
    rw [if_neg he, hno he]
    rw [hno he] at H38
    clear he hno
    generalize findErr C R B F cl l = er at *
    go_enter Try.func95, Try.ntmps95
    go_wp2_with (first
      | (go_at_call 38; refine (H38.out _ iA0 iD0).mono ?_; rintro e w1 ⟨rfl, hb1⟩; have bw1 := below_next bw0 bw0.size hb1; have hn2 := below_new w1 (.cells #[.int .i64 (([] : List Int).length : Nat), .int .i64 er] 31); have bw2 := below_next bw1 bw1.size hn2; have kN2 := Blk.new w1 31 #[.int .i64 (([] : List Int).length : Nat), .int .i64 er]; have m0 := kN2.cell 0; have m1 := kN2.cell 1)
      | fail)
    go_quiet (fail)
    go_wp2_with fail
    go_ret3
    exact ⟨none, 0, rfl, Nat.le_refl _, by simp [maxLen], Ints.nil, below_drewN bw2 _⟩

end Go.Proofs.Ytnjmkdgglpcfpaa
