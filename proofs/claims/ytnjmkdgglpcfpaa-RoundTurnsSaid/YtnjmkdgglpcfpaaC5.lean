import Derived.Test.YtnjmkdgglpcfpaaM6
namespace Go.Proofs.Ytnjmkdgglpcfpaa
set_option linter.unusedSimpArgs false
set_option linter.unusedVariables false
open Go.RowKit

theorem farR_in {C s r : Int} {l : List Int} (hC : 1 ≤ C) : 0 ≤ farR C s l r ∧ farR C s l r ≤ C :=
  ⟨(farR_ge l 0).1, farR_le (by omega) l (fun x _ _ => by have := Int.emod_nonneg (x + -s) (b := C) (by omega); omega) 0 (by omega)⟩
theorem refLenTo_in {C s : Int} {l : List Int} (hC : 1 ≤ C) : ∀ k : Nat, 0 ≤ refLenTo C s l k ∧ refLenTo C s l k ≤ C
  | 0 => by simp [refLenTo]; omega
  | k + 1 => by
    have h := refLenTo_in (s := s) (l := l) hC k
    have h2 := farR_in (C := C) (s := s) (r := (k : Int)) (l := l) hC
    rw [refLenTo_succ]
    omega

set_option maxRecDepth 100000 in
set_option maxHeartbeats 4000000 in
theorem length_bad (C R B F : Int) (A : Option Addr) (cap : Nat) (cl : List Int) (s : Int) (D : Option Addr) (dap : Nat) (l : List Int) (w : World) (hcl : cl.length ≤ 1000000) (hll : l.length ≤ 1000000) (hr : Ints w w.heap.size A cl) (hl : Ints w w.heap.size D l) (hw : wayErr C R B F cl s l ≠ 0) :
    Calls Try.prog 52 #[.agg #[.int .i64 C, .int .i64 R, .int .i64 B, .int .i64 F, .slice A cl.length cap], .int .i64 s, .slice D l.length dap] w fun e w' => e = .returned (.agg #[.int .i64 0, .int .i64 (wayErr C R B F cl s l)]) ∧ Below w.heap.size w w' := by
  have hb0 : Below w.heap.size w ((w.alloc (.cells #[.int .i64 C, .int .i64 R, .int .i64 B, .int .i64 F, .slice A cl.length cap] 24)).alloc (.cells #[.int .i64 0, .int .i64 0] 31)) := (below_new w (.cells #[.int .i64 C, .int .i64 R, .int .i64 B, .int .i64 F, .slice A cl.length cap] 24)).alloc (by simp) _
  have hbk : Blk ((w.alloc (.cells #[.int .i64 C, .int .i64 R, .int .i64 B, .int .i64 F, .slice A cl.length cap] 24)).alloc (.cells #[.int .i64 0, .int .i64 0] 31)) w.heap.size 24 #[.int .i64 C, .int .i64 R, .int .i64 B, .int .i64 F, .slice A cl.length cap] := (Blk.new _ _ _).alloc _
  have hbq : Blk ((w.alloc (.cells #[.int .i64 C, .int .i64 R, .int .i64 B, .int .i64 F, .slice A cl.length cap] 24)).alloc (.cells #[.int .i64 0, .int .i64 0] 31)) (w.heap.size + 1) 31 #[.int .i64 0, .int .i64 0] := Blk.newAt (by simp)
  have hr1 := hr.behind hb0
  have hl1 := hl.behind hb0
  have n1 : (wayErr C R B F cl s l == 0) = false := by simpa using hw
  have n2 : (wayErr C R B F cl s l != 0) = true := by simpa using hw
  generalize hE : wayErr C R B F cl s l = E at *
  have HE := Lib.hid hE
  clear hw hE
  go_enter Try.func52, Try.ntmps52
  go_wp2_with (first
    | (go_at_call 105; refine (refTurned_any C R B F A cap cl s D dap l _ hcl hll hr1 hl1).mono ?_; rw [HE.out]; rintro e w1 ⟨rfl, hb1⟩; have hbq1 := hbq.below hb1 (by simp); obtain ⟨m0, m1, m2, m3⟩ : w1.cell? ⟨w.heap.size + 1, 0, none⟩ = some (.int .i64 0) ∧ w1.cell? ⟨w.heap.size + 1, 1, none⟩ = some (.int .i64 0) ∧ w1.frozen? ⟨w.heap.size + 1, 0, none⟩ = false ∧ w1.frozen? ⟨w.heap.size + 1, 1, none⟩ = false := ⟨hbq1.cell 0, hbq1.cell 1, hbq1.frozen 0, hbq1.frozen 1⟩))
  refine bodyPost_ret (v := .agg #[.int .i64 0, .int .i64 E]) (results_cell_row (g := w.heap.size + 1) rfl _ _ 31 _ (0, 0) _ rfl ((hbq1.store 0 (.int .i64 0)).store 1 (.int .i64 E)) Try.underlying31 rfl info31) rfl ?_
  exact ⟨rfl, ((below_next hb0 (by simp; omega) hb1).setCell (p := ⟨w.heap.size + 1, 0, none⟩) (by simp) _).setCell (p := ⟨w.heap.size + 1, 1, none⟩) (by simp) _⟩

set_option maxRecDepth 100000 in
set_option maxHeartbeats 8000000 in
theorem length_good (C R B F : Int) (A : Option Addr) (cap : Nat) (cl : List Int) (s : Int) (D : Option Addr) (dap : Nat) (l : List Int) (w : World) (hcl : cl.length ≤ 1000000) (hll : l.length ≤ 1000000) (hr : Ints w w.heap.size A cl) (hl : Ints w w.heap.size D l) (hw : wayErr C R B F cl s l = 0) :
    Calls Try.prog 52 #[.agg #[.int .i64 C, .int .i64 R, .int .i64 B, .int .i64 F, .slice A cl.length cap], .int .i64 s, .slice D l.length dap] w fun e w' => e = .returned (.agg #[.int .i64 (refLenTo C s l C.toNat), .int .i64 (wayErr C R B F cl s l)]) ∧ Below w.heap.size w w' := by
  have hb0 : Below w.heap.size w ((w.alloc (.cells #[.int .i64 C, .int .i64 R, .int .i64 B, .int .i64 F, .slice A cl.length cap] 24)).alloc (.cells #[.int .i64 0, .int .i64 0] 31)) := (below_new w (.cells #[.int .i64 C, .int .i64 R, .int .i64 B, .int .i64 F, .slice A cl.length cap] 24)).alloc (by simp) _
  have hbk : Blk ((w.alloc (.cells #[.int .i64 C, .int .i64 R, .int .i64 B, .int .i64 F, .slice A cl.length cap] 24)).alloc (.cells #[.int .i64 0, .int .i64 0] 31)) w.heap.size 24 #[.int .i64 C, .int .i64 R, .int .i64 B, .int .i64 F, .slice A cl.length cap] := (Blk.new _ _ _).alloc _
  have hbq : Blk ((w.alloc (.cells #[.int .i64 C, .int .i64 R, .int .i64 B, .int .i64 F, .slice A cl.length cap] 24)).alloc (.cells #[.int .i64 0, .int .i64 0] 31)) (w.heap.size + 1) 31 #[.int .i64 0, .int .i64 0] := Blk.newAt (by simp)
  have hr1 := hr.behind hb0
  have hl1 := hl.behind hb0
  obtain ⟨hok, hs, hst⟩ := wayErr_zero hw
  obtain ⟨hl200, hrise, _⟩ := standsErr_zero hst
  have hM : Hid (∀ x ∈ l, 0 ≤ x ∧ x < C) := hrise.2
  have q1 := hok.c3
  have q2 := hok.c120
  obtain ⟨s0, s1⟩ := hs
  have HW := Lib.hid hw
  have hC1 : 1 ≤ C := by omega
  have hs2 : IntKind.i64.wrap (-s) = -s := IntWalk.i64_in _ (by omega)
  have hs3 : IntKind.i64.wrap (0 - s) = -s := by rw [Int.zero_sub]; exact hs2
  rw [hw]
  clear hw hst hrise hok
  go_enter Try.func52, Try.ntmps52
  go_wp2_with (first
    | (go_at_call 105; refine (refTurned_any C R B F A cap cl s D dap l _ hcl hll hr1 hl1).mono ?_; rw [HW.out]; rintro e w1 ⟨rfl, hb1⟩; have hbk1 := hbk.below hb1 (by simp; omega); have hbq1 := hbq.below hb1 (by simp); obtain ⟨d0, d1, d2, d3, d4⟩ := hbk1.five))
  have hba := below_next hb0 (by simp; omega) hb1
  clear hb0 hbk hbq hr1 hl1 hb1 d0 d1 d2 d3 d4 hr
  go_loopw [8, 9] (fun v i wr => ∃ k : Nat, k ≤ C.toNat ∧ i = .int .i64 k ∧ v = .int .i64 (refLenTo C s l k) ∧ Below w.heap.size w wr ∧ Blk wr w.heap.size 24 #[.int .i64 C, .int .i64 R, .int .i64 B, .int .i64 F, .slice A cl.length cap] ∧ Blk wr (w.heap.size + 1) 31 #[.int .i64 0, .int .i64 0])
    (fun _ i _ => C.toNat - (intOf i).toNat)
  case atStart => exact ⟨0, Nat.zero_le _, rfl, rfl, hba, hbk1, hbq1⟩
  case round =>
    clear hba hbk1 hbq1
    obtain ⟨k, hk, rfl, rfl, hb, hbk, hbq⟩ := hrel
    obtain ⟨d0, d1, d2, d3, d4⟩ := hbk.five
    have hlen := refLenTo_in (s := s) (l := l) hC1 k
    by_cases hkn : k < C.toNat
    · have hki : (k : Int) < C := by omega
      have HL := Lib.hid (refLenTo_succ C s l k)
      generalize refLenTo C s l k = best at *
      go_wp2_with fail
      go_loopw [10, 11] (fun v i wr => ∃ j : Nat, j ≤ l.length ∧ i = .int .i64 j ∧ v = .int .i64 (farR C s (l.take j) k) ∧ Below w.heap.size w wr ∧ Blk wr w.heap.size 24 #[.int .i64 C, .int .i64 R, .int .i64 B, .int .i64 F, .slice A cl.length cap] ∧ Blk wr (w.heap.size + 1) 31 #[.int .i64 0, .int .i64 0])
        (fun _ i _ => l.length - (intOf i).toNat)
      case atStart => exact ⟨0, Nat.zero_le _, rfl, rfl, hb, hbk, hbq⟩
      case round =>
        clear hb hbk hbq d0 d1 d2 d3 d4
        obtain ⟨j, hj, rfl, rfl, hb, hbk, hbq⟩ := hrel
        obtain ⟨d0, d1, d2, d3, d4⟩ := hbk.five
        have hfar := farR_in (C := C) (s := s) (r := (k : Int)) (l := l.take j) hC1
        by_cases hjl : j < l.length
        · obtain ⟨ad, hA, hadb, hce⟩ := (hl.below hb).get hjl
          subst hA
          have hji : (j : Int) < (l.length : Int) := by omega
          have hx := hM.out _ (List.getElem_mem hjl)
          have HF : Hid (farR C s (l.take (j + 1)) k = if (k : Int) < (l[j] + -s) % C then max (farR C s (l.take j) k) (C - (l[j] + -s) % C) else farR C s (l.take j) k) := by
            unfold Hid; rw [List.take_succ_eq_append_getElem hjl, farR_snoc]
          have hn0 := Int.emod_nonneg (l[j] + -s) (b := C) (by omega)
          have hn1 := Int.emod_lt_of_pos (l[j] + -s) (b := C) (by omega)
          generalize farR C s (l.take j) k = fr at *
          generalize l[j] = x at *
          generalize hnn : (x + -s) % C = n at *
          have HN := Lib.hid hnn
          clear hnn
          have hltk := hbk.lt
          go_wp2_with fail
          have v0 : IntKind.i64.wrap (C - n) = C - n := IntWalk.i64_in _ (by omega)
          have hadl : (ad.add j).block < wr.heap.size := by rw [addr_block]; have := hb.size; omega
          go_region_held3 (fun w' => w'.cell? ⟨w.heap.size, 0, none⟩ = some (.int .i64 C) ∧ w'.cell? ⟨w.heap.size, 1, none⟩ = some (.int .i64 R) ∧ w'.cell? ⟨w.heap.size, 2, none⟩ = some (.int .i64 B) ∧ w'.cell? ⟨w.heap.size, 3, none⟩ = some (.int .i64 F) ∧ w'.cell? ⟨w.heap.size, 4, none⟩ = some (.slice A cl.length cap) ∧ w'.cell? (ad.add j) = some (.int .i64 x)) (first | exact K1 | exact ⟨d0, d1, d2, d3, d4, hce⟩ | go_keep)
            (first
              | (go_at_call 73; refine (refFurther_any C R B F _ x (-s) _ hC1 q2 hx.1 hx.2 (by omega) (by omega)).mono ?_; rw [HN.out]; rintro e w5 ⟨rfl, hb5⟩; have hb5x : Below wr.heap.size wr w5 := (by first | exact hb5 | exact (Below.refl _ _).drew.trans hb5); have hbk5 := hbk.below hb5x hltk; have hbq5 := hbq.below hb5x hbq.lt; have hbb := below_next hb hb.size hb5x; have K1 : w5.cell? ⟨w.heap.size, 0, none⟩ = some (.int .i64 C) ∧ w5.cell? ⟨w.heap.size, 1, none⟩ = some (.int .i64 R) ∧ w5.cell? ⟨w.heap.size, 2, none⟩ = some (.int .i64 B) ∧ w5.cell? ⟨w.heap.size, 3, none⟩ = some (.int .i64 F) ∧ w5.cell? ⟨w.heap.size, 4, none⟩ = some (.slice A cl.length cap) ∧ w5.cell? (ad.add j) = some (.int .i64 x) := ⟨hbk5.cell 0, hbk5.cell 1, hbk5.cell 2, hbk5.cell 3, hbk5.cell 4, (hb5x.cell hadl).trans hce⟩))
          all_goals (
            obtain ⟨c0, c1, c2, c3, c4⟩ := hbk5.five
            by_cases hgt : (k : Int) < n
            · have g1 : decide ((k : Int) < n) = true := decide_eq_true hgt
              have hf2 := HF.out
              rw [if_pos hgt] at hf2
              go_wp2_with fail
              go_roundw
              case rel => exact ⟨j + 1, by omega, by go_num, by rw [hf2], hbb, hbk5, hbq5⟩
              case measure => simp [intOf]; try omega
            · have g1 : decide ((k : Int) < n) = false := decide_eq_false hgt
              have hf2 := HF.out
              rw [if_neg hgt] at hf2
              go_wp2_with fail
              go_roundw
              case rel => exact ⟨j + 1, by omega, by go_num, by rw [hf2], hbb, hbk5, hbq5⟩
              case measure => simp [intOf]; try omega)
        · have ek : l.take j = l := List.take_of_length_le (by omega)
          rw [ek] at hfar ⊢
          clear ek
          generalize farR C s l k = fr at *
          have v1 : IntKind.i64.wrap (2 * (k : Int)) = 2 * (k : Int) := IntWalk.i64_in _ (by omega)
          have v2 : IntKind.i64.wrap (2 * (k : Int) + fr) = 2 * (k : Int) + fr := IntWalk.i64_in _ (by omega)
          have v3 : IntKind.i64.wrap (2 * fr) = 2 * fr := IntWalk.i64_in _ (by omega)
          have v4 : IntKind.i64.wrap (2 * fr + (k : Int)) = 2 * fr + (k : Int) := IntWalk.i64_in _ (by omega)
          go_wp2_with fail
          go_roundw
          case rel => exact ⟨k + 1, by omega, by go_num, by rw [HL.out], hb, hbk, hbq⟩
          case measure => simp [intOf]; try omega
    · obtain rfl : k = C.toNat := by omega
      have hki : ¬ ((C.toNat : Nat) : Int) < C := by omega
      obtain ⟨m0, m1, m2, m3⟩ : wr.cell? ⟨w.heap.size + 1, 0, none⟩ = some (.int .i64 0) ∧ wr.cell? ⟨w.heap.size + 1, 1, none⟩ = some (.int .i64 0) ∧ wr.frozen? ⟨w.heap.size + 1, 0, none⟩ = false ∧ wr.frozen? ⟨w.heap.size + 1, 1, none⟩ = false := ⟨hbq.cell 0, hbq.cell 1, hbq.frozen 0, hbq.frozen 1⟩
      go_wp2_with fail
      refine bodyPost_ret (v := .agg #[.int .i64 (refLenTo C s l C.toNat), .int .i64 0]) (results_cell_row (g := w.heap.size + 1) rfl _ _ 31 _ (0, 0) _ rfl ((hbq.store 0 (.int .i64 (refLenTo C s l C.toNat))).store 1 (.int .i64 0)) Try.underlying31 rfl info31) rfl ?_
      exact ⟨rfl, (hb.setCell (p := ⟨w.heap.size + 1, 0, none⟩) (by simp) _).setCell (p := ⟨w.heap.size + 1, 1, none⟩) (by simp) _⟩

theorem refLength_any (C R B F : Int) (A : Option Addr) (cap : Nat) (cl : List Int) (s : Int) (D : Option Addr) (dap : Nat) (l : List Int) (w : World) (hcl : cl.length ≤ 1000000) (hll : l.length ≤ 1000000) (hr : Ints w w.heap.size A cl) (hl : Ints w w.heap.size D l) :
    Calls Try.prog 52 #[.agg #[.int .i64 C, .int .i64 R, .int .i64 B, .int .i64 F, .slice A cl.length cap], .int .i64 s, .slice D l.length dap] w fun e w' => e = .returned (.agg #[.int .i64 (if wayErr C R B F cl s l = 0 then refLenTo C s l C.toNat else 0), .int .i64 (wayErr C R B F cl s l)]) ∧ Below w.heap.size w w' := by
  by_cases hw : wayErr C R B F cl s l = 0
  · rw [if_pos hw]; exact length_good C R B F A cap cl s D dap l w hcl hll hr hl hw
  · rw [if_neg hw]; exact length_bad C R B F A cap cl s D dap l w hcl hll hr hl hw

end Go.Proofs.Ytnjmkdgglpcfpaa
