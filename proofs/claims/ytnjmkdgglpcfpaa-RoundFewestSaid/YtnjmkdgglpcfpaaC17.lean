import Derived.Test.YtnjmkdgglpcfpaaM10
import Derived.Test.YtnjmkdgglpcfpaaC9
namespace Go.Proofs.Ytnjmkdgglpcfpaa
set_option linter.unusedSimpArgs false
set_option linter.unusedVariables false
open Go.RowKit

theorem one_newC (w : World) (x : Int) : Ints (w.alloc (.cells #[.int .i64 x] 3)) (w.alloc (.cells #[.int .i64 x] 3)).heap.size (some ⟨w.heap.size, 0, none⟩) [x] := fun k y h => by
  match k, h with
  | 0, h =>
    obtain rfl : x = y := by simpa using h
    exact ⟨_, rfl, by simp, (Blk.new w 3 #[.int .i64 x]).cell 0⟩
  | k + 1, h => simp at h
theorem rest_len {C B F d s : Int} {cols : List Int} (h : Dims C B F) (hd : d ∈ cols) (d0 : 0 ≤ d) (d1 : d < C) (hr : rch C B F s d = true) : (cols.filter fun x => !anyR C B F [s] x).length < cols.length := by
  refine List.length_filter_lt_length_iff_exists.2 ⟨d, hd, ?_⟩
  have := h.c1
  rw [rch_same h.c1 h.b0 h.f0 h.bf d0 d1] at hr
  simp [anyR] at hr ⊢
  exact hr
theorem rest_mem {C B F s x : Int} {cols : List Int} (h : Dims C B F) (hc : ∀ x ∈ cols, 0 ≤ x ∧ x < C) : x ∈ (cols.filter fun x => !anyR C B F [s] x) ↔ x ∈ cols ∧ rch C B F s x = false := by
  rw [List.mem_filter]
  refine and_congr_right fun hx => ?_
  have hcx := hc x hx
  rw [rch_same h.c1 h.b0 h.f0 h.bf hcx.1 hcx.2]
  simp [anyR]

set_option maxRecDepth 100000 in
set_option maxHeartbeats 4000000 in
/-- the reference's line -/
theorem line98_any (C R B F : Int) (A : Option Addr) (cap : Nat) (cl : List Int) (s0 : Int) (h1 : 1 ≤ C) (h2 : C ≤ 120) (h7 : 0 ≤ B) (h8 : 0 ≤ F) (h9 : F < C - B) (hs0 : 0 ≤ s0) (hs1 : s0 < C) (hcl : cl.length ≤ 1000000) :
    ∀ (m : Nat) (cols : List Int) (D : Option Addr) (dap : Nat) (w : World), cols.length ≤ m → cols.length ≤ 1000 → (∀ x ∈ cols, Bh C B F s0 x) → Ints w w.heap.size A cl → Ints w w.heap.size D cols →
      Calls Try.prog 98 #[.agg #[.int .i64 C, .int .i64 R, .int .i64 B, .int .i64 F, .slice A cl.length cap], .slice D cols.length dap, .int .i64 s0] w fun e w' => ∃ r, e = .returned (.int .i64 r) ∧ LineP C B F (isIn cl) cols r ∧ Below w.heap.size w w' := by
  intro m
  induction m with
  | zero =>
    intro cols D dap w hm hcl2 hbh hr hl
    obtain rfl : cols = [] := List.eq_nil_of_length_eq_zero (by omega)
    go_enter Try.func98, Try.ntmps98
    go_wp2_with fail
    go_ret
    exact ⟨0, rfl, LineP.nil, below_new _ _⟩
  | succ m ih =>
    intro cols D dap w hm hcl2 hbh hr hl
    by_cases hnil : cols.length = 0
    · obtain rfl : cols = [] := List.eq_nil_of_length_eq_zero hnil
      go_enter Try.func98, Try.ntmps98
      go_wp2_with fail
      go_ret
      exact ⟨0, rfl, LineP.nil, below_new _ _⟩
    have hd : Dims C B F := ⟨h1, h7, h8, h9⟩
    have bw0 := below_new w (.cells #[.int .i64 C, .int .i64 R, .int .i64 B, .int .i64 F, .slice A cl.length cap] 24)
    have kH0 := Blk.new w 24 #[.int .i64 C, .int .i64 R, .int .i64 B, .int .i64 F, .slice A cl.length cap]
    have iA0 := hr.behind bw0
    have iD0 := hl.behind bw0
    have e1 : ((cols.length : Int) == 0) = false := beq_eq_false_iff_ne.2 (by omega)
    have hpos : 0 < cols.length := by omega
    have hposI : (0 : Int) < (cols.length : Int) := by omega
    obtain ⟨ad, hD, hBd, hc0⟩ := iD0.get hpos
    subst hD
    have hc00 : (w.alloc (.cells #[.int .i64 C, .int .i64 R, .int .i64 B, .int .i64 F, .slice A cl.length cap] 24)).cell? ad = some (.int .i64 cols[0]) := by simpa [Addr.add] using hc0
    have IH := Lib.hid ih
    have HB := Lib.hid hbh
    have hw1 : IntKind.i64.wrap (-s0) = -s0 := IntWalk.i64_in _ (by omega)
    have hw2 : IntKind.i64.wrap (-F) = -F := IntWalk.i64_in _ (by omega)
    have hfirst : Hid (cols[0] ∈ cols) := List.getElem_mem hpos
    obtain ⟨n0, hn0⟩ : ∃ n0, cols[0] = n0 := ⟨_, rfl⟩
    rw [hn0] at hc00 hfirst
    clear ih hbh hc0 hn0
    go_enter Try.func98, Try.ntmps98
    go_wp2_with fail
    clear hc00
    obtain ⟨w1, hw⟩ : ∃ w1, w.alloc (.cells #[.int .i64 C, .int .i64 R, .int .i64 B, .int .i64 F, .slice A cl.length cap] 24) = w1 := ⟨_, rfl⟩
    rw [hw] at bw0 kH0 iA0 iD0 hBd ⊢
    clear hw
    go_loopw [7, 8] (fun v i wr => ∃ (k : Nat) (nx : Int), k ≤ cols.length ∧ i = .int .i64 k ∧ v = .int .i64 nx ∧ Hid (nx ∈ cols ∧ ∀ (j : Nat) (_ : j < k) (hj : j < cols.length), offs C s0 nx ≤ offs C s0 cols[j]) ∧ Below w1.heap.size w1 wr)
      (fun _ i _ => cols.length - (intOf i).toNat)
    case atStart => exact ⟨0, n0, Nat.zero_le _, rfl, rfl, ⟨hfirst.out, by intro j hj; omega⟩, Below.refl _ _⟩
    case round =>
      obtain ⟨k, nx, hk, rfl, rfl, hnx, hb⟩ := hrel
      have bw := below_next bw0 bw0.size hb
      have kH := kH0.below hb kH0.lt
      obtain ⟨d0, d1, d2, d3, d4⟩ := kH.five
      have hnxb := HB.out _ hnx.out.1
      have hn0 := hnxb.lo
      have hn1 := hnxb.hi
      by_cases hlt : k < cols.length
      · obtain ⟨ad2, e2, _, hc⟩ := (iD0.behind hb).get hlt
        cases e2
        have hki : (k : Int) < (cols.length : Int) := by omega
        have hxb := HB.out _ (List.getElem_mem hlt)
        have hx0 := hxb.lo
        have hx1 := hxb.hi
        have HM : Hid (cols[k] ∈ cols) := List.getElem_mem hlt
        have HN : Hid (∀ y : Int, (y = nx ∨ y = cols[k]) → offs C s0 y ≤ offs C s0 nx → offs C s0 y ≤ offs C s0 cols[k] → ∀ (j : Nat) (_ : j < k + 1) (hj : j < cols.length), offs C s0 y ≤ offs C s0 cols[j]) := by
          intro y hy hy1 hy2 j hj hj2
          rcases Nat.lt_or_ge j k with h | h
          · exact Int.le_trans hy1 (hnx.out.2 j h hj2)
          · obtain rfl : j = k := by omega
            exact hy2
        have HNX := Lib.hid hnx.out.1
        clear hnx
        generalize cols[k] = x at *
        by_cases hlo : (x + -s0) % C < (nx + -s0) % C
        · have f1 : decide ((x + -s0) % C < (nx + -s0) % C) = true := decide_eq_true hlo
          have HL := Lib.hid hlo
          go_wp2_with fail
          go_region_held3 (fun w' => (w'.cell? ⟨w.heap.size, 0, none⟩ = some (.int .i64 C) ∧ w'.cell? ⟨w.heap.size, 1, none⟩ = some (.int .i64 R) ∧ w'.cell? ⟨w.heap.size, 2, none⟩ = some (.int .i64 B) ∧ w'.cell? ⟨w.heap.size, 3, none⟩ = some (.int .i64 F) ∧ w'.cell? ⟨w.heap.size, 4, none⟩ = some (.slice A cl.length cap)) ∧ w'.cell? (ad.add k) = some (.int .i64 x)) (first | exact K4 | exact K3 | exact ⟨⟨d0, d1, d2, d3, d4⟩, hc⟩ | go_keep)
            (first
              | (go_at_call 73; refine (refFurther_any C R B F _ _ _ _ h1 h2 (by first | exact hx0 | exact hn0) (by first | exact hx1 | exact hn1) (by omega) (by omega)).mono ?_; rintro e w3 ⟨rfl, hbw3'⟩; have hbw3 : Below wr.heap.size wr w3 := (by first | exact hbw3' | exact (Below.refl _ _).drew.trans hbw3'); have K3 : (w3.cell? ⟨w.heap.size, 0, none⟩ = some (.int .i64 C) ∧ w3.cell? ⟨w.heap.size, 1, none⟩ = some (.int .i64 R) ∧ w3.cell? ⟨w.heap.size, 2, none⟩ = some (.int .i64 B) ∧ w3.cell? ⟨w.heap.size, 3, none⟩ = some (.int .i64 F) ∧ w3.cell? ⟨w.heap.size, 4, none⟩ = some (.slice A cl.length cap)) ∧ w3.cell? (ad.add k) = some (.int .i64 x) := (⟨keep5 hbw3 ⟨d0, d1, d2, d3, d4⟩, (hbw3.cell (p := ad.add k) (by rw [addr_block]; have := hb.size; omega)).trans hc⟩))
              | (go_at_call 73; refine (refFurther_any C R B F _ _ _ _ h1 h2 (by first | exact hx0 | exact hn0) (by first | exact hx1 | exact hn1) (by omega) (by omega)).mono ?_; rintro e w4 ⟨rfl, hbw4'⟩; have hbw4 : Below w3.heap.size w3 w4 := (by first | exact hbw4' | exact (Below.refl _ _).drew.trans hbw4'); have K4 : (w4.cell? ⟨w.heap.size, 0, none⟩ = some (.int .i64 C) ∧ w4.cell? ⟨w.heap.size, 1, none⟩ = some (.int .i64 R) ∧ w4.cell? ⟨w.heap.size, 2, none⟩ = some (.int .i64 B) ∧ w4.cell? ⟨w.heap.size, 3, none⟩ = some (.int .i64 F) ∧ w4.cell? ⟨w.heap.size, 4, none⟩ = some (.slice A cl.length cap)) ∧ w4.cell? (ad.add k) = some (.int .i64 x) := (⟨keep5 hbw4 K3.1, (hbw4.cell (p := ad.add k) (by rw [addr_block]; have := hb.size; have := hbw3.size; omega)).trans K3.2⟩)))
          all_goals (
            have hb34 := hbw3.trans (hbw4.mono hbw3.size)
            have hc4 := (hb34.cell (p := ad.add k) (by rw [addr_block]; have := hb.size; omega)).trans hc
            clear d0 d1 d2 d3 d4 hc
            go_wp2_with fail
            go_roundw
            case rel => exact ⟨k + 1, x, by omega, by go_num, rfl, ⟨HM.out, HN.out x (.inr rfl) (Int.le_of_lt HL.out) (Int.le_refl _)⟩, hb.trans (hb34.mono hb.size)⟩
            case measure => simp [intOf]; try omega)
        · have f1 : decide ((x + -s0) % C < (nx + -s0) % C) = false := decide_eq_false hlo
          have HL := Lib.hid (Int.not_lt.1 hlo)
          go_wp2_with fail
          go_region_held3 (fun w' => (w'.cell? ⟨w.heap.size, 0, none⟩ = some (.int .i64 C) ∧ w'.cell? ⟨w.heap.size, 1, none⟩ = some (.int .i64 R) ∧ w'.cell? ⟨w.heap.size, 2, none⟩ = some (.int .i64 B) ∧ w'.cell? ⟨w.heap.size, 3, none⟩ = some (.int .i64 F) ∧ w'.cell? ⟨w.heap.size, 4, none⟩ = some (.slice A cl.length cap)) ∧ w'.cell? (ad.add k) = some (.int .i64 x)) (first | exact K4 | exact K3 | exact ⟨⟨d0, d1, d2, d3, d4⟩, hc⟩ | go_keep)
            (first
              | (go_at_call 73; refine (refFurther_any C R B F _ _ _ _ h1 h2 (by first | exact hx0 | exact hn0) (by first | exact hx1 | exact hn1) (by omega) (by omega)).mono ?_; rintro e w3 ⟨rfl, hbw3'⟩; have hbw3 : Below wr.heap.size wr w3 := (by first | exact hbw3' | exact (Below.refl _ _).drew.trans hbw3'); have K3 : (w3.cell? ⟨w.heap.size, 0, none⟩ = some (.int .i64 C) ∧ w3.cell? ⟨w.heap.size, 1, none⟩ = some (.int .i64 R) ∧ w3.cell? ⟨w.heap.size, 2, none⟩ = some (.int .i64 B) ∧ w3.cell? ⟨w.heap.size, 3, none⟩ = some (.int .i64 F) ∧ w3.cell? ⟨w.heap.size, 4, none⟩ = some (.slice A cl.length cap)) ∧ w3.cell? (ad.add k) = some (.int .i64 x) := (⟨keep5 hbw3 ⟨d0, d1, d2, d3, d4⟩, (hbw3.cell (p := ad.add k) (by rw [addr_block]; have := hb.size; omega)).trans hc⟩))
              | (go_at_call 73; refine (refFurther_any C R B F _ _ _ _ h1 h2 (by first | exact hx0 | exact hn0) (by first | exact hx1 | exact hn1) (by omega) (by omega)).mono ?_; rintro e w4 ⟨rfl, hbw4'⟩; have hbw4 : Below w3.heap.size w3 w4 := (by first | exact hbw4' | exact (Below.refl _ _).drew.trans hbw4'); have K4 : (w4.cell? ⟨w.heap.size, 0, none⟩ = some (.int .i64 C) ∧ w4.cell? ⟨w.heap.size, 1, none⟩ = some (.int .i64 R) ∧ w4.cell? ⟨w.heap.size, 2, none⟩ = some (.int .i64 B) ∧ w4.cell? ⟨w.heap.size, 3, none⟩ = some (.int .i64 F) ∧ w4.cell? ⟨w.heap.size, 4, none⟩ = some (.slice A cl.length cap)) ∧ w4.cell? (ad.add k) = some (.int .i64 x) := (⟨keep5 hbw4 K3.1, (hbw4.cell (p := ad.add k) (by rw [addr_block]; have := hb.size; have := hbw3.size; omega)).trans K3.2⟩)))
          all_goals (
            have hb34 := hbw3.trans (hbw4.mono hbw3.size)
            clear d0 d1 d2 d3 d4 hc
            go_wp2_with fail
            go_roundw
            case rel => exact ⟨k + 1, nx, by omega, by go_num, rfl, ⟨HNX.out, HN.out nx (.inl rfl) (Int.le_refl _) HL.out⟩, hb.trans (hb34.mono hb.size)⟩
            case measure => simp [intOf]; try omega)
      · have HD : Hid (nx ∈ cols ∧ ∀ x ∈ cols, offs C s0 nx ≤ offs C s0 x) := ⟨hnx.out.1, fun x hx => by
          obtain ⟨j, hj, rfl⟩ := List.mem_iff_getElem.1 hx
          exact hnx.out.2 j (by omega) hj⟩
        clear hnx
        have iA := iA0.behind hb
        have iD := iD0.behind hb
        have hzr := hb.size
        go_wp2_with fail
        have hdb := HB.out _ HD.out.1
        have hd0 := hdb.lo
        have hd1 := hdb.hi
        have bwA := bw
        obtain ⟨wa, hwa⟩ : ∃ wa, wr = wa := ⟨_, rfl⟩
        rw [hwa] at bwA kH iA iD hzr ⊢
        clear hwa bw hb d0 d1 d2 d3 d4
        go_loopw [9] (fun n wr => ∃ j : Nat, (j : Int) ≤ B + F + 1 ∧ n = .int .i64 (B - (j : Int)) ∧ Hid (∀ j' : Nat, j' < j → isIn cl ((nx + (B - (j' : Int))) % C).toNat = true) ∧ Below wa.heap.size wa wr)
          (fun n _ => (intOf n + F + 1).toNat)
        case atStart => exact ⟨0, by omega, by simp, by intro j' hj'; omega, Below.refl _ _⟩
        case round =>
          obtain ⟨j, hj, rfl, hshut, hbj⟩ := hrel
          have bwj := below_next bwA bwA.size hbj
          have kHj := kH.below hbj kH.lt
          have iAj := iA.behind hbj
          have iDj := iD.behind hbj
          obtain ⟨d0, d1, d2, d3, d4⟩ := kHj.five
          by_cases hlj : (j : Int) ≤ B + F
          · have c1 : -F ≤ B - (j : Int) := by omega
            have c2 : decide (-F ≤ B - (j : Int)) = true := decide_eq_true c1
            have c3 : IntKind.i64.wrap (B - (j : Int) - 1) = B - (j : Int) - 1 := IntWalk.i64_in _ (by omega)
            have hm0 := Int.emod_nonneg (nx + (B - (j : Int))) (b := C) (by omega)
            have hm1 := Int.emod_lt_of_pos (nx + (B - (j : Int))) (b := C) (by omega)
            obtain ⟨s, hs⟩ : ∃ s, (nx + (B - (j : Int))) % C = s := ⟨_, rfl⟩
            rw [hs] at hm0 hm1
            have HSS := Lib.hid hs
            have A73s : Hid (∀ (sl : Value) (W : World), Calls Try.prog 73 #[.agg #[.int .i64 C, .int .i64 R, .int .i64 B, .int .i64 F, sl], .int .i64 nx, .int .i64 (B - (j : Int))] W fun e w' => e = .returned (.int .i64 s) ∧ Below W.heap.size W w') := fun sl W => by
              have := refFurther_any C R B F sl nx (B - (j : Int)) W h1 h2 hd0 hd1 (by omega) (by omega)
              rwa [hs] at this
            clear hs
            by_cases hin : s ∈ cl
            · have HI : Hid (decide (s ∈ cl) = true) := decide_eq_true hin
              have hshut2 : Hid (∀ j' : Nat, j' < j + 1 → isIn cl ((nx + (B - (j' : Int))) % C).toNat = true) := fun j' hj' => by
                rcases Nat.lt_or_ge j' j with h | h
                · exact hshut.out j' h
                · obtain rfl : j' = j := by omega
                  rw [HSS.out, isIn_iff, Int.toNat_of_nonneg hm0]
                  exact hin
              clear hin hshut
              go_wp2_with (first
                | (go_at_call 73; refine (A73s.out _ _).mono ?_; rintro e w5 ⟨rfl, hb5⟩; have kH5 := kHj.below hb5 kHj.lt; have iA5 := iAj.behind hb5; clear d0 d1 d2 d3 d4; obtain ⟨d0, d1, d2, d3, d4⟩ := kH5.five)
                | (go_at_call 72; refine (has_any cl A cap s _ hcl iA5).mono ?_; rw [HI.out]; rintro e w6 ⟨rfl, rfl⟩)
                | fail)
              go_roundw
              case rel => exact ⟨j + 1, by omega, by simp; omega, hshut2, hbj.trans (hb5.mono hbj.size)⟩
              case measure => simp [intOf]; omega
            · have HI : Hid (decide (s ∈ cl) = false) := decide_eq_false hin
              have hso : Op C (isIn cl) s := ⟨hm0, hm1, by
                cases hi : isIn cl s.toNat with
                | false => rfl
                | true => rw [isIn_iff, Int.toNat_of_nonneg hm0] at hi; exact absurd hi hin⟩
              have hfar : far C B F (isIn cl) nx = s := by
                rw [← HSS.out]
                exact far_at hd hd0 hd1 j hlj hshut.out (by rw [HSS.out]; exact hso.open')
              have hsd : rch C B F s nx = true := by
                rw [rch_iff, ← HSS.out]
                have e := Int.emod_add_mul_ediv (nx + (B - (j : Int))) C
                have : (nx + (B - (nx + (B - (j : Int))) % C)) % C = j := emod_of (k := (nx + (B - (j : Int))) / C) (by omega) (by omega) (by omega)
                omega
              have hrm := fun x => rest_mem (C := C) (B := B) (F := F) (s := s) (x := x) (cols := cols) hd (fun x hx => ⟨(HB.out x hx).lo, (HB.out x hx).hi⟩)
              have hrl := rest_len (s := s) hd HD.out.1 hd0 hd1 hsd
              have HSTEP : Hid (∀ r, LineP C B F (isIn cl) (cols.filter fun x => !anyR C B F [s] x) r → (r < 0 → LineP C B F (isIn cl) cols (-1)) ∧ (0 ≤ r → LineP C B F (isIn cl) cols (r + 1))) := fun r hr => LineP.step hd HB.out HD.out.1 HD.out.2 hso hsd hfar hrm hr
              have HBR : Hid (∀ x ∈ (cols.filter fun x => !anyR C B F [s] x), Bh C B F s0 x) := fun x hx => HB.out x ((hrm x).1 hx).1
              have hrl2 : (cols.filter fun x => !anyR C B F [s] x).length ≤ m := by omega
              have hrl3 : (cols.filter fun x => !anyR C B F [s] x).length ≤ 1000 := by omega
              have hsm : ∀ x ∈ [s], 0 ≤ x ∧ x < C := by simpa using ⟨hm0, hm1⟩
              clear hin hshut hrm hfar hsd hso hrl
              go_wp2_with (first
                | (go_at_call 73; refine (A73s.out _ _).mono ?_; rintro e w5 ⟨rfl, hb5⟩; have bw5 := below_next bwj bwj.size hb5; have kH5 := kHj.below hb5 kHj.lt; have iA5 := iAj.behind hb5; have iD5 := iDj.behind hb5; clear d0 d1 d2 d3 d4; obtain ⟨d0, d1, d2, d3, d4⟩ := kH5.five)
                | (go_at_call 72; refine (has_any cl A cap s _ hcl iA5).mono ?_; rw [HI.out]; rintro e w6 ⟨rfl, rfl⟩)
                | fail)
              have hn5 := below_new w5 (.cells #[.int .i64 s] 3)
              have kHlt := kH5.lt
              go_region_held3 (fun w' => w'.cell? ⟨w.heap.size, 0, none⟩ = some (.int .i64 C) ∧ w'.cell? ⟨w.heap.size, 1, none⟩ = some (.int .i64 R) ∧ w'.cell? ⟨w.heap.size, 2, none⟩ = some (.int .i64 B) ∧ w'.cell? ⟨w.heap.size, 3, none⟩ = some (.int .i64 F) ∧ w'.cell? ⟨w.heap.size, 4, none⟩ = some (.slice A cl.length cap)) (first | exact kH8.five | exact kH7.five | exact ⟨d0, d1, d2, d3, d4⟩ | exact (kH5.alloc _).five | go_keep)
                (first
                  | (go_at_call 83; refine (refLeft_own C R B F _ (some ad) dap cols _ _ [s] _ h1 h2 h7 h8 h9 (by omega) (by simp) hsm (by first | exact iD5.behind hn5 | exact (iD5.behind hn5).behind (Below.refl _ _).drew) (by first | exact one_newC w5 s | exact (one_newC w5 s).behind (Below.refl _ _).drew)).mono ?_; rintro e w7 ⟨Y, yap, rfl, hown7, hb7'⟩; have hb7 : Below w5.heap.size w5 w7 := (by first | exact hn5.trans (hb7'.mono hn5.size) | exact hn5.trans (((Below.refl _ _).drew.trans hb7').mono hn5.size)); have kH7 := kH5.below hb7 kHlt; have iY7 := Ints.of_own hown7; have iA7 := iA5.behind hb7)
                  | (go_at_call 98; refine (IH.out _ Y yap _ hrl2 hrl3 HBR.out iA7 iY7).mono ?_; rintro e w8 ⟨r, rfl, hr8, hb8⟩; have kH8 := kH7.below hb8 kH7.lt)
                  | fail)
              have bw8 := below_next (below_next bw5 bw5.size hb7) (by have := bw5.size; have := hb7.size; omega) hb8
              have hstep := HSTEP.out r hr8
              have hrr : r = -1 ∨ 0 ≤ r := by
                rcases hr8 with ⟨h, _⟩ | ⟨S, _, h, _⟩
                · exact .inl h
                · exact .inr (by omega)
              have hrb : r ≤ 1000000 := by have := hr8.le; omega
              rcases hrr with rfl | hr0
              · have HF := Lib.hid (hstep.1 (by omega))
                clear hstep hr8 HSTEP
                go_wp2_with fail
                go_ret
                exact ⟨-1, rfl, HF.out, bw8⟩
              · have HF := Lib.hid (hstep.2 hr0)
                have q1 : ¬ r < 0 := by omega
                have q2 : decide (r < 0) = false := decide_eq_false q1
                have q3 : IntKind.i64.wrap (r + 1) = r + 1 := IntWalk.i64_in _ (by omega)
                clear hstep hr8 HSTEP
                go_wp2_with fail
                go_ret
                exact ⟨r + 1, rfl, HF.out, bw8⟩
          · have c1 : ¬ -F ≤ B - (j : Int) := by omega
            have c2 : decide (-F ≤ B - (j : Int)) = false := decide_eq_false c1
            have HF : Hid (LineP C B F (isIn cl) cols (-1)) := LineP.none HD.out.1 fun t ht => by
              cases hr : rch C B F t nx with
              | false => rfl
              | true =>
                obtain ⟨i, hi, he⟩ := reach_at hd ht.lo ht.hi hr
                have := hshut.out i (by omega)
                rw [he, ht.open'] at this
                cases this
            clear hshut
            go_wp2_with fail
            go_ret
            exact ⟨-1, rfl, HF.out, bwj⟩

end Go.Proofs.Ytnjmkdgglpcfpaa

namespace Go.Proofs.Ytnjmkdgglpcfpaa
set_option linter.unusedSimpArgs false
set_option linter.unusedVariables false
open Go.RowKit

theorem cell_one {w : World} {B : Nat} {a : Addr} {x : Int} (h : w.cell? a = some (.int .i64 x)) (hb : a.block < B) : Ints w B (some a) [x] := fun k y hy => by
  match k, hy with
  | 0, hy =>
    obtain rfl : x = y := by simpa using hy
    exact ⟨a, rfl, hb, by simpa [Addr.add] using h⟩
  | k + 1, hy => simp at hy

set_option maxRecDepth 100000 in
set_option maxHeartbeats 4000000 in
/-- the reference's fewest -/
theorem fewest87_any (C R B F : Int) (A : Option Addr) (cap : Nat) (cl : List Int) (D : Option Addr) (dap : Nat) (cols : List Int) (w : World) (h1 : 1 ≤ C) (h2 : C ≤ 120) (h7 : 0 ≤ B) (h8 : 0 ≤ F) (h9 : F < C - B) (hcl : cl.length ≤ 1000000) (hcl2 : cols.length ≤ 1000) (hcb : ∀ x ∈ cols, 0 ≤ x ∧ x < C) (hr : Ints w w.heap.size A cl) (hl : Ints w w.heap.size D cols) :
    Calls Try.prog 87 #[.agg #[.int .i64 C, .int .i64 R, .int .i64 B, .int .i64 F, .slice A cl.length cap], .slice D cols.length dap] w fun e w' => ∃ r, e = .returned (.int .i64 r) ∧ LineP C B F (isIn cl) cols r ∧ Below w.heap.size w w' := by
  by_cases hnil : cols.length = 0
  · obtain rfl : cols = [] := List.eq_nil_of_length_eq_zero hnil
    go_enter Try.func87, Try.ntmps87
    go_wp2_with fail
    go_ret
    exact ⟨0, rfl, LineP.nil, below_new _ _⟩
  have hd : Dims C B F := ⟨h1, h7, h8, h9⟩
  have bw0 := below_new w (.cells #[.int .i64 C, .int .i64 R, .int .i64 B, .int .i64 F, .slice A cl.length cap] 24)
  have kH0 := Blk.new w 24 #[.int .i64 C, .int .i64 R, .int .i64 B, .int .i64 F, .slice A cl.length cap]
  have iA0 := hr.behind bw0
  have iD0 := hl.behind bw0
  have e1 : ((cols.length : Int) == 0) = false := beq_eq_false_iff_ne.2 (by omega)
  have hpos : 0 < cols.length := by omega
  have hposI : (0 : Int) < (cols.length : Int) := by omega
  obtain ⟨ad, hD, hBd, hc0⟩ := iD0.get hpos
  subst hD
  have hc00 : (w.alloc (.cells #[.int .i64 C, .int .i64 R, .int .i64 B, .int .i64 F, .slice A cl.length cap] 24)).cell? ad = some (.int .i64 cols[0]) := by simpa [Addr.add] using hc0
  have HB := Lib.hid hcb
  have hfirst : Hid (cols[0] ∈ cols) := List.getElem_mem hpos
  obtain ⟨c0, hcc0⟩ : ∃ c0, cols[0] = c0 := ⟨_, rfl⟩
  rw [hcc0] at hc00 hfirst
  obtain ⟨c00, c01⟩ := hcb c0 hfirst.out
  have HFS : Hid (∀ t, Op C (isIn cl) t → rch C B F t c0 = true → t ∈ rstL C B F cl c0) := fun t ht hr => by
    rw [← opens_same h1 h7 h8 h9 c00 c01]
    exact opens_iff.2 ⟨ht, hr⟩
  have HOP : Hid (∀ t ∈ rstL C B F cl c0, Op C (isIn cl) t) := fun t ht => by
    rw [← opens_same h1 h7 h8 h9 c00 c01] at ht
    exact (opens_iff.1 ht).1
  have hfl : (rstL C B F cl c0).length ≤ 120 := by have := rstL_len C B F cl c0; omega
  have HRM : Hid (∀ s x, x ∈ (cols.filter fun x => !anyR C B F [s] x) ↔ x ∈ cols ∧ rch C B F s x = false) := fun s x => rest_mem hd hcb
  have HRL : Hid (∀ s, (cols.filter fun x => !anyR C B F [s] x).length ≤ 1000) := fun s => Nat.le_trans (List.length_filter_le _ _) hcl2
  have h69 := Lib.hid (fun (W : World) (ha : Ints W W.heap.size A cl) => refStands_own C R B F A cap cl c0 W h1 h2 h7 h8 h9 hcl ha)
  clear hcb hc0 hcc0
  generalize rstL C B F cl c0 = fs at *
  go_enter Try.func87, Try.ntmps87
  go_wp2_with fail
  obtain ⟨w1, hw⟩ : ∃ w1, w.alloc (.cells #[.int .i64 C, .int .i64 R, .int .i64 B, .int .i64 F, .slice A cl.length cap] 24) = w1 := ⟨_, rfl⟩
  rw [hw] at bw0 kH0 iA0 iD0 hBd hc00 ⊢
  clear hw
  obtain ⟨d0, d1, d2, d3, d4⟩ := kH0.five
  go_still_tail 4, (by kernel_rfl)
  obtain ⟨w2, hw2⟩ : ∃ w2, w1.drew = w2 := ⟨_, rfl⟩
  have b2 : Below w1.heap.size w1 w2 := by rw [← hw2]; exact (Below.refl _ _).drew
  have kH2 := kH0.below b2 kH0.lt
  have iA2 := iA0.behind b2
  have iD2 := iD0.behind b2
  have bw2 := below_next bw0 bw0.size b2
  have hc2 := (b2.cell (p := ad) hBd).trans hc00
  change wpList _ _ _ _ _ w1.drew
  rw [hw2]
  clear hw2 d0 d1 d2 d3 d4 kH0 iA0 iD0 hc00 bw0
  obtain ⟨d0, d1, d2, d3, d4⟩ := kH2.five
  go_wp2_with (first
    | (go_at_call 69; refine (h69.out _ iA2).mono ?_; rintro e w3 ⟨L, lap, rfl, hown3, hb3⟩; have bw3 := below_next bw2 bw2.size hb3; have kH3 := kH2.below hb3 kH2.lt; have iA3 := iA2.behind hb3; have iD3 := iD2.behind hb3)
    | fail)
  obtain ⟨q1, q2, iL3⟩ := own_facts hown3
  clear d0 d1 d2 d3 d4 hc2 hown3 kH2 iA2 iD2 bw2
  go_loopw [5, 7] (fun v i wr => ∃ (k : Nat) (best : Int), k ≤ fs.length ∧ i = .int .i64 k ∧ v = .int .i64 best ∧ Hid (BestP C B F (isIn cl) cols (fs.take k) (fun s => cols.filter fun x => !anyR C B F [s] x) best) ∧ -1 ≤ best ∧ best ≤ 100000 ∧ Below w3.heap.size w3 wr)
    (fun _ i _ => fs.length - (intOf i).toNat)
  case atStart => exact ⟨0, -1, Nat.zero_le _, rfl, rfl, BestP.nil, by omega, by omega, Below.refl _ _⟩
  case round =>
    obtain ⟨k, best, hk, rfl, rfl, hbest, hb0, hb1, hb⟩ := hrel
    have bw := below_next bw3 bw3.size hb
    have kH := kH3.below hb kH3.lt
    have iA := iA3.behind hb
    have iD := iD3.behind hb
    have iL := iL3.behind hb
    obtain ⟨d0, d1, d2, d3, d4⟩ := kH.five
    by_cases hlt : k < fs.length
    · obtain ⟨al, hL, hBl, hcl0⟩ := iL.get hlt
      subst hL
      have hki : (k : Int) < (fs.length : Int) := by omega
      have hk1 : (k : Int) + 1 ≤ (lap : Int) := by omega
      have hk2 : (k : Int) ≤ (k : Int) + 1 := by omega
      have hk3 : ((k : Int) + 1).toNat = k + 1 := by omega
      have hk4 : k + 1 - k = 1 := by omega
      have hk5 : ¬ lap = k := by omega
      have hk6 : k + 1 ≤ lap := by omega
      have hk7 : k ≤ k + 1 := by omega
      have hw1 : IntKind.i64.wrap ((k : Int) + 1) = (k : Int) + 1 := IntWalk.i64_in _ (by omega)
      have hso := HOP.out _ (List.getElem_mem hlt)
      have htk := List.take_succ_eq_append_getElem hlt
      have HTK := Lib.hid htk
      clear htk
      generalize fs[k] = s at *
      have hs0 := hso.lo
      have hs1 := hso.hi
      have hsm : ∀ x ∈ [s], 0 ≤ x ∧ x < C := by simpa using ⟨hs0, hs1⟩
      have HBR : Hid (∀ x ∈ (cols.filter fun x => !anyR C B F [s] x), Bh C B F s x) := fun x hx => by
        obtain ⟨g1, g2⟩ := (HRM.out s x).1 hx
        obtain ⟨g3, g4⟩ := HB.out x g1
        exact (bh_iff hd hs0 hs1 g3 g4).2 g2
      have hrl := HRL.out s
      have iS := cell_one (B := wr.heap.size) (a := al.add k) hcl0 (by rw [addr_block]; exact hBl)
      have HSO := Lib.hid hso
      have kHlt := kH.lt
      clear hso
      go_wp2_with fail
      go_region_held3 (fun w' => (w'.cell? ⟨w.heap.size, 0, none⟩ = some (.int .i64 C) ∧ w'.cell? ⟨w.heap.size, 1, none⟩ = some (.int .i64 R) ∧ w'.cell? ⟨w.heap.size, 2, none⟩ = some (.int .i64 B) ∧ w'.cell? ⟨w.heap.size, 3, none⟩ = some (.int .i64 F) ∧ w'.cell? ⟨w.heap.size, 4, none⟩ = some (.slice A cl.length cap)) ∧ w'.cell? (al.add k) = some (.int .i64 s)) (first | exact ⟨kH8.five, hc8⟩ | exact ⟨kH7.five, hc7⟩ | exact ⟨⟨d0, d1, d2, d3, d4⟩, hcl0⟩ | go_keep)
        (first
          | (go_at_call 83; refine (refLeft_own C R B F _ (some ad) dap cols _ _ [s] _ h1 h2 h7 h8 h9 (by omega) (by simp) hsm (by first | exact iD | exact iD.behind (Below.refl _ _).drew) (by first | exact iS | exact iS.behind (Below.refl _ _).drew)).mono ?_; rintro e w7 ⟨Y, yap, rfl, hown7, hb7'⟩; have hb7 : Below wr.heap.size wr w7 := (by first | exact hb7' | exact (Below.refl _ _).drew.trans hb7'); have kH7 := kH.below hb7 kHlt; have iY7 := Ints.of_own hown7; have iA7 := iA.behind hb7; have hc7 := (hb7.cell (p := al.add k) (by rw [addr_block]; exact hBl)).trans hcl0)
          | (go_at_call 98; refine (line98_any C R B F A cap cl s h1 h2 h7 h8 h9 hs0 hs1 hcl _ _ Y yap _ (Nat.le_refl _) hrl HBR.out iA7 iY7).mono ?_; rintro e w8 ⟨r, rfl, hr8, hb8⟩; have kH8 := kH7.below hb8 kH7.lt; have hc8 := (hb8.cell (p := al.add k) (by rw [addr_block]; have := hb7.size; omega)).trans hc7)
          | fail)
      have hb9 := hb.trans ((hb7.trans (hb8.mono hb7.size)).mono hb.size)
      have hrb : r ≤ 1000 := by have := hr8.le; omega
      have hrm : -1 ≤ r := by
        rcases hr8 with ⟨h, _⟩ | ⟨S, _, h, _⟩ <;> omega
      have HTAKE : Hid (0 ≤ r → best < 0 ∨ r + 1 < best → BestP C B F (isIn cl) cols (fs.take (k + 1)) (fun s => cols.filter fun x => !anyR C B F [s] x) (r + 1)) := fun g1 g2 => by
        rw [HTK.out]
        exact hbest.out.take HSO.out (fun x hx hn => (HRM.out s x).2 ⟨hx, hn⟩) hr8 g1 g2
      have HSKIP : Hid (r < 0 ∨ (0 ≤ best ∧ best ≤ r + 1) → BestP C B F (isIn cl) cols (fs.take (k + 1)) (fun s => cols.filter fun x => !anyR C B F [s] x) best) := fun g => by
        rw [HTK.out]
        exact hbest.out.skip hr8 g
      have hw2 : IntKind.i64.wrap (r + 1) = r + 1 := IntWalk.i64_in _ (by omega)
      clear hbest hr8 HBR HSO d0 d1 d2 d3 d4 hcl0 iS
      by_cases g1 : 0 ≤ r
      · have g2 : decide (0 ≤ r) = true := decide_eq_true g1
        by_cases g3 : best < 0
        · have g4 : decide (best < 0) = true := decide_eq_true g3
          have HN := Lib.hid (HTAKE.out g1 (.inl g3))
          clear HTAKE HSKIP
          go_wp2_with fail
          go_roundw
          case rel => exact ⟨k + 1, r + 1, by omega, by go_num, rfl, HN, by omega, by omega, hb9⟩
          case measure => simp [intOf]; try omega
        · have g4 : decide (best < 0) = false := decide_eq_false g3
          by_cases g5 : r + 1 < best
          · have g6 : decide (r + 1 < best) = true := decide_eq_true g5
            have HN := Lib.hid (HTAKE.out g1 (.inr g5))
            clear HTAKE HSKIP
            go_wp2_with fail
            go_roundw
            case rel => exact ⟨k + 1, r + 1, by omega, by go_num, rfl, HN, by omega, by omega, hb9⟩
            case measure => simp [intOf]; try omega
          · have g6 : decide (r + 1 < best) = false := decide_eq_false g5
            have HN := Lib.hid (HSKIP.out (.inr ⟨by omega, by omega⟩))
            clear HTAKE HSKIP
            go_wp2_with fail
            go_roundw
            case rel => exact ⟨k + 1, best, by omega, by go_num, rfl, HN, by omega, by omega, hb9⟩
            case measure => simp [intOf]; try omega
      · have g2 : decide (0 ≤ r) = false := decide_eq_false g1
        have HN := Lib.hid (HSKIP.out (.inl (by omega)))
        clear HTAKE HSKIP
        go_wp2_with fail
        go_roundw
        case rel => exact ⟨k + 1, best, by omega, by go_num, rfl, HN, by omega, by omega, hb9⟩
        case measure => simp [intOf]; try omega
    · have HL : Hid (LineP C B F (isIn cl) cols best) := by
        have := hbest.out
        rw [List.take_of_length_le (by omega)] at this
        exact this.done hfirst.out HFS.out (fun s x hx => (HRM.out s x).1 hx)
      clear hbest
      go_wp2_with fail
      go_ret
      exact ⟨best, rfl, HL.out, bw⟩

end Go.Proofs.Ytnjmkdgglpcfpaa

