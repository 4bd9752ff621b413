import Derived.Test.YtnjmkdgglpcfpaaC16
namespace Go.Proofs.Ytnjmkdgglpcfpaa
set_option linter.unusedSimpArgs false
set_option linter.unusedVariables false
open Go.RowKit

theorem cell_one {w : World} {B : Nat} {a : Addr} {x : Int} (h : w.cell? a = some (.int .i64 x)) (hb : a.block < B) : Ints w B (some a) [x] := fun k y hy => by
  match k, hy with
  | 0, hy =>
    obtain rfl : x = y := by simpa using hy
    exact ⟨a, rfl, hb, by simpa [Addr.add] using h⟩
  | k + 1, hy => simp at hy

set_option maxRecDepth 100000 in
set_option maxHeartbeats 4000000 in
/-- the reference's fewest -/
theorem fewest87_any (C R B F : Int) (A : Option Addr) (cap : Nat) (cl : List Int) (D : Option Addr) (dap : Nat) (cols : List Int) (w : World) (h1 : 1 ≤ C) (h2 : C ≤ 120) (h7 : 0 ≤ B) (h8 : 0 ≤ F) (h9 : F < C - B) (hcl : cl.length ≤ 1000000) (hcl2 : cols.length ≤ 1000) (hcb : ∀ x ∈ cols, 0 ≤ x ∧ x < C) (hr : Ints w w.heap.size A cl) (hl : Ints w w.heap.size D cols) :
    Calls Try.prog 87 #[.agg #[.int .i64 C, .int .i64 R, .int .i64 B, .int .i64 F, .slice A cl.length cap], .slice D cols.length dap] w fun e w' => ∃ r, e = .returned (.int .i64 r) ∧ LineP C B F (isIn cl) cols r ∧ Below w.heap.size w w' := by
  by_cases hnil : cols.length = 0
  · obtain rfl : cols = [] := List.eq_nil_of_length_eq_zero hnil
    go_enter Try.func87, Try.ntmps87
    go_wp2_with fail
    go_ret
    exact ⟨0, rfl, LineP.nil, below_new _ _⟩
  have hd : Dims C B F := ⟨h1, h7, h8, h9⟩
  have bw0 := below_new w (.cells #[.int .i64 C, .int .i64 R, .int .i64 B, .int .i64 F, .slice A cl.length cap] 24)
  have kH0 := Blk.new w 24 #[.int .i64 C, .int .i64 R, .int .i64 B, .int .i64 F, .slice A cl.length cap]
  have iA0 := hr.behind bw0
  have iD0 := hl.behind bw0
  have e1 : ((cols.length : Int) == 0) = false := beq_eq_false_iff_ne.2 (by omega)
  have hpos : 0 < cols.length := by omega
  have hposI : (0 : Int) < (cols.length : Int) := by omega
  obtain ⟨ad, hD, hBd, hc0⟩ := iD0.get hpos
  subst hD
  have hc00 : (w.alloc (.cells #[.int .i64 C, .int .i64 R, .int .i64 B, .int .i64 F, .slice A cl.length cap] 24)).cell? ad = some (.int .i64 cols[0]) := by simpa [Addr.add] using hc0
  have HB := Lib.hid hcb
  have hfirst : Hid (cols[0] ∈ cols) := List.getElem_mem hpos
  obtain ⟨c0, hcc0⟩ : ∃ c0, cols[0] = c0 := ⟨_, rfl⟩
  rw [hcc0] at hc00 hfirst
  obtain ⟨c00, c01⟩ := hcb c0 hfirst.out
  have HFS : Hid (∀ t, Op C (isIn cl) t → rch C B F t c0 = true → t ∈ rstL C B F cl c0) := fun t ht hr => by
    rw [← opens_same h1 h7 h8 h9 c00 c01]
    exact opens_iff.2 ⟨ht, hr⟩
  have HOP : Hid (∀ t ∈ rstL C B F cl c0, Op C (isIn cl) t) := fun t ht => by
    rw [← opens_same h1 h7 h8 h9 c00 c01] at ht
    exact (opens_iff.1 ht).1
  have hfl : (rstL C B F cl c0).length ≤ 120 := by have := rstL_len C B F cl c0; omega
  have HRM : Hid (∀ s x, x ∈ (cols.filter fun x => !anyR C B F [s] x) ↔ x ∈ cols ∧ rch C B F s x = false) := fun s x => rest_mem hd hcb
  have HRL : Hid (∀ s, (cols.filter fun x => !anyR C B F [s] x).length ≤ 1000) := fun s => Nat.le_trans (List.length_filter_le _ _) hcl2
  have h69 := Lib.hid (fun (W : World) (ha : Ints W W.heap.size A cl) => refStands_own C R B F A cap cl c0 W h1 h2 h7 h8 h9 hcl ha)
  clear hcb hc0 hcc0
  generalize rstL C B F cl c0 = fs at *
  go_enter Try.func87, Try.ntmps87
  go_wp2_with fail
  obtain ⟨w1, hw⟩ : ∃ w1, w.alloc (.cells #[.int .i64 C, .int .i64 R, .int .i64 B, .int .i64 F, .slice A cl.length cap] 24) = w1 := ⟨_, rfl⟩
  rw [hw] at bw0 kH0 iA0 iD0 hBd hc00 ⊢
  clear hw
  obtain ⟨d0, d1, d2, d3, d4⟩ := kH0.five
  go_still_tail 4, (by kernel_rfl)
  obtain ⟨w2, hw2⟩ : ∃ w2, w1.drew = w2 := ⟨_, rfl⟩
  have b2 : Below w1.heap.size w1 w2 := by rw [← hw2]; exact (Below.refl _ _).drew
  have kH2 := kH0.below b2 kH0.lt
  have iA2 := iA0.behind b2
  have iD2 := iD0.behind b2
  have bw2 := below_next bw0 bw0.size b2
  have hc2 := (b2.cell (p := ad) hBd).trans hc00
  change wpList _ _ _ _ _ w1.drew
  rw [hw2]
  clear hw2 d0 d1 d2 d3 d4 kH0 iA0 iD0 hc00 bw0
  obtain ⟨d0, d1, d2, d3, d4⟩ := kH2.five
  go_wp2_with (first
    | (go_at_call 69; refine (h69.out _ iA2).mono ?_; rintro e w3 ⟨L, lap, rfl, hown3, hb3⟩; have bw3 := below_next bw2 bw2.size hb3; have kH3 := kH2.below hb3 kH2.lt; have iA3 := iA2.behind hb3; have iD3 := iD2.behind hb3)
    | fail)
  obtain ⟨q1, q2, iL3⟩ := own_facts hown3
  clear d0 d1 d2 d3 d4 hc2 hown3 kH2 iA2 iD2 bw2
  go_loopw [5, 7] (fun v i wr => ∃ (k : Nat) (best : Int), k ≤ fs.length ∧ i = .int .i64 k ∧ v = .int .i64 best ∧ Hid (BestP C B F (isIn cl) cols (fs.take k) (fun s => cols.filter fun x => !anyR C B F [s] x) best) ∧ -1 ≤ best ∧ best ≤ 100000 ∧ Below w3.heap.size w3 wr)
    (fun _ i _ => fs.length - (intOf i).toNat)
  case atStart => exact ⟨0, -1, Nat.zero_le _, rfl, rfl, BestP.nil, by omega, by omega, Below.refl _ _⟩
  case round =>
    obtain ⟨k, best, hk, rfl, rfl, hbest, hb0, hb1, hb⟩ := hrel
    have bw := below_next bw3 bw3.size hb
    have kH := kH3.below hb kH3.lt
    have iA := iA3.behind hb
    have iD := iD3.behind hb
    have iL := iL3.behind hb
    obtain ⟨d0, d1, d2, d3, d4⟩ := kH.five
    by_cases hlt : k < fs.length
    · obtain ⟨al, hL, hBl, hcl0⟩ := iL.get hlt
      subst hL
      have hki : (k : Int) < (fs.length : Int) := by omega
      have hk1 : (k : Int) + 1 ≤ (lap : Int) := by omega
      have hk2 : (k : Int) ≤ (k : Int) + 1 := by omega
      have hk3 : ((k : Int) + 1).toNat = k + 1 := by omega
      have hk4 : k + 1 - k = 1 := by omega
      have hk5 : ¬ lap = k := by omega
      have hk6 : k + 1 ≤ lap := by omega
      have hk7 : k ≤ k + 1 := by omega
      have hw1 : IntKind.i64.wrap ((k : Int) + 1) = (k : Int) + 1 := IntWalk.i64_in _ (by omega)
      have hso := HOP.out _ (List.getElem_mem hlt)
      have htk := List.take_succ_eq_append_getElem hlt
      have HTK := Lib.hid htk
      clear htk
      generalize fs[k] = s at *
      have hs0 := hso.lo
      have hs1 := hso.hi
      have hsm : ∀ x ∈ [s], 0 ≤ x ∧ x < C := by simpa using ⟨hs0, hs1⟩
      have HBR : Hid (∀ x ∈ (cols.filter fun x => !anyR C B F [s] x), Bh C B F s x) := fun x hx => by
        obtain ⟨g1, g2⟩ := (HRM.out s x).1 hx
        obtain ⟨g3, g4⟩ := HB.out x g1
        exact (bh_iff hd hs0 hs1 g3 g4).2 g2
      have hrl := HRL.out s
      have iS := cell_one (B := wr.heap.size) (a := al.add k) hcl0 (by rw [addr_block]; exact hBl)
      have HSO := Lib.hid hso
      have kHlt := kH.lt
      clear hso
      go_wp2_with fail
      go_region_held3 (fun w' => (w'.cell? ⟨w.heap.size, 0, none⟩ = some (.int .i64 C) ∧ w'.cell? ⟨w.heap.size, 1, none⟩ = some (.int .i64 R) ∧ w'.cell? ⟨w.heap.size, 2, none⟩ = some (.int .i64 B) ∧ w'.cell? ⟨w.heap.size, 3, none⟩ = some (.int .i64 F) ∧ w'.cell? ⟨w.heap.size, 4, none⟩ = some (.slice A cl.length cap)) ∧ w'.cell? (al.add k) = some (.int .i64 s)) (first | exact ⟨kH8.five, hc8⟩ | exact ⟨kH7.five, hc7⟩ | exact ⟨⟨d0, d1, d2, d3, d4⟩, hcl0⟩ | go_keep)
        (first
          | (go_at_call 83; refine (refLeft_own C R B F _ (some ad) dap cols _ _ [s] _ h1 h2 h7 h8 h9 (by omega) (by simp) hsm (by first | exact iD | exact iD.behind (Below.refl _ _).drew) (by first | exact iS | exact iS.behind (Below.refl _ _).drew)).mono ?_; rintro e w7 ⟨Y, yap, rfl, hown7, hb7'⟩; have hb7 : Below wr.heap.size wr w7 := (by first | exact hb7' | exact (Below.refl _ _).drew.trans hb7'); have kH7 := kH.below hb7 kHlt; have iY7 := Ints.of_own hown7; have iA7 := iA.behind hb7; have hc7 := (hb7.cell (p := al.add k) (by rw [addr_block]; exact hBl)).trans hcl0)
          | (go_at_call 98; refine (line98_any C R B F A cap cl s h1 h2 h7 h8 h9 hs0 hs1 hcl _ _ Y yap _ (Nat.le_refl _) hrl HBR.out iA7 iY7).mono ?_; rintro e w8 ⟨r, rfl, hr8, hb8⟩; have kH8 := kH7.below hb8 kH7.lt; have hc8 := (hb8.cell (p := al.add k) (by rw [addr_block]; have := hb7.size; omega)).trans hc7)
          | fail)
      have hb9 := hb.trans ((hb7.trans (hb8.mono hb7.size)).mono hb.size)
      have hrb : r ≤ 1000 := by have := hr8.le; omega
      have hrm : -1 ≤ r := by
        rcases hr8 with ⟨h, _⟩ | ⟨S, _, h, _⟩ <;> omega
      have HTAKE : Hid (0 ≤ r → best < 0 ∨ r + 1 < best → BestP C B F (isIn cl) cols (fs.take (k + 1)) (fun s => cols.filter fun x => !anyR C B F [s] x) (r + 1)) := fun g1 g2 => by
        rw [HTK.out]
        exact hbest.out.take HSO.out (fun x hx hn => (HRM.out s x).2 ⟨hx, hn⟩) hr8 g1 g2
      have HSKIP : Hid (r < 0 ∨ (0 ≤ best ∧ best ≤ r + 1) → BestP C B F (isIn cl) cols (fs.take (k + 1)) (fun s => cols.filter fun x => !anyR C B F [s] x) best) := fun g => by
        rw [HTK.out]
        exact hbest.out.skip hr8 g
      have hw2 : IntKind.i64.wrap (r + 1) = r + 1 := IntWalk.i64_in _ (by omega)
      clear hbest hr8 HBR HSO d0 d1 d2 d3 d4 hcl0 iS
      by_cases g1 : 0 ≤ r
      · have g2 : decide (0 ≤ r) = true := decide_eq_true g1
        by_cases g3 : best < 0
        · have g4 : decide (best < 0) = true := decide_eq_true g3
          have HN := Lib.hid (HTAKE.out g1 (.inl g3))
          clear HTAKE HSKIP
          go_wp2_with fail
          go_roundw
          case rel => exact ⟨k + 1, r + 1, by omega, by go_num, rfl, HN, by omega, by omega, hb9⟩
          case measure => simp [intOf]; try omega
        · have g4 : decide (best < 0) = false := decide_eq_false g3
          by_cases g5 : r + 1 < best
          · have g6 : decide (r + 1 < best) = true := decide_eq_true g5
            have HN := Lib.hid (HTAKE.out g1 (.inr g5))
            clear HTAKE HSKIP
            go_wp2_with fail
            go_roundw
            case rel => exact ⟨k + 1, r + 1, by omega, by go_num, rfl, HN, by omega, by omega, hb9⟩
            case measure => simp [intOf]; try omega
          · have g6 : decide (r + 1 < best) = false := decide_eq_false g5
            have HN := Lib.hid (HSKIP.out (.inr ⟨by omega, by omega⟩))
            clear HTAKE HSKIP
            go_wp2_with fail
            go_roundw
            case rel => exact ⟨k + 1, best, by omega, by go_num, rfl, HN, by omega, by omega, hb9⟩
            case measure => simp [intOf]; try omega
      · have g2 : decide (0 ≤ r) = false := decide_eq_false g1
        have HN := Lib.hid (HSKIP.out (.inl (by omega)))
        clear HTAKE HSKIP
        go_wp2_with fail
        go_roundw
        case rel => exact ⟨k + 1, best, by omega, by go_num, rfl, HN, by omega, by omega, hb9⟩
        case measure => simp [intOf]; try omega
    · have HL : Hid (LineP C B F (isIn cl) cols best) := by
        have := hbest.out
        rw [List.take_of_length_le (by omega)] at this
        exact this.done hfirst.out HFS.out (fun s x hx => (HRM.out s x).1 hx)
      clear hbest
      go_wp2_with fail
      go_ret
      exact ⟨best, rfl, HL.out, bw⟩

end Go.Proofs.Ytnjmkdgglpcfpaa
