import Derived.Test.YtnjmkdgglpcfpaaC8
import Derived.StillTailTactics
namespace Go.Proofs.Ytnjmkdgglpcfpaa
set_option linter.unusedSimpArgs false
set_option linter.unusedVariables false
open Go.RowKit

set_option maxRecDepth 100000 in
set_option maxHeartbeats 4000000 in
theorem refColumns_own (C R B F : Int) (sl : Value) (D : Option Addr) (dap : Nat) (l : List Int) (w : World) (h1 : 1 ≤ C) (h2 : C ≤ 120) (hll : l.length ≤ 1000000) (hpos : ∀ x ∈ l, 0 ≤ x) (hl : Ints w w.heap.size D l) :
    Calls Try.prog 80 #[.agg #[.int .i64 C, .int .i64 R, .int .i64 B, .int .i64 F, sl], .slice D l.length dap] w (RetOwn w (colsTo (isIn (colm C l)) C.toNat)) := by
  have hC : (C == 0) = false := by simp; omega
  obtain ⟨n, rfl⟩ := Int.eq_ofNat_of_zero_le (show 0 ≤ C by omega)
  rw [Int.toNat_natCast]
  have hfin : Hid (isIn (colm n l) = isIn (colm n (l.take l.length))) := by unfold Hid; rw [List.take_length]
  generalize hp : isIn (colm n l) = p at hfin
  clear hp
  go_enter Try.func80, Try.ntmps80
  go_wp2_with fail
  go_loopw [5, 6, 7, 8] (fun v i _ _ wr => ∃ k : Nat, ∃ A c', k ≤ n ∧ i = .int .i64 k ∧ v = .slice A (colsTo p k).length c' ∧ Below w.heap.size w wr ∧ Blk wr w.heap.size 24 #[.int .i64 n, .int .i64 R, .int .i64 B, .int .i64 F, sl] ∧ wr.ownsRow (w.heap.size + 1) 3 1 (.slice A (colsTo p k).length c') (colsTo p k).length ((colsTo p k).map (Value.int .i64)))
    (fun _ i _ _ _ => n - (intOf i).toNat)
  case atStart => exact ⟨0, none, 0, by omega, rfl, rfl, below_new _ _, Blk.new _ _ _, World.ownsRow_nil _ _ _ _⟩
  case round =>
    obtain ⟨k, A, c', hk, rfl, rfl, hb, hb0, hown⟩ := hrel
    have hlt0 := hb0.lt
    have hln := colsTo_len p k
    obtain ⟨d0, d1, d2, d3, d4⟩ := hb0.five
    by_cases hlt : k < n
    · go_wp2_with fail
      clear d0 d1 d2 d3 d4
      go_loopw [7, 8] (fun b i w2 => ∃ j : Nat, j ≤ l.length ∧ i = .int .i64 j ∧ b = .bool (isIn (colm n (l.take j)) k) ∧ (∃ nq, w2 = wr.drewN nq))
        (fun _ i _ => l.length - (intOf i).toNat)
      case atStart => exact ⟨0, Nat.zero_le _, rfl, by simp [isIn, colm], 0, rfl⟩
      case round =>
        obtain ⟨j, hj, rfl, rfl, nq, rfl⟩ := hrel
        have hbj := hb0.drew' nq
        obtain ⟨d0, d1, d2, d3, d4⟩ := hb0.five
        by_cases hjl : j < l.length
        · obtain ⟨ad, hA, hB, hc⟩ := (hl.below hb).get hjl
          subst hA
          have hll2 : (j : Int) < (l.length : Int) := by omega
          have hx := hpos _ (List.getElem_mem hjl)
          have hn := isIn_snoc (C := n) (c := k) hjl
          have hmt : l[j].tmod (n : Int) = l[j] % (n : Int) := Int.tmod_eq_emod_of_nonneg hx
          cases hf : isIn (colm n (l.take j)) k with
          | true =>
            rw [hf, Bool.true_or] at hn
            have HN := Lib.hid hn
            clear hn hf hmt
            go_wp2_with fail
            go_quiet (fail)
            go_wp2_with fail
            go_roundw
            case rel => exact ⟨j + 1, by omega, by go_num, by rw [HN.out], _, rfl⟩
            case measure => simp [intOf]; try omega
          | false =>
            rw [hf, Bool.false_or] at hn
            by_cases he : (k : Int) = l[j] % (n : Int)
            · rw [decide_eq_true he] at hn
              have HN := Lib.hid hn
              have hq : (l[j].tmod (n : Int) == (k : Int)) = true := by rw [hmt, he]; simp
              have hq2 : l[j].tmod (n : Int) = (k : Int) := by rw [hmt, he]
              clear hn hf hmt he
              go_wp2_with fail
              go_quiet (fail)
              go_wp2_with fail
              go_roundw
              case rel => exact ⟨j + 1, by omega, by go_num, by rw [HN.out], _, rfl⟩
              case measure => simp [intOf]; try omega
            · rw [decide_eq_false he] at hn
              have HN := Lib.hid hn
              have HMT := Lib.hid hmt
              have hq2 : ¬ l[j].tmod (n : Int) = (k : Int) := by rw [hmt]; exact fun e => he e.symm
              have hq : (l[j].tmod (n : Int) == (k : Int)) = false := by simpa using hq2
              clear hn hf hmt he
              go_wp2_with fail
              go_quiet (fail)
              go_wp2_with fail
              go_roundw
              case rel => exact ⟨j + 1, by omega, by go_num, by rw [HN.out, ← HMT.out]; simp only [hq], _, rfl⟩
              case measure => simp [intOf]; try omega
        · obtain rfl : j = l.length := by omega
          have hownj : (wr.drewN nq).ownsRow (w.heap.size + 1) 3 1 (.slice A (colsTo p k).length c') (colsTo p k).length ((colsTo p k).map (Value.int .i64)) := own_below hown (below_drewN (Below.refl _ _) nq)
          have hbd := below_drewN hb nq
          have hzd := hbd.size
          rw [← hfin.out]
          cases hpk : p k with
          | true =>
            have HY := Lib.hid (colsTo_yes hpk)
            clear hpk
            go_wp2_with (at_builtin; refine app1 (by rfl) _ _ (by rfl) (w.heap.size + 1) (colsTo p k) k _ (by rfl) hownj (by rfl) (by omega) (by have := hbj.lt; omega) ?_; intro A' c'' w3 hown1 hb3)
            go_roundw
            case rel => exact ⟨k + 1, A', c'', by omega, by go_num, by rw [HY.out]; simp, hbd.trans (hb3.mono (by omega)), hbj.below hb3 (by omega), by rw [HY.out]; exact hown1⟩
            case measure => simp [intOf]; try omega
          | false =>
            have HY := Lib.hid (colsTo_no hpk)
            clear hpk
            go_wp2_with fail
            go_roundw
            case rel => exact ⟨k + 1, A, c', by omega, by go_num, by rw [HY.out], hbd, hbj, by rw [HY.out]; exact hownj⟩
            case measure => simp [intOf]; try omega
    · obtain rfl : k = n := by omega
      go_wp2_with fail
      go_ret
      exact ⟨_, _, rfl, own_less hown (by omega), hb⟩

set_option maxRecDepth 100000 in
set_option maxHeartbeats 4000000 in
theorem refLeft_own (C R B F : Int) (sl : Value) (D : Option Addr) (dap : Nat) (l : List Int) (E : Option Addr) (eap : Nat) (m : List Int) (w : World) (h1 : 1 ≤ C) (h2 : C ≤ 120) (h7 : 0 ≤ B) (h8 : 0 ≤ F) (h9 : F < C - B) (hll : l.length ≤ 1000000) (hlm : m.length ≤ 1000000) (hm : ∀ x ∈ m, 0 ≤ x ∧ x < C) (hl : Ints w w.heap.size D l) (hs : Ints w w.heap.size E m) :
    Calls Try.prog 83 #[.agg #[.int .i64 C, .int .i64 R, .int .i64 B, .int .i64 F, sl], .slice D l.length dap, .slice E m.length eap] w (RetOwn w (l.filter fun x => !anyR C B F m x)) := by
  generalize hp : (fun x : Int => !anyR C B F m x) = pu
  have HP := Lib.hid hp
  clear hp
  go_enter Try.func83, Try.ntmps83
  go_wp2_with fail
  go_loopw [7, 8, 9, 10, 11] (fun v i _ _ _ wr => ∃ k : Nat, ∃ A c', k ≤ l.length ∧ i = .int .i64 k ∧ v = .slice A ((l.take k).filter pu).length c' ∧ Below w.heap.size w wr ∧ Blk wr w.heap.size 24 #[.int .i64 C, .int .i64 R, .int .i64 B, .int .i64 F, sl] ∧ wr.ownsRow (w.heap.size + 1) 3 1 (.slice A ((l.take k).filter pu).length c') ((l.take k).filter pu).length (((l.take k).filter pu).map (Value.int .i64)))
    (fun _ i _ _ _ _ => l.length - (intOf i).toNat)
  case atStart => exact ⟨0, none, 0, Nat.zero_le _, rfl, rfl, below_new _ _, Blk.new _ _ _, World.ownsRow_nil _ _ _ _⟩
  case round =>
    obtain ⟨k, A, c', hk, rfl, rfl, hb, hb0, hown⟩ := hrel
    have hlt0 := hb0.lt
    by_cases hlt : k < l.length
    · obtain ⟨ad, hA, hadb, hce⟩ := (hl.below hb).get hlt
      subst hA
      have hfl := filt_len (L := l) (k := k) (pu := pu)
      have HY := Lib.hid (filt_yes (pu := pu) hlt)
      have HN := Lib.hid (filt_no (pu := pu) hlt)
      have hll2 : (k : Int) < (l.length : Int) := by omega
      have hpx : pu l[k] = !anyR C B F m l[k] := by rw [← HP.out]
      have HPX := Lib.hid hpx
      clear hpx
      obtain ⟨x, hx⟩ : ∃ x, l[k] = x := ⟨_, rfl⟩
      rw [hx] at hce HY HN HPX
      clear hx
      go_wp2_with fail
      go_loopw [9, 10, 11] (fun b i _ w2 => ∃ j : Nat, j ≤ m.length ∧ i = .int .i64 j ∧ b = .bool (anyR C B F (m.take j) x) ∧ Below wr.heap.size wr w2)
        (fun _ i _ _ => m.length - (intOf i).toNat)
      case atStart => exact ⟨0, Nat.zero_le _, rfl, by simp [anyR], Below.refl _ _⟩
      case round =>
        obtain ⟨j, hj, rfl, rfl, hb2⟩ := hrel
        have hz2 := hb2.size
        have hbw : Below w.heap.size w wr := below_next hb hb.size hb2
        have hbj := hb0.below hb2 hlt0
        obtain ⟨d0, d1, d2, d3, d4⟩ := hbj.five
        have hcw : wr.cell? (ad.add k) = some (.int .i64 x) := (hb2.cell (p := ad.add k) (by rw [addr_block]; exact Nat.lt_trans hadb hlt0)).trans hce
        by_cases hjl : j < m.length
        · obtain ⟨ae, hE, haeb, hcf⟩ := (hs.below hbw).get hjl
          subst hE
          have hlm2 : (j : Int) < (m.length : Int) := by omega
          have hsx := hm _ (List.getElem_mem hjl)
          have HS := Lib.hid (anyR_snoc (C := C) (B := B) (F := F) (x := x) hjl)
          cases hf : anyR C B F (m.take j) x with
          | true =>
            rw [hf, Bool.true_or] at HS
            clear hf
            go_wp2_with fail
            go_region_held3 (fun w' => w'.cell? ⟨w.heap.size, 0, none⟩ = some (.int .i64 C) ∧ w'.cell? ⟨w.heap.size, 1, none⟩ = some (.int .i64 R) ∧ w'.cell? ⟨w.heap.size, 2, none⟩ = some (.int .i64 B) ∧ w'.cell? ⟨w.heap.size, 3, none⟩ = some (.int .i64 F) ∧ w'.cell? ⟨w.heap.size, 4, none⟩ = some sl ∧ w'.cell? (ad.add k) = some (.int .i64 x) ∧ w'.cell? (ae.add j) = some (.int .i64 m[j])) (first | exact K1 | exact ⟨d0, d1, d2, d3, d4, hcw, hcf⟩)
              (first
                | (go_at_call 110; refine (reached_any C R B F _ m[j] x _ h1 h2 hsx.1 hsx.2 h7 h8 h9).mono ?_; rintro e w3 ⟨rfl, hb3⟩; obtain ⟨q1, q2⟩ := bcell hb3; have K1 : w3.cell? ⟨w.heap.size, 0, none⟩ = some (.int .i64 C) ∧ w3.cell? ⟨w.heap.size, 1, none⟩ = some (.int .i64 R) ∧ w3.cell? ⟨w.heap.size, 2, none⟩ = some (.int .i64 B) ∧ w3.cell? ⟨w.heap.size, 3, none⟩ = some (.int .i64 F) ∧ w3.cell? ⟨w.heap.size, 4, none⟩ = some sl ∧ w3.cell? (ad.add k) = some (.int .i64 x) ∧ w3.cell? (ae.add j) = some (.int .i64 m[j]) := ⟨(q1 _ _ hbj.lt).trans d0, (q1 _ _ hbj.lt).trans d1, (q1 _ _ hbj.lt).trans d2, (q1 _ _ hbj.lt).trans d3, (q1 _ _ hbj.lt).trans d4, (hb3.cell (p := ad.add k) (World.block_lt_of_cell? wr _ hcw)).trans hcw, (hb3.cell (p := ae.add j) (World.block_lt_of_cell? wr _ hcf)).trans hcf⟩))
            go_wp2_with fail
            go_roundw
            case rel => exact ⟨j + 1, by omega, by go_num, by rw [HS.out], below_next hb2.drew hz2 hb3⟩
            case measure => simp [intOf]; try omega
          | false =>
            rw [hf, Bool.false_or] at HS
            clear hf
            go_wp2_with fail
            go_region_held3 (fun w' => w'.cell? ⟨w.heap.size, 0, none⟩ = some (.int .i64 C) ∧ w'.cell? ⟨w.heap.size, 1, none⟩ = some (.int .i64 R) ∧ w'.cell? ⟨w.heap.size, 2, none⟩ = some (.int .i64 B) ∧ w'.cell? ⟨w.heap.size, 3, none⟩ = some (.int .i64 F) ∧ w'.cell? ⟨w.heap.size, 4, none⟩ = some sl ∧ w'.cell? (ad.add k) = some (.int .i64 x) ∧ w'.cell? (ae.add j) = some (.int .i64 m[j])) (first | exact K1 | exact ⟨d0, d1, d2, d3, d4, hcw, hcf⟩)
              (first
                | (go_at_call 110; refine (reached_any C R B F _ m[j] x _ h1 h2 hsx.1 hsx.2 h7 h8 h9).mono ?_; rw [← HS.out]; rintro e w3 ⟨rfl, hb3⟩; obtain ⟨q1, q2⟩ := bcell hb3; have K1 : w3.cell? ⟨w.heap.size, 0, none⟩ = some (.int .i64 C) ∧ w3.cell? ⟨w.heap.size, 1, none⟩ = some (.int .i64 R) ∧ w3.cell? ⟨w.heap.size, 2, none⟩ = some (.int .i64 B) ∧ w3.cell? ⟨w.heap.size, 3, none⟩ = some (.int .i64 F) ∧ w3.cell? ⟨w.heap.size, 4, none⟩ = some sl ∧ w3.cell? (ad.add k) = some (.int .i64 x) ∧ w3.cell? (ae.add j) = some (.int .i64 m[j]) := ⟨(q1 _ _ hbj.lt).trans d0, (q1 _ _ hbj.lt).trans d1, (q1 _ _ hbj.lt).trans d2, (q1 _ _ hbj.lt).trans d3, (q1 _ _ hbj.lt).trans d4, (hb3.cell (p := ad.add k) (World.block_lt_of_cell? wr _ hcw)).trans hcw, (hb3.cell (p := ae.add j) (World.block_lt_of_cell? wr _ hcf)).trans hcf⟩))
            go_wp2_with fail
            go_roundw
            case rel => exact ⟨j + 1, by omega, by go_num, rfl, below_next hb2.drew hz2 hb3⟩
            case measure => simp [intOf]; try omega
        · obtain rfl : j = m.length := by omega
          have em : m.take m.length = m := List.take_length
          rw [em]
          clear em
          have hown2 := own_below hown hb2
          cases hf : anyR C B F m x with
          | true =>
            have HF : Hid (pu x = false) := by unfold Hid; rw [HPX.out, hf]; rfl
            clear hf
            go_wp2_with fail
            go_roundw
            case rel => exact ⟨k + 1, A, c', by omega, by go_num, by rw [HN.out HF.out], hbw, hbj, by rw [HN.out HF.out]; exact hown2⟩
            case measure => simp [intOf]; try omega
          | false =>
            have HF : Hid (pu x = true) := by unfold Hid; rw [HPX.out, hf]; rfl
            clear hf
            go_wp2_with (at_builtin; refine app1 (by rfl) _ _ (by rfl) (w.heap.size + 1) ((l.take k).filter pu) x _ (by rfl) hown2 (by rfl) (by omega) (by omega) ?_; intro A' c'' w4 hown1 hb4)
            go_roundw
            case rel => exact ⟨k + 1, A', c'', by omega, by go_num, by rw [HY.out HF.out]; simp, hbw.trans (hb4.mono (by omega)), hbj.below hb4 (by omega), by rw [HY.out HF.out]; exact hown1⟩
            case measure => simp [intOf]; try omega
    · have ek : l.take k = l := List.take_of_length_le (by omega)
      rw [ek] at hown ⊢
      clear ek
      go_wp2_with fail
      go_ret
      exact ⟨_, _, rfl, own_less hown (by omega), hb⟩

set_option maxRecDepth 100000 in
set_option maxHeartbeats 1000000 in
/-- the reference's Columns -/
theorem refColumns31_any (C R B F : Int) (A : Option Addr) (cap : Nat) (cl : List Int) (D : Option Addr) (dap : Nat) (l : List Int) (w : World) (hcl : cl.length ≤ 1000000) (hll : l.length ≤ 1000000) (hr : Ints w w.heap.size A cl) (hl : Ints w w.heap.size D l) :
    Calls Try.prog 31 #[.agg #[.int .i64 C, .int .i64 R, .int .i64 B, .int .i64 F, .slice A cl.length cap], .slice D l.length dap] w (RetIntsE w (if holesErr C R B F cl l = 0 then colsTo (isIn (colm C l)) C.toNat else []) (holesErr C R B F cl l)) := by
  have hb0 : Below w.heap.size w ((w.alloc (.cells #[.int .i64 C, .int .i64 R, .int .i64 B, .int .i64 F, .slice A cl.length cap] 24)).alloc (.cells #[.slice none 0 0, .int .i64 0] 36)) := (below_new w (.cells #[.int .i64 C, .int .i64 R, .int .i64 B, .int .i64 F, .slice A cl.length cap] 24)).alloc (by simp) _
  have hbk : Blk ((w.alloc (.cells #[.int .i64 C, .int .i64 R, .int .i64 B, .int .i64 F, .slice A cl.length cap] 24)).alloc (.cells #[.slice none 0 0, .int .i64 0] 36)) w.heap.size 24 #[.int .i64 C, .int .i64 R, .int .i64 B, .int .i64 F, .slice A cl.length cap] := (Blk.new _ _ _).alloc _
  have hbq : Blk ((w.alloc (.cells #[.int .i64 C, .int .i64 R, .int .i64 B, .int .i64 F, .slice A cl.length cap] 24)).alloc (.cells #[.slice none 0 0, .int .i64 0] 36)) (w.heap.size + 1) 36 #[.slice none 0 0, .int .i64 0] := Blk.newAt (by simp)
  have hr1 := hr.behind hb0
  have hl1 := hl.behind hb0
  by_cases he : holesErr C R B F cl l = 0
  · have hk := holesErr_zero.1 he
    have k1 := hk.ok.c3
    have k2 := hk.ok.c120
    have hpos : ∀ x ∈ l, 0 ≤ x := fun x hx => (hk.all x hx).1
    rw [if_pos he, he]
    have HE := Lib.hid he
    clear he hk
    go_enter Try.func31, Try.ntmps31
    go_wp2_with (first
      | (go_at_call 79; refine (wanted_any C R B F A cap cl D dap l _ hcl hll hr1 hl1).mono ?_; rw [HE.out]; rintro e w1 ⟨rfl, hb1⟩; have hbq1 := hbq.below hb1 (by simp); have hbk1 := hbk.below hb1 (by simp; omega); obtain ⟨d0, d1, d2, d3, d4⟩ := hbk1.five)
      | (go_at_call 80; refine (refColumns_own C R B F _ D dap l _ (by omega) k2 hll hpos (hl1.behind hb1)).mono ?_; rintro e w2 ⟨S, sap, rfl, hown, hb2⟩; have hbq2 := hbq1.below hb2 hbq1.lt; obtain ⟨m0, m1, m2, m3⟩ : w2.cell? ⟨w.heap.size + 1, 0, none⟩ = some (.slice none 0 0) ∧ w2.cell? ⟨w.heap.size + 1, 1, none⟩ = some (.int .i64 0) ∧ w2.frozen? ⟨w.heap.size + 1, 0, none⟩ = false ∧ w2.frozen? ⟨w.heap.size + 1, 1, none⟩ = false := ⟨hbq2.cell 0, hbq2.cell 1, hbq2.frozen 0, hbq2.frozen 1⟩))
    have hz1 := hb1.size
    have hz2 := hb2.size
    have hq1 := hbq1.lt
    simp at hz1
    obtain ⟨s1, s2, _⟩ := own_facts hown
    have ho2 := ownsRow_setCell_below (ownsRow_setCell_below hown (a := ⟨w.heap.size + 1, 0, none⟩) (show w.heap.size + 1 < w1.heap.size by omega) (.slice S (colsTo (isIn (colm C l)) C.toNat).length sap)) (a := ⟨w.heap.size + 1, 1, none⟩) (show w.heap.size + 1 < w1.heap.size by omega) (.int .i64 0)
    refine bodyPost_ret (v := .agg #[.slice S (colsTo (isIn (colm C l)) C.toNat).length sap, .int .i64 0]) (results_cell_row (g := w.heap.size + 1) rfl _ _ 36 _ (0, 0) _ rfl ((hbq2.store 0 (.slice S (colsTo (isIn (colm C l)) C.toNat).length sap)).store 1 (.int .i64 0)) Try.underlying36 rfl info36) rfl ?_
    exact ⟨S, sap, rfl, s1, s2, Ints.of_own ho2, ((below_next (below_next hb0 (by simp; omega) hb1) (by omega) hb2).setCell (p := ⟨w.heap.size + 1, 0, none⟩) (by simp) _).setCell (p := ⟨w.heap.size + 1, 1, none⟩) (by simp) _⟩
  · have n1 : (holesErr C R B F cl l == 0) = false := by simpa using he
    have n2 : (holesErr C R B F cl l != 0) = true := by simpa using he
    rw [if_neg he]
    clear he
    go_enter Try.func31, Try.ntmps31
    go_wp2_with (first
      | (go_at_call 79; refine (wanted_any C R B F A cap cl D dap l _ hcl hll hr1 hl1).mono ?_; rintro e w1 ⟨rfl, hb1⟩; have hbq1 := hbq.below hb1 (by simp); obtain ⟨m0, m1, m2, m3⟩ : w1.cell? ⟨w.heap.size + 1, 0, none⟩ = some (.slice none 0 0) ∧ w1.cell? ⟨w.heap.size + 1, 1, none⟩ = some (.int .i64 0) ∧ w1.frozen? ⟨w.heap.size + 1, 0, none⟩ = false ∧ w1.frozen? ⟨w.heap.size + 1, 1, none⟩ = false := ⟨hbq1.cell 0, hbq1.cell 1, hbq1.frozen 0, hbq1.frozen 1⟩))
    refine bodyPost_ret (v := .agg #[.slice none 0 0, .int .i64 (holesErr C R B F cl l)]) (results_cell_row (g := w.heap.size + 1) rfl _ _ 36 _ (0, 0) _ rfl ((hbq1.store 0 (.slice none 0 0)).store 1 (.int .i64 (holesErr C R B F cl l))) Try.underlying36 rfl info36) rfl ?_
    exact ⟨none, 0, rfl, Nat.le_refl _, by simp [maxLen], Ints.nil, ((below_next hb0 (by simp; omega) hb1).setCell (p := ⟨w.heap.size + 1, 0, none⟩) (by simp) _).setCell (p := ⟨w.heap.size + 1, 1, none⟩) (by simp) _⟩

set_option maxRecDepth 100000 in
set_option maxHeartbeats 2000000 in
/-- the reference's Left -/
theorem refLeft33_any (C R B F : Int) (A : Option Addr) (cap : Nat) (cl : List Int) (D : Option Addr) (dap : Nat) (l : List Int) (E : Option Addr) (eap : Nat) (st : List Int) (w : World) (hcl : cl.length ≤ 1000000) (hll : l.length ≤ 1000000) (hsl : st.length ≤ 1000000) (hr : Ints w w.heap.size A cl) (hl : Ints w w.heap.size D l) (hs : Ints w w.heap.size E st) :
    Calls Try.prog 33 #[.agg #[.int .i64 C, .int .i64 R, .int .i64 B, .int .i64 F, .slice A cl.length cap], .slice D l.length dap, .slice E st.length eap] w (RetIntsE w (if leftErr C R B F cl l st = 0 then ((colsTo (isIn (colm C l)) C.toNat).filter fun x => !anyR C B F st x) else []) (leftErr C R B F cl l st)) := by
  have hb0 : Below w.heap.size w ((w.alloc (.cells #[.int .i64 C, .int .i64 R, .int .i64 B, .int .i64 F, .slice A cl.length cap] 24)).alloc (.cells #[.slice none 0 0, .int .i64 0] 36)) := (below_new w (.cells #[.int .i64 C, .int .i64 R, .int .i64 B, .int .i64 F, .slice A cl.length cap] 24)).alloc (by simp) _
  have hbk : Blk ((w.alloc (.cells #[.int .i64 C, .int .i64 R, .int .i64 B, .int .i64 F, .slice A cl.length cap] 24)).alloc (.cells #[.slice none 0 0, .int .i64 0] 36)) w.heap.size 24 #[.int .i64 C, .int .i64 R, .int .i64 B, .int .i64 F, .slice A cl.length cap] := (Blk.new _ _ _).alloc _
  have hbq : Blk ((w.alloc (.cells #[.int .i64 C, .int .i64 R, .int .i64 B, .int .i64 F, .slice A cl.length cap] 24)).alloc (.cells #[.slice none 0 0, .int .i64 0] 36)) (w.heap.size + 1) 36 #[.slice none 0 0, .int .i64 0] := Blk.newAt (by simp)
  have hr1 := hr.behind hb0
  have hl1 := hl.behind hb0
  have hs1 := hs.behind hb0
  by_cases h1 : holesErr C R B F cl l = 0
  · have hk := holesErr_zero.1 h1
    have k1 := hk.ok.c3
    have k2 := hk.ok.c120
    have k3 := hk.ok.b0
    have k4 := hk.ok.f0
    have k5 := hk.ok.bf
    have hpos : ∀ x ∈ l, 0 ≤ x := fun x hx => (hk.all x hx).1
    have HE := Lib.hid h1
    have e1 : leftErr C R B F cl l st = standsErr C cl st := by unfold leftErr; rw [if_neg (by simp [h1])]
    rw [e1]
    clear h1 e1 hk
    by_cases h2 : standsErr C cl st = 0
    · have h3 : ∀ x ∈ st, 0 ≤ x ∧ x < C := by
        unfold standsErr at h2
        split at h2
        · cases h2
        · split at h2
          · rename_i hh; exact hh.1.2
          · cases h2
      rw [if_pos h2, h2]
      have HS := Lib.hid h2
      clear h2
      go_enter Try.func33, Try.ntmps33
      go_wp2_with (first
        | (go_at_call 79; refine (wanted_any C R B F A cap cl D dap l _ hcl hll hr1 hl1).mono ?_; rw [HE.out]; rintro e w1 ⟨rfl, hb1⟩; have hbq1 := hbq.below hb1 (by simp); have hbk1 := hbk.below hb1 (by simp; omega); obtain ⟨d0, d1, d2, d3, d4⟩ := hbk1.five; have hr2 := hr1.behind hb1; have hl2 := hl1.behind hb1; have hs2 := hs1.behind hb1)
        | (go_at_call 82; refine (stood_any C R B F A cap cl E eap st _ (by omega) k2 hcl hsl hr2 hs2).mono ?_; rw [HS.out]; rintro e w2 ⟨rfl, hb2⟩; have hbq2 := hbq1.below hb2 hbq1.lt; have hbk2 := hbk1.below hb2 hbk1.lt; clear d0 d1 d2 d3 d4; obtain ⟨d0, d1, d2, d3, d4⟩ := hbk2.five; have hl3 := hl2.behind hb2; have hs3 := hs2.behind hb2))
      have hlt2 := hbk2.lt
      have hlt3 := hbq2.lt
      have hz1 := hb1.size
      have hz2 := hb2.size
      simp at hz1
      go_region_held3 (fun w' => w'.cell? ⟨w.heap.size, 0, none⟩ = some (.int .i64 C) ∧ w'.cell? ⟨w.heap.size, 1, none⟩ = some (.int .i64 R) ∧ w'.cell? ⟨w.heap.size, 2, none⟩ = some (.int .i64 B) ∧ w'.cell? ⟨w.heap.size, 3, none⟩ = some (.int .i64 F) ∧ w'.cell? ⟨w.heap.size, 4, none⟩ = some (.slice A cl.length cap)) (first | exact K4 | exact K3 | exact ⟨d0, d1, d2, d3, d4⟩ | go_keep)
        (first
          | (go_at_call 80; refine (refColumns_own C R B F _ D dap l _ (by omega) k2 hll hpos (by first | exact hl3 | exact hl3.behind (Below.refl _ _).drew)).mono ?_; rintro e w3 ⟨S, sap, rfl, hown3, hb3⟩; have hb3x : Below w2.heap.size w2 w3 := (by first | exact hb3 | exact (Below.refl _ _).drew.trans hb3); have K3 : w3.cell? ⟨w.heap.size, 0, none⟩ = some (.int .i64 C) ∧ w3.cell? ⟨w.heap.size, 1, none⟩ = some (.int .i64 R) ∧ w3.cell? ⟨w.heap.size, 2, none⟩ = some (.int .i64 B) ∧ w3.cell? ⟨w.heap.size, 3, none⟩ = some (.int .i64 F) ∧ w3.cell? ⟨w.heap.size, 4, none⟩ = some (.slice A cl.length cap) := keep5 hb3x ⟨d0, d1, d2, d3, d4⟩)
          | (go_at_call 83; refine (refLeft_own C R B F _ S sap (colsTo (isIn (colm C l)) C.toNat) E eap st _ (by omega) k2 k3 k4 k5 (by have : (colsTo (isIn (colm C l)) C.toNat).length ≤ C.toNat := colsTo_len _ _; omega) hsl h3 (Ints.of_own hown3) (hs3.behind hb3x)).mono ?_; rintro e w4 ⟨Y, yap, rfl, hown4, hb4⟩; have K4 : w4.cell? ⟨w.heap.size, 0, none⟩ = some (.int .i64 C) ∧ w4.cell? ⟨w.heap.size, 1, none⟩ = some (.int .i64 R) ∧ w4.cell? ⟨w.heap.size, 2, none⟩ = some (.int .i64 B) ∧ w4.cell? ⟨w.heap.size, 3, none⟩ = some (.int .i64 F) ∧ w4.cell? ⟨w.heap.size, 4, none⟩ = some (.slice A cl.length cap) := keep5 hb4 K3; have hbq3 := hbq2.below hb3x hlt3; have hbq4 := hbq3.below hb4 hbq3.lt; obtain ⟨n0, n1, n2, n3⟩ : w4.cell? ⟨w.heap.size + 1, 0, none⟩ = some (.slice none 0 0) ∧ w4.cell? ⟨w.heap.size + 1, 1, none⟩ = some (.int .i64 0) ∧ w4.frozen? ⟨w.heap.size + 1, 0, none⟩ = false ∧ w4.frozen? ⟨w.heap.size + 1, 1, none⟩ = false := ⟨hbq4.cell 0, hbq4.cell 1, hbq4.frozen 0, hbq4.frozen 1⟩))
      have hz3 := hb3x.size
      have hz4 := hb4.size
      obtain ⟨s1, s2, _⟩ := own_facts hown4
      go_wp2_with fail
      have ho2 := ownsRow_setCell_below (ownsRow_setCell_below hown4 (a := ⟨w.heap.size + 1, 0, none⟩) (show w.heap.size + 1 < w3.heap.size by omega) (.slice Y ((colsTo (isIn (colm C l)) C.toNat).filter fun x => !anyR C B F st x).length yap)) (a := ⟨w.heap.size + 1, 1, none⟩) (show w.heap.size + 1 < w3.heap.size by omega) (.int .i64 0)
      refine bodyPost_ret (v := .agg #[.slice Y ((colsTo (isIn (colm C l)) C.toNat).filter fun x => !anyR C B F st x).length yap, .int .i64 0]) (results_cell_row (g := w.heap.size + 1) rfl _ _ 36 _ (0, 0) _ rfl ((hbq4.store 0 (.slice Y ((colsTo (isIn (colm C l)) C.toNat).filter fun x => !anyR C B F st x).length yap)).store 1 (.int .i64 0)) Try.underlying36 rfl info36) rfl ?_
      exact ⟨Y, yap, rfl, s1, s2, Ints.of_own ho2, ((below_next (below_next (below_next (below_next hb0 (by simp; omega) hb1) (by omega) hb2) (by omega) hb3x) (by omega) hb4).setCell (p := ⟨w.heap.size + 1, 0, none⟩) (by simp) _).setCell (p := ⟨w.heap.size + 1, 1, none⟩) (by simp) _⟩
    · have n1 : (standsErr C cl st == 0) = false := by simpa using h2
      have n2 : (standsErr C cl st != 0) = true := by simpa using h2
      rw [if_neg h2]
      clear h2
      go_enter Try.func33, Try.ntmps33
      go_wp2_with (first
        | (go_at_call 79; refine (wanted_any C R B F A cap cl D dap l _ hcl hll hr1 hl1).mono ?_; rw [HE.out]; rintro e w1 ⟨rfl, hb1⟩; have hbq1 := hbq.below hb1 (by simp); have hbk1 := hbk.below hb1 (by simp; omega); obtain ⟨d0, d1, d2, d3, d4⟩ := hbk1.five; have hr2 := hr1.behind hb1; have hs2 := hs1.behind hb1)
        | (go_at_call 82; refine (stood_any C R B F A cap cl E eap st _ (by omega) k2 hcl hsl hr2 hs2).mono ?_; rintro e w2 ⟨rfl, hb2⟩; have hbq2 := hbq1.below hb2 hbq1.lt; obtain ⟨m0, m1, m2, m3⟩ : w2.cell? ⟨w.heap.size + 1, 0, none⟩ = some (.slice none 0 0) ∧ w2.cell? ⟨w.heap.size + 1, 1, none⟩ = some (.int .i64 0) ∧ w2.frozen? ⟨w.heap.size + 1, 0, none⟩ = false ∧ w2.frozen? ⟨w.heap.size + 1, 1, none⟩ = false := ⟨hbq2.cell 0, hbq2.cell 1, hbq2.frozen 0, hbq2.frozen 1⟩))
      have hz1 := hb1.size
      simp at hz1
      refine bodyPost_ret (v := .agg #[.slice none 0 0, .int .i64 (standsErr C cl st)]) (results_cell_row (g := w.heap.size + 1) rfl _ _ 36 _ (0, 0) _ rfl ((hbq2.store 0 (.slice none 0 0)).store 1 (.int .i64 (standsErr C cl st))) Try.underlying36 rfl info36) rfl ?_
      exact ⟨none, 0, rfl, Nat.le_refl _, by simp [maxLen], Ints.nil, ((below_next (below_next hb0 (by simp; omega) hb1) (by omega) hb2).setCell (p := ⟨w.heap.size + 1, 0, none⟩) (by simp) _).setCell (p := ⟨w.heap.size + 1, 1, none⟩) (by simp) _⟩
  · have e1 : leftErr C R B F cl l st = holesErr C R B F cl l := by unfold leftErr; rw [if_pos h1]
    have n1 : (holesErr C R B F cl l == 0) = false := by simpa using h1
    have n2 : (holesErr C R B F cl l != 0) = true := by simpa using h1
    rw [e1, if_neg h1]
    clear h1 e1
    go_enter Try.func33, Try.ntmps33
    go_wp2_with (first
      | (go_at_call 79; refine (wanted_any C R B F A cap cl D dap l _ hcl hll hr1 hl1).mono ?_; rintro e w1 ⟨rfl, hb1⟩; have hbq1 := hbq.below hb1 (by simp); obtain ⟨m0, m1, m2, m3⟩ : w1.cell? ⟨w.heap.size + 1, 0, none⟩ = some (.slice none 0 0) ∧ w1.cell? ⟨w.heap.size + 1, 1, none⟩ = some (.int .i64 0) ∧ w1.frozen? ⟨w.heap.size + 1, 0, none⟩ = false ∧ w1.frozen? ⟨w.heap.size + 1, 1, none⟩ = false := ⟨hbq1.cell 0, hbq1.cell 1, hbq1.frozen 0, hbq1.frozen 1⟩))
    refine bodyPost_ret (v := .agg #[.slice none 0 0, .int .i64 (holesErr C R B F cl l)]) (results_cell_row (g := w.heap.size + 1) rfl _ _ 36 _ (0, 0) _ rfl ((hbq1.store 0 (.slice none 0 0)).store 1 (.int .i64 (holesErr C R B F cl l))) Try.underlying36 rfl info36) rfl ?_
    exact ⟨none, 0, rfl, Nat.le_refl _, by simp [maxLen], Ints.nil, ((below_next hb0 (by simp; omega) hb1).setCell (p := ⟨w.heap.size + 1, 0, none⟩) (by simp) _).setCell (p := ⟨w.heap.size + 1, 1, none⟩) (by simp) _⟩

/-- a house in which a stand is closed, too -/
def shutL (C : Int) (cl : List Int) (s : Int) : List Int := colsTo (fun i => isIn cl i || decide ((i : Int) = s)) C.toNat
def shutsL (C : Int) (cl st : List Int) : List Int := st.foldl (shutL C) cl
set_option maxRecDepth 100000 in
set_option maxHeartbeats 1000000 in
/-- the reference's shut -/
theorem shut85_own (C R B F : Int) (A : Option Addr) (cap : Nat) (cl : List Int) (s : Int) (w : World) (h1 : 1 ≤ C) (h2 : C ≤ 120) (hcl : cl.length ≤ 1000000) (hr : Ints w w.heap.size A cl) :
    Calls Try.prog 85 #[.agg #[.int .i64 C, .int .i64 R, .int .i64 B, .int .i64 F, .slice A cl.length cap], .int .i64 s] w fun e w' => ∃ A' c', e = .returned (.agg #[.int .i64 C, .int .i64 R, .int .i64 B, .int .i64 F, .slice A' (shutL C cl s).length c']) ∧ w'.ownsRow w.heap.size 3 1 (.slice A' (shutL C cl s).length c') (shutL C cl s).length ((shutL C cl s).map (Value.int .i64)) ∧ Below w.heap.size w w' := by
  obtain ⟨n, rfl⟩ := Int.eq_ofNat_of_zero_le (show 0 ≤ C by omega)
  have hb0 : Below w.heap.size w ((w.alloc (.cells #[.int .i64 n, .int .i64 R, .int .i64 B, .int .i64 F, .slice A cl.length cap] 24)).alloc (.cells #[.int .i64 0, .int .i64 0, .int .i64 0, .int .i64 0, .slice none 0 0] 24)) := (below_new w (.cells #[.int .i64 n, .int .i64 R, .int .i64 B, .int .i64 F, .slice A cl.length cap] 24)).alloc (by simp) _
  have hbk : Blk ((w.alloc (.cells #[.int .i64 n, .int .i64 R, .int .i64 B, .int .i64 F, .slice A cl.length cap] 24)).alloc (.cells #[.int .i64 0, .int .i64 0, .int .i64 0, .int .i64 0, .slice none 0 0] 24)) w.heap.size 24 #[.int .i64 n, .int .i64 R, .int .i64 B, .int .i64 F, .slice A cl.length cap] := (Blk.new _ _ _).alloc _
  have hbq : Blk ((w.alloc (.cells #[.int .i64 n, .int .i64 R, .int .i64 B, .int .i64 F, .slice A cl.length cap] 24)).alloc (.cells #[.int .i64 0, .int .i64 0, .int .i64 0, .int .i64 0, .slice none 0 0] 24)) (w.heap.size + 1) 24 #[.int .i64 0, .int .i64 0, .int .i64 0, .int .i64 0, .slice none 0 0] := Blk.newAt (by simp)
  generalize htl : shutL n cl s = tl
  have HTL : Hid (colsTo (fun c => isIn cl c || decide ((c : Int) = s)) n = tl) := by unfold Hid; rw [← htl]; rfl
  generalize hp : (fun c : Nat => isIn cl c || decide ((c : Int) = s)) = pu at HTL
  have HP : Hid (∀ c : Nat, pu c = (isIn cl c || decide ((c : Int) = s))) := fun c => by rw [← hp]
  clear htl hp
  go_enter Try.func85, Try.ntmps85
  go_wp2_with fail
  obtain ⟨w1, hw1⟩ : ∃ w1, ((w.alloc (.cells #[.int .i64 n, .int .i64 R, .int .i64 B, .int .i64 F, .slice A cl.length cap] 24)).alloc (.cells #[.int .i64 0, .int .i64 0, .int .i64 0, .int .i64 0, .slice none 0 0] 24)) = w1 := ⟨_, rfl⟩
  have hz : w1.heap.size = w.heap.size + 1 + 1 := by rw [← hw1]; simp
  rw [hw1] at hb0 hbk hbq ⊢
  clear hw1
  go_loopw [5, 6, 7] (fun v i _ wr => ∃ k : Nat, ∃ A' c', k ≤ n ∧ i = .int .i64 k ∧ v = .slice A' (colsTo pu k).length c' ∧ Below w1.heap.size w1 wr ∧ wr.ownsRow w1.heap.size 3 1 (.slice A' (colsTo pu k).length c') (colsTo pu k).length ((colsTo pu k).map (Value.int .i64)))
    (fun _ i _ _ => n - (intOf i).toNat)
  case atStart => exact ⟨0, none, 0, Nat.zero_le _, rfl, rfl, Below.refl _ _, World.ownsRow_nil _ _ _ _⟩
  case round =>
    obtain ⟨k, A', c', hk, rfl, rfl, hb, hown⟩ := hrel
    have hbw := below_next hb0 hb0.size hb
    have hbk1 := hbk.below hb hbk.lt
    have hbq1 := hbq.below hb hbq.lt
    obtain ⟨d0, d1, d2, d3, d4⟩ := hbk1.five
    have hrw : Ints wr wr.heap.size A cl := (hr.below hbw).more hbw.size
    have hln := colsTo_len pu k
    have hzr := hb.size
    by_cases hlt : k < n
    · cases hf : isIn cl k with
      | true =>
        have HD : Hid (decide ((k : Int) ∈ cl) = true) := hf
        have HY := Lib.hid (colsTo_yes (p := pu) (k := k) (by rw [HP.out, hf]; rfl))
        clear hf
        go_wp2_with (first
          | (go_at_call 72; refine (has_any cl _ _ _ _ hcl hrw).mono ?_; rw [HD.out]; rintro e w4 ⟨rfl, rfl⟩)
          | (at_builtin; refine app1 (by rfl) _ _ (by rfl) w1.heap.size (colsTo pu k) k _ (by rfl) hown (by rfl) (by omega) hzr ?_; intro A6 c6 w6 hown6 hb6))
        go_roundw
        case rel => exact ⟨k + 1, A6, c6, by omega, by go_num, by rw [HY.out]; simp, hb.trans hb6, by rw [HY.out]; exact hown6⟩
        case measure => simp [intOf]; try omega
      | false =>
        have HD : Hid (decide ((k : Int) ∈ cl) = false) := hf
        by_cases hs : (k : Int) = s
        · have e1 : ((k : Int) == s) = true := by simp [hs]
          have HY := Lib.hid (colsTo_yes (p := pu) (k := k) (by rw [HP.out, hf]; simp [hs]))
          have HS := Lib.hid hs
          clear hf hs
          go_wp2_with (first
            | (go_at_call 72; refine (has_any cl _ _ _ _ hcl hrw).mono ?_; rw [HD.out]; rintro e w4 ⟨rfl, rfl⟩)
            | (at_builtin; refine app1 (by rfl) _ _ (by rfl) w1.heap.size (colsTo pu k) k _ (by rfl) hown (by rfl) (by omega) hzr ?_; intro A6 c6 w6 hown6 hb6))
          go_roundw
          case rel => exact ⟨k + 1, A6, c6, by omega, by go_num, by rw [HY.out]; simp, hb.trans hb6, by rw [HY.out]; exact hown6⟩
          case measure => simp [intOf]; try omega
        · have e1 : ((k : Int) == s) = false := by simp [hs]
          have HY := Lib.hid (colsTo_no (p := pu) (k := k) (by rw [HP.out, hf]; simp [hs]))
          clear hf
          go_wp2_with (first
            | (go_at_call 72; refine (has_any cl _ _ _ _ hcl hrw).mono ?_; rw [HD.out]; rintro e w4 ⟨rfl, rfl⟩))
          go_roundw
          case rel => exact ⟨k + 1, A', c', by omega, by go_num, by rw [HY.out], hb, by rw [HY.out]; exact hown⟩
          case measure => simp [intOf]; try omega
    · obtain rfl : k = n := by omega
      have hf1 := hbk1.frozen 4
      obtain ⟨m0, m1, m2, m3, m4⟩ := hbq1.five
      obtain ⟨m5, m6, m7, m8, m9⟩ := hbq1.fz5
      have hbq2 := hbq1.far (p := ⟨w.heap.size, 4, none⟩) (by simp) (.slice A' (colsTo pu k).length c')
      go_wp2_with fail
      obtain rfl := HTL.out
      refine bodyPost_ret (v := .agg #[.int .i64 k, .int .i64 R, .int .i64 B, .int .i64 F, .slice A' (colsTo pu k).length c']) (results_cell_row (g := w.heap.size + 1) rfl _ _ 24 _ (0, 0) _ rfl (((((hbq2.store 0 (.int .i64 k)).store 1 (.int .i64 R)).store 2 (.int .i64 B)).store 3 (.int .i64 F)).store 4 (.slice A' (colsTo pu k).length c')) Try.underlying24 rfl (info24 _ _ _ _ _)) rfl ?_
      exact ⟨A', c', rfl, own_less (ownsRow_setCell_below (ownsRow_setCell_below (ownsRow_setCell_below (ownsRow_setCell_below (ownsRow_setCell_below (ownsRow_setCell_below hown (a := ⟨w.heap.size, 4, none⟩) (by simp; omega) (.slice A' (colsTo pu k).length c')) (a := ⟨w.heap.size + 1, 0, none⟩) (by simp; omega) (.int .i64 k)) (a := ⟨w.heap.size + 1, 1, none⟩) (by simp; omega) (.int .i64 R)) (a := ⟨w.heap.size + 1, 2, none⟩) (by simp; omega) (.int .i64 B)) (a := ⟨w.heap.size + 1, 3, none⟩) (by simp; omega) (.int .i64 F)) (a := ⟨w.heap.size + 1, 4, none⟩) (by simp; omega) (.slice A' (colsTo pu k).length c')) (by omega), ((((((hbw.setCell (p := ⟨w.heap.size, 4, none⟩) (by simp) _).setCell (p := ⟨w.heap.size + 1, 0, none⟩) (by simp) _).setCell (p := ⟨w.heap.size + 1, 1, none⟩) (by simp) _).setCell (p := ⟨w.heap.size + 1, 2, none⟩) (by simp) _).setCell (p := ⟨w.heap.size + 1, 3, none⟩) (by simp) _).setCell (p := ⟨w.heap.size + 1, 4, none⟩) (by simp) _)⟩

end Go.Proofs.Ytnjmkdgglpcfpaa
