import Derived.Test.YtieclenlldjfjaaGreatS4
set_option linter.unusedSimpArgs false
set_option linter.unusedVariables false
/- The reference's Scan 32. -/
namespace Go.Proofs.YtieclenlldjfjaaGreat
open Go.RowKit

/-- what the reference's Scan hands back -/
def RetScanR (w : World) (l : List Int) (er i : Int) (e : Ending) (w' : World) : Prop :=
  ∃ A c, e = .returned (.agg #[.slice A l.length c, .int .i64 er, .int .i64 i]) ∧ l.length ≤ c ∧ c ≤ maxLen ∧ Ints w' w'.heap.size A l ∧ Below w.heap.size w w'

theorem info49 {a b c : Value} : (Tryz.prog.info? 49).map (·.size) = some #[a, b, c].size := by
  show _ = some 3
  kernel_rfl

/-- numbers in a row of one's own, past a store into an elder block -/
theorem ints_far {w : World} {base : Nat} {e : TypeId} {A : Option Addr} {n c : Nat} {l : List Int} (h : w.ownsRow base e 1 (.slice A n c) n (l.map (Value.int .i64))) :
    ∀ w' : World, (∀ p : Addr, base ≤ p.block → w'.cell? p = w.cell? p) → w.heap.size ≤ w'.heap.size → Ints w' w'.heap.size A l := by
  intro w' hc hs k x hx
  obtain ⟨ad, e1, e2, e3⟩ := Ints.of_own h k x hx
  subst e1
  refine ⟨ad, rfl, by omega, ?_⟩
  rw [hc]
  · exact e3
  · rw [addr_block]
    exact (h.lt _ rfl).1

set_option maxRecDepth 100000 in
set_option maxHeartbeats 1000000 in
theorem refScan_any (s : ByteArray) (hs : s.size ≤ 100000) (w : World) :
    Calls Tryz.prog 32 #[.string s] w (RetScanR w (scanL s) (scanE s) (scanI s)) := by
  have hlen : s.data.toList.length = s.size := Array.length_toList
  obtain ⟨bs, hbs⟩ : ∃ bs, bs = s.data.toList := ⟨_, rfl⟩
  have hat : ∀ k (hk : k < bs.length) (w : World), (Instr.index 9 (.string s) (.int .i64 (k : Int))).run Tryz.prog w = .ok (.int .u8 ((bs[k].toNat : Nat) : Int)) w := by
    subst hbs
    exact fun k hk w => run_at s k (by omega) hk w
  have hbl : bs.length = s.size := by rw [hbs]; exact hlen
  have hHat := Lib.hid hat
  have hB := Lib.hid hbs
  clear hat hbs hlen
  go_enter Tryz.func32, Tryz.ntmps32
  go_wp2_with fail
  have hB0 : Blk (w.alloc (.cells #[.slice none 0 0, .int .i64 0, .int .i64 0] 49)) w.heap.size 49 #[.slice none 0 0, .int .i64 0, .int .i64 0] := Blk.new _ _ _
  go_loopw [3, 4] (fun v i wr => ∃ k : Nat, ∃ A c, k ≤ s.size ∧ i = .int .i64 k ∧ v = .slice A (marks (bs.take (min k 16))).length c ∧ Hid (∀ i (hi : i < k) (h : i < bs.length), (decB bs[i]).isSome = true) ∧ Below w.heap.size w wr ∧ Blk wr w.heap.size 49 #[.slice none 0 0, .int .i64 0, .int .i64 0] ∧ wr.ownsRow (w.heap.size + 1) 3 1 (.slice A (marks (bs.take (min k 16))).length c) (marks (bs.take (min k 16))).length ((marks (bs.take (min k 16))).map (Value.int .i64)))
    (fun _ i _ => s.size - (intOf i).toNat)
  case atStart => exact ⟨0, none, 0, by omega, rfl, rfl, (fun i hi => absurd hi (by omega)), below_new _ _, hB0, World.ownsRow_nil _ _ _ _⟩
  case round =>
    obtain ⟨k, A, c, hk, rfl, rfl, hall, hb, hbk, hown⟩ := hrel
    have hlt0 := hbk.lt
    by_cases hlt : k < s.size
    · have hkb : k < bs.length := by omega
      have hx := hHat.out k hkb
      have hlt2 : (k : Int) < (s.size : Int) := by omega
      have hsz := hb.size
      have hsz1 : w.heap.size + 1 ≤ wr.heap.size := by omega
      obtain ⟨b, hbv⟩ : ∃ b : Nat, b = bs[k].toNat := ⟨_, rfl⟩
      have hb256 : b < 256 := by rw [hbv]; exact UInt8.toNat_lt _
      have hdec : Hid (decB bs[k] = if b = 63 then some 0 else if 97 ≤ b ∧ b ≤ 116 then some ((b : Int) - 96) else none) := by
        show decB bs[k] = _
        unfold decB
        rw [hbv]
        congr 1
        exact propext ⟨fun h => by rw [h]; rfl, fun h => UInt8.toNat_inj.1 h⟩
      rw [← hbv] at hx
      clear hbv
      by_cases h63 : b = 63
      · have hd : Hid (decB bs[k] = some 0) := by show _ = _; rw [hdec.out, if_pos h63]
        subst h63
        have hn : Hid (∀ i (hi : i < k + 1) (h : i < bs.length), (decB bs[i]).isSome = true) := fun i hi h => some_next hkb (fun i hi => hall.out i hi (by omega)) hd.out i hi
        by_cases hk16 : k < 16
        · have HY : Hid (marks (bs.take (min (k + 1) 16)) = marks (bs.take (min k 16)) ++ [0]) := by
            show _ = _
            rw [Nat.min_eq_left (by omega), Nat.min_eq_left (by omega)]
            exact marks_next hkb hd.out
          have hml : (marks (bs.take (min k 16))).length ≤ 1000000 := by simp [marks]; omega
          have hq16 : decide ((k : Int) < 16) = true := decide_eq_true (by omega)
          have hq17 : (k : Int) < 16 := by omega
          obtain ⟨B, hBe⟩ : ∃ B, B = bs.take (min k 16) := ⟨_, rfl⟩
          rw [← hBe] at hown HY hml ⊢
          clear hdec hd hall hBe
          go_wp2_with (at_builtin; refine app1 (by rfl) _ _ (by rfl) (w.heap.size + 1) (marks B) 0 _ (by rfl) hown (by rfl) hml hsz1 ?_; intro A' c' w1 hown1 hb1)
          go_roundw
          case rel => exact ⟨k + 1, A', c', by omega, by go_num, by rw [HY.out]; simp, hn, hb.trans (hb1.mono (by omega)), hbk.below hb1 (by omega), by rw [HY.out]; exact hown1⟩
          case measure => simp [intOf]; try omega
        · have HY : Hid (min (k + 1) 16 = min k 16) := by show _ = _; omega
          have hq16 : decide ((k : Int) < 16) = false := decide_eq_false (by omega)
          have hq17 : ¬ (k : Int) < 16 := by omega
          obtain ⟨B, hBe⟩ : ∃ B, B = bs.take (min k 16) := ⟨_, rfl⟩
          have HE := Lib.hid hBe
          rw [← hBe] at hown ⊢
          clear hdec hd hall hBe
          go_wp2_with fail
          go_roundw
          case rel => exact ⟨k + 1, A, c, by omega, by go_num, by rw [HY.out, ← HE.out], hn, hb, hbk, by rw [HY.out, ← HE.out]; exact hown⟩
          case measure => simp [intOf]; try omega
      · have hq : ((b : Int) == 63) = false := by simp; omega
        by_cases hr : 97 ≤ b ∧ b ≤ 116
        · have hd : Hid (decB bs[k] = some ((b : Int) - 97 + 1)) := by show _ = _; rw [hdec.out, if_neg h63, if_pos hr]; congr 1; omega
          have hst : Hid (decide (1 ≤ (b : Int) - 97 + 1 ∧ (b : Int) - 97 + 1 ≤ 20) = true) := decide_eq_true (by omega)
          have hn : Hid (∀ i (hi : i < k + 1) (h : i < bs.length), (decB bs[i]).isSome = true) := fun i hi h => some_next hkb (fun i hi => hall.out i hi (by omega)) hd.out i hi
          by_cases hk16 : k < 16
          · have HY : Hid (marks (bs.take (min (k + 1) 16)) = marks (bs.take (min k 16)) ++ [((b : Int) - 97 + 1)]) := by
              show _ = _
              rw [Nat.min_eq_left (by omega), Nat.min_eq_left (by omega)]
              exact marks_next hkb hd.out
            have hml : (marks (bs.take (min k 16))).length ≤ 1000000 := by simp [marks]; omega
            have hq16 : decide ((k : Int) < 16) = true := decide_eq_true (by omega)
            have hq17 : (k : Int) < 16 := by omega
            obtain ⟨B, hBe⟩ : ∃ B, B = bs.take (min k 16) := ⟨_, rfl⟩
            rw [← hBe] at hown HY hml ⊢
            clear hdec hd hall hBe
            go_wp2_with (first
              | (go_at_call 71; refine (in_any _ _ _ _).mono ?_; rw [hst.out]; rintro e w2 ⟨rfl, rfl⟩)
              | (at_builtin; refine app1 (by rfl) _ _ (by rfl) (w.heap.size + 1) (marks B) ((b : Int) - 97 + 1) _ (by rfl) hown (by rfl) hml hsz1 ?_; intro A' c' w1 hown1 hb1)
            )
            go_roundw
            case rel => exact ⟨k + 1, A', c', by omega, by go_num, by rw [HY.out]; simp, hn, hb.trans (hb1.mono (by omega)), hbk.below hb1 (by omega), by rw [HY.out]; exact hown1⟩
            case measure => simp [intOf]; try omega
          · have HY : Hid (min (k + 1) 16 = min k 16) := by show _ = _; omega
            have hq16 : decide ((k : Int) < 16) = false := decide_eq_false (by omega)
            have hq17 : ¬ (k : Int) < 16 := by omega
            obtain ⟨B, hBe⟩ : ∃ B, B = bs.take (min k 16) := ⟨_, rfl⟩
            have HE := Lib.hid hBe
            rw [← hBe] at hown ⊢
            clear hdec hd hall hBe
            go_wp2_with (go_at_call 71; refine (in_any _ _ _ _).mono ?_; rw [hst.out]; rintro e w2 ⟨rfl, rfl⟩)
            go_roundw
            case rel => exact ⟨k + 1, A, c, by omega, by go_num, by rw [HY.out, ← HE.out], hn, hb, hbk, by rw [HY.out, ← HE.out]; exact hown⟩
            case measure => simp [intOf]; try omega
        · have hd : Hid (decB bs[k] = none) := by show _ = _; rw [hdec.out, if_neg h63, if_neg hr]
          have hbad : Hid (badAt s.data.toList = some k) := by rw [← hB.out]; exact bad_at hkb (fun i hi => hall.out i hi (by omega)) hd.out
          have hst : Hid (decide (1 ≤ (b : Int) - 97 + 1 ∧ (b : Int) - 97 + 1 ≤ 20) = false) := decide_eq_false (by omega)
          have r1 : Hid (scanL s = []) := by show scanL s = []; unfold scanL; rw [hbad.out]; rfl
          have r2 : Hid (scanE s = 7) := by show scanE s = 7; unfold scanE; rw [hbad.out]; rfl
          have r3 : Hid (scanI s = (k : Int)) := by show scanI s = _; unfold scanI; rw [hbad.out]
          obtain ⟨c0, c1, c2, f0, f1, f2⟩ : wr.cell? ⟨w.heap.size, 0, none⟩ = some (.slice none 0 0) ∧ wr.cell? ⟨w.heap.size, 1, none⟩ = some (.int .i64 0) ∧ wr.cell? ⟨w.heap.size, 2, none⟩ = some (.int .i64 0) ∧ wr.frozen? ⟨w.heap.size, 0, none⟩ = false ∧ wr.frozen? ⟨w.heap.size, 1, none⟩ = false ∧ wr.frozen? ⟨w.heap.size, 2, none⟩ = false := ⟨hbk.cell 0, hbk.cell 1, hbk.cell 2, hbk.frozen 0, hbk.frozen 1, hbk.frozen 2⟩
          clear hdec hd hall hbad
          go_wp2_with (go_at_call 71; refine (in_any _ _ _ _).mono ?_; rw [hst.out]; rintro e w2 ⟨rfl, rfl⟩)
          refine bodyPost_ret (v := .agg #[.slice none 0 0, .int .i64 7, .int .i64 (k : Int)]) (results_cell_row (g := w.heap.size) rfl _ _ 49 _ (0, 0) _ rfl (((hbk.store 0 (.slice none 0 0)).store 1 (.int .i64 7)).store 2 (.int .i64 (k : Int))) Tryz.underlying49 rfl info49) rfl ?_
          exact ⟨none, 0, by rw [r1.out, r2.out, r3.out]; rfl, by rw [r1.out]; exact Nat.le_refl _, by simp [maxLen], by rw [r1.out]; exact Ints.nil, (((hb.setCell (p := ⟨w.heap.size, 0, none⟩) (Nat.le_refl _) _).setCell (p := ⟨w.heap.size, 1, none⟩) (Nat.le_refl _) _).setCell (p := ⟨w.heap.size, 2, none⟩) (Nat.le_refl _) _)⟩
    · obtain rfl : k = s.size := by omega
      have hall2 : ∀ i (hi : i < bs.length), (decB bs[i]).isSome = true := fun i hi => hall.out i (by omega) hi
      have hbad : Hid (badAt s.data.toList = none) := by rw [← hB.out]; exact bad_none hall2
      obtain ⟨c0, c1, c2, f0, f1, f2⟩ : wr.cell? ⟨w.heap.size, 0, none⟩ = some (.slice none 0 0) ∧ wr.cell? ⟨w.heap.size, 1, none⟩ = some (.int .i64 0) ∧ wr.cell? ⟨w.heap.size, 2, none⟩ = some (.int .i64 0) ∧ wr.frozen? ⟨w.heap.size, 0, none⟩ = false ∧ wr.frozen? ⟨w.heap.size, 1, none⟩ = false ∧ wr.frozen? ⟨w.heap.size, 2, none⟩ = false := ⟨hbk.cell 0, hbk.cell 1, hbk.cell 2, hbk.frozen 0, hbk.frozen 1, hbk.frozen 2⟩
      clear hall hall2
      by_cases h16 : 16 < s.size
      · have hq1 : decide ((16 : Int) < (s.size : Int)) = true := decide_eq_true (by omega)
        have hq2 : decide (16 < s.size) = true := decide_eq_true (by omega)
        have r1 : Hid (scanL s = []) := by show scanL s = []; unfold scanL; rw [hbad.out, if_pos h16]; rfl
        have r2 : Hid (scanE s = 2) := by show scanE s = 2; unfold scanE; rw [hbad.out, if_pos h16]; rfl
        have r3 : Hid (scanI s = 0) := by show scanI s = _; unfold scanI; rw [hbad.out]
        clear hbad
        go_wp2_with fail
        refine bodyPost_ret (v := .agg #[.slice none 0 0, .int .i64 2, .int .i64 0]) (results_cell_row (g := w.heap.size) rfl _ _ 49 _ (0, 0) _ rfl (((hbk.store 0 (.slice none 0 0)).store 1 (.int .i64 2)).store 2 (.int .i64 0)) Tryz.underlying49 rfl info49) rfl ?_
        exact ⟨none, 0, by rw [r1.out, r2.out, r3.out]; rfl, by rw [r1.out]; exact Nat.le_refl _, by simp [maxLen], by rw [r1.out]; exact Ints.nil, (((hb.setCell (p := ⟨w.heap.size, 0, none⟩) (Nat.le_refl _) _).setCell (p := ⟨w.heap.size, 1, none⟩) (Nat.le_refl _) _).setCell (p := ⟨w.heap.size, 2, none⟩) (Nat.le_refl _) _)⟩
      · have hq1 : decide ((16 : Int) < (s.size : Int)) = false := decide_eq_false (by omega)
        have hq2 : decide (16 < s.size) = false := decide_eq_false (by omega)
        have ht : bs.take (min s.size 16) = bs := List.take_of_length_le (by omega)
        rw [ht] at hown ⊢
        have r1 : Hid (scanL s = marks bs) := by show scanL s = _; unfold scanL; rw [hbad.out, if_neg h16, ← hB.out]; rfl
        have r2 : Hid (scanE s = 0) := by show scanE s = _; unfold scanE; rw [hbad.out, if_neg h16]; rfl
        have r3 : Hid (scanI s = 0) := by show scanI s = _; unfold scanI; rw [hbad.out]
        obtain ⟨A', c', e1, e2, e3⟩ := own_form hown
        cases e1
        have hI := ints_far hown
        clear hbad ht
        go_wp2_with fail
        refine bodyPost_ret (v := .agg #[.slice A (marks bs).length c, .int .i64 0, .int .i64 0]) (results_cell_row (g := w.heap.size) rfl _ _ 49 _ (0, 0) _ rfl (((hbk.store 0 (.slice A (marks bs).length c)).store 1 (.int .i64 0)).store 2 (.int .i64 0)) Tryz.underlying49 rfl info49) rfl ?_
        exact ⟨A, c, by rw [r1.out, r2.out, r3.out], by rw [r1.out]; exact e2, e3, by rw [r1.out]; exact hI _ (fun p hp => ((World.cell?_setCell_far _ ⟨w.heap.size, 2, none⟩ p _ (by show w.heap.size ≠ p.block; omega)).trans (World.cell?_setCell_far _ ⟨w.heap.size, 1, none⟩ p _ (by show w.heap.size ≠ p.block; omega))).trans (World.cell?_setCell_far _ ⟨w.heap.size, 0, none⟩ p _ (by show w.heap.size ≠ p.block; omega))) (by simp), (((hb.setCell (p := ⟨w.heap.size, 0, none⟩) (Nat.le_refl _) _).setCell (p := ⟨w.heap.size, 1, none⟩) (Nat.le_refl _) _).setCell (p := ⟨w.heap.size, 2, none⟩) (Nat.le_refl _) _)⟩
end Go.Proofs.YtieclenlldjfjaaGreat
