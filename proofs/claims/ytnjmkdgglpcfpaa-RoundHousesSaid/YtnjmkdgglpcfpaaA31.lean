import Derived.Test.YtnjmkdgglpcfpaaA30
namespace Go.Proofs.Ytnjmkdgglpcfpaa
open Go.RowKit

/-- is a column reached from one of some stands -/
def anyR (C B F : Int) (m : List Int) (x : Int) : Bool := m.any fun s => decide (x ∈ rchL C B s (B + F + 1).toNat)
theorem anyR_snoc {C B F : Int} {m : List Int} {j : Nat} {x : Int} (hj : j < m.length) : anyR C B F (m.take (j + 1)) x = (anyR C B F (m.take j) x || decide (x ∈ rchL C B m[j] (B + F + 1).toNat)) := by
  unfold anyR
  rw [List.take_succ_eq_append_getElem hj, List.any_append]
  simp

set_option maxRecDepth 100000 in
set_option maxHeartbeats 4000000 in
theorem refLeft_any (C R B F : Int) (sl : Value) (D : Option Addr) (dap : Nat) (l : List Int) (E : Option Addr) (eap : Nat) (m : List Int) (w : World) (h1 : 1 ≤ C) (h2 : C ≤ 120) (h7 : 0 ≤ B) (h8 : 0 ≤ F) (h9 : F < C - B) (hll : l.length ≤ 1000000) (hlm : m.length ≤ 1000000) (hm : ∀ x ∈ m, 0 ≤ x ∧ x < C) (hl : Ints w w.heap.size D l) (hs : Ints w w.heap.size E m) :
    Calls Try.prog 83 #[.agg #[.int .i64 C, .int .i64 R, .int .i64 B, .int .i64 F, sl], .slice D l.length dap, .slice E m.length eap] w (RetInts w (l.filter fun x => !anyR C B F m x)) := by
  generalize hp : (fun x : Int => !anyR C B F m x) = pu
  have HP := Lib.hid hp
  clear hp
  go_enter Try.func83, Try.ntmps83
  go_wp2_with fail
  go_loopw [7, 8, 9, 10, 11] (fun v i _ _ _ wr => ∃ k : Nat, ∃ A c', k ≤ l.length ∧ i = .int .i64 k ∧ v = .slice A ((l.take k).filter pu).length c' ∧ Below w.heap.size w wr ∧ Blk wr w.heap.size 24 #[.int .i64 C, .int .i64 R, .int .i64 B, .int .i64 F, sl] ∧ wr.ownsRow (w.heap.size + 1) 3 1 (.slice A ((l.take k).filter pu).length c') ((l.take k).filter pu).length (((l.take k).filter pu).map (Value.int .i64)))
    (fun _ i _ _ _ _ => l.length - (intOf i).toNat)
  case atStart => exact ⟨0, none, 0, Nat.zero_le _, rfl, rfl, below_new _ _, Blk.new _ _ _, World.ownsRow_nil _ _ _ _⟩
  case round =>
    obtain ⟨k, A, c', hk, rfl, rfl, hb, hb0, hown⟩ := hrel
    have hlt0 := hb0.lt
    by_cases hlt : k < l.length
    · obtain ⟨ad, hA, hadb, hce⟩ := (hl.below hb).get hlt
      subst hA
      have hfl := filt_len (L := l) (k := k) (pu := pu)
      have HY := Lib.hid (filt_yes (pu := pu) hlt)
      have HN := Lib.hid (filt_no (pu := pu) hlt)
      have hll2 : (k : Int) < (l.length : Int) := by omega
      have hpx : pu l[k] = !anyR C B F m l[k] := by rw [← HP.out]
      have HPX := Lib.hid hpx
      clear hpx
      obtain ⟨x, hx⟩ : ∃ x, l[k] = x := ⟨_, rfl⟩
      rw [hx] at hce HY HN HPX
      clear hx
      go_wp2_with fail
      go_loopw [9, 10, 11] (fun b i _ w2 => ∃ j : Nat, j ≤ m.length ∧ i = .int .i64 j ∧ b = .bool (anyR C B F (m.take j) x) ∧ Below wr.heap.size wr w2)
        (fun _ i _ _ => m.length - (intOf i).toNat)
      case atStart => exact ⟨0, Nat.zero_le _, rfl, by simp [anyR], Below.refl _ _⟩
      case round =>
        obtain ⟨j, hj, rfl, rfl, hb2⟩ := hrel
        have hz2 := hb2.size
        have hbw : Below w.heap.size w wr := below_next hb hb.size hb2
        have hbj := hb0.below hb2 hlt0
        obtain ⟨d0, d1, d2, d3, d4⟩ := hbj.five
        have hcw : wr.cell? (ad.add k) = some (.int .i64 x) := (hb2.cell (p := ad.add k) (by rw [addr_block]; exact Nat.lt_trans hadb hlt0)).trans hce
        by_cases hjl : j < m.length
        · obtain ⟨ae, hE, haeb, hcf⟩ := (hs.below hbw).get hjl
          subst hE
          have hlm2 : (j : Int) < (m.length : Int) := by omega
          have hsx := hm _ (List.getElem_mem hjl)
          have HS := Lib.hid (anyR_snoc (C := C) (B := B) (F := F) (x := x) hjl)
          cases hf : anyR C B F (m.take j) x with
          | true =>
            rw [hf, Bool.true_or] at HS
            clear hf
            go_wp2_with fail
            go_region_held3 (fun w' => w'.cell? ⟨w.heap.size, 0, none⟩ = some (.int .i64 C) ∧ w'.cell? ⟨w.heap.size, 1, none⟩ = some (.int .i64 R) ∧ w'.cell? ⟨w.heap.size, 2, none⟩ = some (.int .i64 B) ∧ w'.cell? ⟨w.heap.size, 3, none⟩ = some (.int .i64 F) ∧ w'.cell? ⟨w.heap.size, 4, none⟩ = some sl ∧ w'.cell? (ad.add k) = some (.int .i64 x) ∧ w'.cell? (ae.add j) = some (.int .i64 m[j])) (first | exact K1 | exact ⟨d0, d1, d2, d3, d4, hcw, hcf⟩)
              (first
                | (go_at_call 110; refine (reached_any C R B F _ m[j] x _ h1 h2 hsx.1 hsx.2 h7 h8 h9).mono ?_; rintro e w3 ⟨rfl, hb3⟩; obtain ⟨q1, q2⟩ := bcell hb3; have K1 : w3.cell? ⟨w.heap.size, 0, none⟩ = some (.int .i64 C) ∧ w3.cell? ⟨w.heap.size, 1, none⟩ = some (.int .i64 R) ∧ w3.cell? ⟨w.heap.size, 2, none⟩ = some (.int .i64 B) ∧ w3.cell? ⟨w.heap.size, 3, none⟩ = some (.int .i64 F) ∧ w3.cell? ⟨w.heap.size, 4, none⟩ = some sl ∧ w3.cell? (ad.add k) = some (.int .i64 x) ∧ w3.cell? (ae.add j) = some (.int .i64 m[j]) := ⟨(q1 _ _ hbj.lt).trans d0, (q1 _ _ hbj.lt).trans d1, (q1 _ _ hbj.lt).trans d2, (q1 _ _ hbj.lt).trans d3, (q1 _ _ hbj.lt).trans d4, (hb3.cell (p := ad.add k) (World.block_lt_of_cell? wr _ hcw)).trans hcw, (hb3.cell (p := ae.add j) (World.block_lt_of_cell? wr _ hcf)).trans hcf⟩))
            go_wp2_with fail
            go_roundw
            case rel => exact ⟨j + 1, by omega, by go_num, by rw [HS.out], below_next hb2.drew hz2 hb3⟩
            case measure => simp [intOf]; try omega
          | false =>
            rw [hf, Bool.false_or] at HS
            clear hf
            go_wp2_with fail
            go_region_held3 (fun w' => w'.cell? ⟨w.heap.size, 0, none⟩ = some (.int .i64 C) ∧ w'.cell? ⟨w.heap.size, 1, none⟩ = some (.int .i64 R) ∧ w'.cell? ⟨w.heap.size, 2, none⟩ = some (.int .i64 B) ∧ w'.cell? ⟨w.heap.size, 3, none⟩ = some (.int .i64 F) ∧ w'.cell? ⟨w.heap.size, 4, none⟩ = some sl ∧ w'.cell? (ad.add k) = some (.int .i64 x) ∧ w'.cell? (ae.add j) = some (.int .i64 m[j])) (first | exact K1 | exact ⟨d0, d1, d2, d3, d4, hcw, hcf⟩)
              (first
                | (go_at_call 110; refine (reached_any C R B F _ m[j] x _ h1 h2 hsx.1 hsx.2 h7 h8 h9).mono ?_; rw [← HS.out]; rintro e w3 ⟨rfl, hb3⟩; obtain ⟨q1, q2⟩ := bcell hb3; have K1 : w3.cell? ⟨w.heap.size, 0, none⟩ = some (.int .i64 C) ∧ w3.cell? ⟨w.heap.size, 1, none⟩ = some (.int .i64 R) ∧ w3.cell? ⟨w.heap.size, 2, none⟩ = some (.int .i64 B) ∧ w3.cell? ⟨w.heap.size, 3, none⟩ = some (.int .i64 F) ∧ w3.cell? ⟨w.heap.size, 4, none⟩ = some sl ∧ w3.cell? (ad.add k) = some (.int .i64 x) ∧ w3.cell? (ae.add j) = some (.int .i64 m[j]) := ⟨(q1 _ _ hbj.lt).trans d0, (q1 _ _ hbj.lt).trans d1, (q1 _ _ hbj.lt).trans d2, (q1 _ _ hbj.lt).trans d3, (q1 _ _ hbj.lt).trans d4, (hb3.cell (p := ad.add k) (World.block_lt_of_cell? wr _ hcw)).trans hcw, (hb3.cell (p := ae.add j) (World.block_lt_of_cell? wr _ hcf)).trans hcf⟩))
            go_wp2_with fail
            go_roundw
            case rel => exact ⟨j + 1, by omega, by go_num, rfl, below_next hb2.drew hz2 hb3⟩
            case measure => simp [intOf]; try omega
        · obtain rfl : j = m.length := by omega
          have em : m.take m.length = m := List.take_length
          rw [em]
          clear em
          have hown2 := own_below hown hb2
          cases hf : anyR C B F m x with
          | true =>
            have HF : Hid (pu x = false) := by unfold Hid; rw [HPX.out, hf]; rfl
            clear hf
            go_wp2_with fail
            go_roundw
            case rel => exact ⟨k + 1, A, c', by omega, by go_num, by rw [HN.out HF.out], hbw, hbj, by rw [HN.out HF.out]; exact hown2⟩
            case measure => simp [intOf]; try omega
          | false =>
            have HF : Hid (pu x = true) := by unfold Hid; rw [HPX.out, hf]; rfl
            clear hf
            go_wp2_with (at_builtin; refine app1 (by rfl) _ _ (by rfl) (w.heap.size + 1) ((l.take k).filter pu) x _ (by rfl) hown2 (by rfl) (by omega) (by omega) ?_; intro A' c'' w4 hown1 hb4)
            go_roundw
            case rel => exact ⟨k + 1, A', c'', by omega, by go_num, by rw [HY.out HF.out]; simp, hbw.trans (hb4.mono (by omega)), hbj.below hb4 (by omega), by rw [HY.out HF.out]; exact hown1⟩
            case measure => simp [intOf]; try omega
    · have ek : l.take k = l := List.take_of_length_le (by omega)
      rw [ek] at hown ⊢
      clear ek
      go_wp2_with fail
      go_ret
      exact RetInts.of_own hown hb

end Go.Proofs.Ytnjmkdgglpcfpaa
