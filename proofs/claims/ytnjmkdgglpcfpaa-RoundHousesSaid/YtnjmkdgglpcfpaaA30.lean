import Derived.Test.YtnjmkdgglpcfpaaA28
namespace Go.Proofs.Ytnjmkdgglpcfpaa
open Go.RowKit

/-- the stands from which a column is reached, as the reference has them -/
def rstL (C B F : Int) (cl : List Int) (c : Int) : List Int := (openL C cl).filter fun s => decide (c ∈ rchL C B s (B + F + 1).toNat)
theorem openL_mem {C : Int} {cl : List Int} {x : Int} (h : x ∈ openL C cl) : 0 ≤ x ∧ x < C := by
  obtain ⟨i, hi, _, rfl⟩ := colsTo_mem.1 h
  omega
theorem openL_len {C : Int} {cl : List Int} (h : C ≤ 120) : (openL C cl).length ≤ 120 := by
  have := colsTo_len (fun i => !isIn cl i) C.toNat
  unfold openL
  omega

set_option maxRecDepth 100000 in
set_option maxHeartbeats 4000000 in
theorem refStands_own (C R B F : Int) (A0 : Option Addr) (cap : Nat) (cl : List Int) (c : Int) (w : World) (h1 : 1 ≤ C) (h2 : C ≤ 120) (h7 : 0 ≤ B) (h8 : 0 ≤ F) (h9 : F < C - B) (hcl : cl.length ≤ 1000000) (hr : Ints w w.heap.size A0 cl) :
    Calls Try.prog 69 #[.agg #[.int .i64 C, .int .i64 R, .int .i64 B, .int .i64 F, .slice A0 cl.length cap], .int .i64 c] w (RetOwn w (rstL C B F cl c)) := by
  have hr1 := hr.behind (below_new w (.cells #[.int .i64 C, .int .i64 R, .int .i64 B, .int .i64 F, .slice A0 cl.length cap] 24))
  have hbk := Blk.new w 24 #[.int .i64 C, .int .i64 R, .int .i64 B, .int .i64 F, .slice A0 cl.length cap]
  have hm : Hid (∀ x ∈ openL C cl, 0 ≤ x ∧ x < C) := fun x hx => openL_mem hx
  have hlen := openL_len (cl := cl) h2
  have HO : Hid (∀ w, Ints w w.heap.size A0 cl → Calls Try.prog 96 #[.agg #[.int .i64 C, .int .i64 R, .int .i64 B, .int .i64 F, .slice A0 cl.length cap]] w (RetInts w (openL C cl))) := fun w hw => open_any C R B F A0 cap cl w h1 h2 hcl hw
  unfold rstL
  generalize openL C cl = L at *
  generalize hp : (fun s : Int => decide (c ∈ rchL C B s (B + F + 1).toNat)) = pu
  have HP := Lib.hid hp
  clear hp
  go_enter Try.func69, Try.ntmps69
  go_wp2_with (go_at_call 96; refine (HO.out _ hr1).mono ?_; rintro e w1 ⟨A1, c1, rfl, e1, e2, e3, hb1⟩)
  have hba : Below w.heap.size w w1 := below_next (below_new _ _) (by simp) hb1
  have hbk1 : Blk w1 w.heap.size 24 #[.int .i64 C, .int .i64 R, .int .i64 B, .int .i64 F, .slice A0 cl.length cap] := hbk.below hb1 (by simp)
  clear hbk hr1 hb1
  go_loopw [5, 7, 8] (fun v i _ wr => ∃ k : Nat, ∃ A c', k ≤ L.length ∧ i = .int .i64 k ∧ v = .slice A ((L.take k).filter pu).length c' ∧ Below w1.heap.size w1 wr ∧ wr.ownsRow w1.heap.size 3 1 (.slice A ((L.take k).filter pu).length c') ((L.take k).filter pu).length (((L.take k).filter pu).map (Value.int .i64)))
    (fun _ i _ _ => L.length - (intOf i).toNat)
  case atStart => exact ⟨0, none, 0, Nat.zero_le _, rfl, rfl, Below.refl _ _, World.ownsRow_nil _ _ _ _⟩
  case round =>
    obtain ⟨k, A, c', hk, rfl, rfl, hb, hown⟩ := hrel
    have hzr := hb.size
    by_cases hlt : k < L.length
    · obtain ⟨ad, hA, hadb, hce⟩ := (e3.below hb).get hlt
      subst hA
      have hx := hm.out _ (List.getElem_mem hlt)
      have hfl := filt_len (L := L) (k := k) (pu := pu)
      have HY := Lib.hid (filt_yes (pu := pu) hlt)
      have HN := Lib.hid (filt_no (pu := pu) hlt)
      have hll2 : (k : Int) < (L.length : Int) := by omega
      have hbr : Blk wr w.heap.size 24 #[.int .i64 C, .int .i64 R, .int .i64 B, .int .i64 F, .slice A0 cl.length cap] := hbk1.below hb hbk1.lt
      obtain ⟨d0, d1, d2, d3, d4⟩ := hbr.five
      have hpx : pu L[k] = decide (c ∈ rchL C B L[k] (B + F + 1).toNat) := by rw [← HP.out]
      cases hf : pu L[k] with
      | true =>
        rw [hf] at hpx
        have HPX := Lib.hid hpx.symm
        have HF := Lib.hid hf
        clear hpx hf
        go_wp2_with fail
        go_region_held3 (fun w' => w'.cell? ⟨w.heap.size, 0, none⟩ = some (.int .i64 C) ∧ w'.cell? ⟨w.heap.size, 1, none⟩ = some (.int .i64 R) ∧ w'.cell? ⟨w.heap.size, 2, none⟩ = some (.int .i64 B) ∧ w'.cell? ⟨w.heap.size, 3, none⟩ = some (.int .i64 F) ∧ w'.cell? ⟨w.heap.size, 4, none⟩ = some (.slice A0 cl.length cap) ∧ w'.cell? (ad.add k) = some (.int .i64 L[k])) (first | exact K1 | exact ⟨d0, d1, d2, d3, d4, hce⟩)
          (first
            | (go_at_call 110; refine (reached_any C R B F _ L[k] c _ h1 h2 hx.1 hx.2 h7 h8 h9).mono ?_; rw [HPX.out]; rintro e w3 ⟨rfl, hb3⟩; obtain ⟨q1, q2⟩ := bcell hb3; have K1 : w3.cell? ⟨w.heap.size, 0, none⟩ = some (.int .i64 C) ∧ w3.cell? ⟨w.heap.size, 1, none⟩ = some (.int .i64 R) ∧ w3.cell? ⟨w.heap.size, 2, none⟩ = some (.int .i64 B) ∧ w3.cell? ⟨w.heap.size, 3, none⟩ = some (.int .i64 F) ∧ w3.cell? ⟨w.heap.size, 4, none⟩ = some (.slice A0 cl.length cap) ∧ w3.cell? (ad.add k) = some (.int .i64 L[k]) := ⟨(q1 _ _ hbr.lt).trans d0, (q1 _ _ hbr.lt).trans d1, (q1 _ _ hbr.lt).trans d2, (q1 _ _ hbr.lt).trans d3, (q1 _ _ hbr.lt).trans d4, (hb3.cell (p := ad.add k) (by rw [addr_block]; exact Nat.lt_of_lt_of_le hadb hzr)).trans hce⟩))
        have hzd : wr.heap.size ≤ w3.heap.size := hb3.size
        have hbd : Below w1.heap.size w1 w3 := below_next hb.drew hzr hb3
        have hown3 := own_below (w := wr.drew) hown hb3
        have hcz := K1.2.2.2.2.2
        go_wp2_with (at_builtin; refine app1 (by rfl) _ _ (by rfl) w1.heap.size ((L.take k).filter pu) L[k] _ (by rfl) hown3 (by rfl) (by omega) (by omega) ?_; intro A' c'' w4 hown1 hb4)
        go_roundw
        case rel => exact ⟨k + 1, A', c'', by omega, by go_num, by rw [HY.out HF.out]; simp, hbd.trans hb4, by rw [HY.out HF.out]; exact hown1⟩
        case measure => simp [intOf]; try omega
      | false =>
        rw [hf] at hpx
        have HPX := Lib.hid hpx.symm
        have HF := Lib.hid hf
        clear hpx hf
        go_wp2_with fail
        go_region_held3 (fun w' => w'.cell? ⟨w.heap.size, 0, none⟩ = some (.int .i64 C) ∧ w'.cell? ⟨w.heap.size, 1, none⟩ = some (.int .i64 R) ∧ w'.cell? ⟨w.heap.size, 2, none⟩ = some (.int .i64 B) ∧ w'.cell? ⟨w.heap.size, 3, none⟩ = some (.int .i64 F) ∧ w'.cell? ⟨w.heap.size, 4, none⟩ = some (.slice A0 cl.length cap) ∧ w'.cell? (ad.add k) = some (.int .i64 L[k])) (first | exact K1 | exact ⟨d0, d1, d2, d3, d4, hce⟩)
          (first
            | (go_at_call 110; refine (reached_any C R B F _ L[k] c _ h1 h2 hx.1 hx.2 h7 h8 h9).mono ?_; rw [HPX.out]; rintro e w3 ⟨rfl, hb3⟩; obtain ⟨q1, q2⟩ := bcell hb3; have K1 : w3.cell? ⟨w.heap.size, 0, none⟩ = some (.int .i64 C) ∧ w3.cell? ⟨w.heap.size, 1, none⟩ = some (.int .i64 R) ∧ w3.cell? ⟨w.heap.size, 2, none⟩ = some (.int .i64 B) ∧ w3.cell? ⟨w.heap.size, 3, none⟩ = some (.int .i64 F) ∧ w3.cell? ⟨w.heap.size, 4, none⟩ = some (.slice A0 cl.length cap) ∧ w3.cell? (ad.add k) = some (.int .i64 L[k]) := ⟨(q1 _ _ hbr.lt).trans d0, (q1 _ _ hbr.lt).trans d1, (q1 _ _ hbr.lt).trans d2, (q1 _ _ hbr.lt).trans d3, (q1 _ _ hbr.lt).trans d4, (hb3.cell (p := ad.add k) (by rw [addr_block]; exact Nat.lt_of_lt_of_le hadb hzr)).trans hce⟩))
        have hzd : wr.heap.size ≤ w3.heap.size := hb3.size
        have hbd : Below w1.heap.size w1 w3 := below_next hb.drew hzr hb3
        have hown3 := own_below (w := wr.drew) hown hb3
        go_wp2_with fail
        go_roundw
        case rel => exact ⟨k + 1, A, c', by omega, by go_num, by rw [HN.out HF.out], hbd, by rw [HN.out HF.out]; exact hown3⟩
        case measure => simp [intOf]; try omega
    · have ek : L.take k = L := List.take_of_length_le (by omega)
      rw [ek] at hown ⊢
      clear ek
      go_wp2_with fail
      go_ret
      exact ⟨_, _, rfl, own_less hown hba.size, hba.trans (hb.mono hba.size)⟩

theorem refStands_any (C R B F : Int) (A0 : Option Addr) (cap : Nat) (cl : List Int) (c : Int) (w : World) (h1 : 1 ≤ C) (h2 : C ≤ 120) (h7 : 0 ≤ B) (h8 : 0 ≤ F) (h9 : F < C - B) (hcl : cl.length ≤ 1000000) (hr : Ints w w.heap.size A0 cl) :
    Calls Try.prog 69 #[.agg #[.int .i64 C, .int .i64 R, .int .i64 B, .int .i64 F, .slice A0 cl.length cap], .int .i64 c] w (RetInts w (rstL C B F cl c)) :=
  (refStands_own C R B F A0 cap cl c w h1 h2 h7 h8 h9 hcl hr).mono fun _ _ h => h.ints

end Go.Proofs.Ytnjmkdgglpcfpaa
