import Derived.Test.YtnjmkdgglpcfpaaA37
import Derived.Test.YtnjmkdgglpcfpaaA22
namespace Go.Proofs.Ytnjmkdgglpcfpaa
open Go.RowKit

/-- the first one of the shortest sweeps -/
def bestGo : Int × Int → List (Int × Int) → Int × Int
  | best, [] => best
  | best, t :: l => if lenOf t.1 t.2 < lenOf best.1 best.2 then bestGo t l else bestGo best l
theorem bestGo_yes {best t : Int × Int} {l : List (Int × Int)} (h : lenOf t.1 t.2 < lenOf best.1 best.2) : bestGo best (t :: l) = bestGo t l := if_pos h
theorem bestGo_no {best t : Int × Int} {l : List (Int × Int)} (h : ¬ lenOf t.1 t.2 < lenOf best.1 best.2) : bestGo best (t :: l) = bestGo best l := if_neg h
/-- sweeps lie in block g from its head on -/
def SwAt (w : World) (g : Nat) (ps : List (Int × Int)) : Prop := ∀ k p, ps[k]? = some p → w.cell? ⟨g, k * 2, none⟩ = some (.int .i64 p.1) ∧ w.cell? ⟨g, k * 2 + 1, none⟩ = some (.int .i64 p.2)
theorem SwAt.below {w w' : World} {g B : Nat} {ps : List (Int × Int)} (h : SwAt w g ps) (hb : Below B w w') (hg : g < B) : SwAt w' g ps := fun k p hp =>
  ⟨(hb.cell (p := ⟨g, k * 2, none⟩) hg).trans (h k p hp).1, (hb.cell (p := ⟨g, k * 2 + 1, none⟩) hg).trans (h k p hp).2⟩
theorem info123 {a b : Value} : (Try.prog.info? 123).map (·.size) = some #[a, b].size := by
  show _ = some 2
  kernel_rfl
theorem drop_cons' {l : List (Int × Int)} {k : Nat} (h : k < l.length) : l.drop k = l[k] :: l.drop (k + 1) := List.drop_eq_getElem_cons h
/-- what is asked of a sweep -/
def SwOk (p : Int × Int) : Prop := 0 ≤ p.1 ∧ p.1 ≤ 1000 ∧ 0 ≤ p.2 ∧ p.2 ≤ 1000

set_option maxRecDepth 100000 in
set_option maxHeartbeats 2000000 in
theorem leastS_any (g cap : Nat) (x0 : Int × Int) (l : List (Int × Int)) (w : World) (hS : SwAt w g (x0 :: l)) (hg : g < w.heap.size) (hm : ∀ p ∈ x0 :: l, SwOk p) (hlen : l.length ≤ 2000) (hcap : l.length + 1 ≤ cap) :
    Calls Try.prog 100 #[.slice (some ⟨g, 0, none⟩) (l.length + 1) cap, .func (.func 102) #[] #[]] w fun e w' => e = .returned (.agg #[.int .i64 (bestGo x0 l).1, .int .i64 (bestGo x0 l).2]) ∧ Below w.heap.size w w' := by
  obtain ⟨c0, c1⟩ := hS 0 x0 rfl
  have c0 : w.cell? ⟨g, 0, none⟩ = some (.int .i64 x0.1) := c0
  have c1 : w.cell? ⟨g, 1, none⟩ = some (.int .i64 x0.2) := c1
  obtain ⟨r0, l0⟩ := x0
  have hx := hm (r0, l0) (by simp)
  unfold SwOk at hx
  simp only at c0 c1 hx
  have HM := Lib.hid hm
  have HS := Lib.hid hS
  generalize hres : bestGo (r0, l0) l = res
  have HR := Lib.hid hres
  have hl1 : (0 : Int) < (l.length : Int) + 1 := by omega
  have hl2 : (1 : Int) ≤ (l.length : Int) + 1 := by omega
  have hcost : Hid (∀ (p : Int × Int), SwOk p → ∀ W : World, Calls Try.prog 102 #[.agg #[.int .i64 p.1, .int .i64 p.2]] W fun e w' => e = .returned (.int .i64 (lenOf p.1 p.2)) ∧ Below W.heap.size W w') := fun p hp W => turnCost_any p.1 p.2 W hp.1 hp.2.1 hp.2.2.1 hp.2.2.2
  have hnt : (1 : Int) ≤ (cap : Int) := by omega
  have hSA : ∀ W : World, Below w.heap.size w W → W.cell? ⟨g, 0, none⟩ = some (.int .i64 r0) ∧ W.cell? ⟨g, 1, none⟩ = some (.int .i64 l0) := fun W hW => ⟨(hW.cell (p := ⟨g, 0, none⟩) hg).trans c0, (hW.cell (p := ⟨g, 1, none⟩) hg).trans c1⟩
  have HSA := Lib.hid hSA
  have HX : Hid (SwOk (r0, l0)) := hx
  clear hm hS hres hSA
  go_enter Try.func100, Try.ntmps100
  go_wp2_with fail
  have hbA : Below w.heap.size w (w.alloc (.cells #[.int .i64 0, .int .i64 0] 123)) := below_new _ _
  go_region_held3 (fun w' => w'.cell? ⟨g, 0, none⟩ = some (.int .i64 r0) ∧ w'.cell? ⟨g, 1, none⟩ = some (.int .i64 l0)) (first | exact K1 | exact HSA.out _ (by first | exact hbA.drew | exact (hbA.alloc (by simp) _).drew | exact ((hbA.alloc (by simp) _).setCell (by simp) _).drew | exact hbB | exact hbB.alloc (by have := hbB.size; omega) _ | exact (hbB.setCell (by simp) _).setCell (by simp) _))
    (first
      | (go_at_call 102; refine (hcost.out (r0, l0) HX.out _).mono ?_; rintro e w1 ⟨rfl, hb1⟩; have hbB : Below w.heap.size w w1 := (by first | exact below_next hbA.drew (by simp) hb1 | exact below_next (hbA.alloc (by simp) _).drew (by simp; omega) hb1); have K1 := HSA.out _ hbB; obtain ⟨q1, q2⟩ := bcell hb1))
  have HB : Blk (w1.alloc (.cells #[.int .i64 r0, .int .i64 l0] 123)) w1.heap.size 123 #[.int .i64 r0, .int .i64 l0] := Blk.new _ _ _
  have HC : Blk (w1.alloc (.cells #[.int .i64 r0, .int .i64 l0] 123)) w.heap.size 123 #[.int .i64 0, .int .i64 0] := ((show Blk (w.alloc (.cells #[.int .i64 0, .int .i64 0] 123)).drew w.heap.size 123 _ from Blk.new w 123 _).below hb1 (by simp)).alloc _
  have HW : Below w.heap.size w (w1.alloc (.cells #[.int .i64 r0, .int .i64 l0] 123)) := hbB.alloc hbB.size _
  have hgb : w.heap.size < w1.heap.size := by have := hb1.size; simp at this; omega
  clear q1 q2 K1 hb1 hbB
  generalize w1.alloc (.cells #[.int .i64 r0, .int .i64 l0] 123) = W at HB HC HW ⊢
  generalize w1.heap.size = gb at HB hgb ⊢
  rotate_left
  have HB0 : Blk ((w.alloc (.cells #[.int .i64 0, .int .i64 0] 123)).alloc (.cells #[.int .i64 0, .int .i64 0] 123)).drew (w.heap.size + 1) 123 #[.int .i64 0, .int .i64 0] := (Blk.newAt (by simp) : Blk ((w.alloc (.cells #[.int .i64 0, .int .i64 0] 123)).alloc (.cells #[.int .i64 0, .int .i64 0] 123)) (w.heap.size + 1) 123 #[.int .i64 0, .int .i64 0])
  have HB : Blk ((w1.setCell ⟨w.heap.size + 1, 0, none⟩ (.int .i64 r0)).setCell ⟨w.heap.size + 1, 1, none⟩ (.int .i64 l0)) (w.heap.size + 1) 123 #[.int .i64 r0, .int .i64 l0] := ((HB0.below hb1 (by simp)).store 0 (.int .i64 r0)).store 1 (.int .i64 l0)
  have HC : Blk ((w1.setCell ⟨w.heap.size + 1, 0, none⟩ (.int .i64 r0)).setCell ⟨w.heap.size + 1, 1, none⟩ (.int .i64 l0)) w.heap.size 123 #[.int .i64 0, .int .i64 0] := ((((show Blk ((w.alloc (.cells #[.int .i64 0, .int .i64 0] 123)).alloc (.cells #[.int .i64 0, .int .i64 0] 123)).drew w.heap.size 123 _ from (Blk.new w 123 _).alloc _).below hb1 (by simp; omega)).far (p := ⟨w.heap.size + 1, 0, none⟩) (by simp) _)).far (p := ⟨w.heap.size + 1, 1, none⟩) (by simp) _
  have HW : Below w.heap.size w ((w1.setCell ⟨w.heap.size + 1, 0, none⟩ (.int .i64 r0)).setCell ⟨w.heap.size + 1, 1, none⟩ (.int .i64 l0)) := (hbB.setCell (by simp) _).setCell (by simp) _
  have hgb : w.heap.size < w.heap.size + 1 := by omega
  clear q1 q2 K1 hb1 hbB HB0
  generalize (w1.setCell ⟨w.heap.size + 1, 0, none⟩ (.int .i64 r0)).setCell ⟨w.heap.size + 1, 1, none⟩ (.int .i64 l0) = W at HB HC HW ⊢
  generalize w.heap.size + 1 = gb at HB hgb ⊢
  rotate_left
  all_goals (
    clear hbA c0 c1
    by_cases hc1 : cap = 1
    · obtain rfl : l = [] := List.eq_nil_of_length_eq_zero (by omega)
      subst hc1
      have hn : Hid ((r0, l0) = res) := HR.out
      go_wp2_with fail
      go_loopw [6, 8, 9, 21] (fun _ _ _ i wr => i = .int .i64 0 ∧ W = wr) (fun _ _ _ _ _ => 0)
      case atStart => exact ⟨rfl, rfl⟩
      case round =>
        obtain ⟨rfl, rfl⟩ := hrel
        obtain ⟨b0, b1⟩ : W.cell? ⟨gb, 0, none⟩ = some (.int .i64 r0) ∧ W.cell? ⟨gb, 1, none⟩ = some (.int .i64 l0) := ⟨HB.cell 0, HB.cell 1⟩
        obtain ⟨f0, f1, f2, f3⟩ : W.cell? ⟨w.heap.size, 0, none⟩ = some (.int .i64 0) ∧ W.cell? ⟨w.heap.size, 1, none⟩ = some (.int .i64 0) ∧ W.frozen? ⟨w.heap.size, 0, none⟩ = false ∧ W.frozen? ⟨w.heap.size, 1, none⟩ = false := ⟨HC.cell 0, HC.cell 1, HC.frozen 0, HC.frozen 1⟩
        go_wp2_with fail
        refine bodyPost_ret (v := .agg #[.int .i64 r0, .int .i64 l0]) (results_cell_row (g := w.heap.size) rfl _ _ 123 _ (0, 0) _ rfl ((HC.store 0 (.int .i64 r0)).store 1 (.int .i64 l0)) Try.underlying123 rfl info123) rfl ?_
        rw [← hn.out]
        exact ⟨rfl, (HW.setCell (Nat.le_refl _) _).setCell (Nat.le_refl _) _⟩
    · have hc2 : ¬ (cap : Int) = 1 := by omega
      go_wp2_with fail
      go_loopw [6, 8, 9, 21] (fun lo _ _ i wr => ∃ (k : Nat) (b : Int × Int), k ≤ l.length ∧ i = .int .i64 k ∧ lo = .int .i64 (lenOf b.1 b.2) ∧ Hid (res = bestGo b (l.drop k)) ∧ Below w.heap.size w wr ∧ Blk wr gb 123 #[.int .i64 b.1, .int .i64 b.2] ∧ Blk wr w.heap.size 123 #[.int .i64 0, .int .i64 0])
        (fun _ _ _ i _ => l.length - (intOf i).toNat)
      case atStart => exact ⟨0, (r0, l0), Nat.zero_le _, rfl, rfl, HR.out.symm, HW, HB, HC⟩
      case round =>
        obtain ⟨k, b, hk, rfl, rfl, hn, hbw, HBw, HCw⟩ := hrel
        have hzw := hbw.size
        have hlgb := HBw.lt
        obtain ⟨br, bl⟩ := b
        simp only at HBw hn ⊢
        obtain ⟨b0, b1⟩ : wr.cell? ⟨gb, 0, none⟩ = some (.int .i64 br) ∧ wr.cell? ⟨gb, 1, none⟩ = some (.int .i64 bl) := ⟨HBw.cell 0, HBw.cell 1⟩
        by_cases hkl : k < l.length
        · have hk2 : (k : Int) < (l.length : Int) := by omega
          obtain ⟨s0, s1⟩ := (HS.out.below hbw hg) (k + 1) l[k] (by simp [hkl])
          have ht := HM.out l[k] (by simp)
          have hdr := Lib.hid (drop_cons' hkl)
          generalize l[k] = tt at s0 s1 ht hdr
          obtain ⟨tr, tl⟩ := tt
          have s0 : wr.cell? ⟨g, 2 + k * 2, none⟩ = some (.int .i64 tr) := by rw [show 2 + k * 2 = (k + 1) * 2 by omega]; exact s0
          have s1 : wr.cell? ⟨g, 2 + k * 2 + 1, none⟩ = some (.int .i64 tl) := by rw [show 2 + k * 2 + 1 = (k + 1) * 2 + 1 by omega]; exact s1
          have HT := Lib.hid ht
          clear ht
          by_cases hlow : lenOf tr tl < lenOf br bl
          · have hn2 : Hid (res = bestGo (tr, tl) (l.drop (k + 1))) := by unfold Hid; rw [hn.out, hdr.out, bestGo_yes hlow]
            have hlow2 : decide (lenOf tr tl < lenOf br bl) = true := decide_eq_true hlow
            clear hn hdr
            go_wp2_with (first
              | (go_at_call 102; refine (hcost.out (tr, tl) HT.out _).mono ?_; rintro e w3 ⟨rfl, hb3⟩; have hbn := Blk.new wr 123 #[.int .i64 tr, .int .i64 tl]; have HB3 := (HBw.alloc (.cells #[.int .i64 tr, .int .i64 tl] 123)).below hb3 (by simp; omega); have HC3 := (HCw.alloc (.cells #[.int .i64 tr, .int .i64 tl] 123)).below hb3 (by simp; omega); have e0 := (hbn.below hb3 (by simp)).cell 0; have e1 := (hbn.below hb3 (by simp)).cell 1; have hb4 := below_next (hbw.alloc hzw _) (by simp; omega) hb3; obtain ⟨f0, f1, f2, f3⟩ : w3.cell? ⟨gb, 0, none⟩ = some (.int .i64 br) ∧ w3.cell? ⟨gb, 1, none⟩ = some (.int .i64 bl) ∧ w3.frozen? ⟨gb, 0, none⟩ = false ∧ w3.frozen? ⟨gb, 1, none⟩ = false := ⟨HB3.cell 0, HB3.cell 1, HB3.frozen 0, HB3.frozen 1⟩)
              | fail)
            go_roundw
            case rel => exact ⟨k + 1, (tr, tl), by omega, by go_num, rfl, hn2, (hb4.setCell (p := ⟨gb, 0, none⟩) (by simp; omega) _).setCell (p := ⟨gb, 1, none⟩) (by simp; omega) _, (HB3.store 0 (.int .i64 tr)).store 1 (.int .i64 tl), (HC3.far (p := ⟨gb, 0, none⟩) (by simp; omega) _).far (p := ⟨gb, 1, none⟩) (by simp; omega) _⟩
            case measure => simp [intOf]; try omega
          · have hn2 : Hid (res = bestGo (br, bl) (l.drop (k + 1))) := by unfold Hid; rw [hn.out, hdr.out, bestGo_no hlow]
            have hlow2 : decide (lenOf tr tl < lenOf br bl) = false := decide_eq_false hlow
            clear hn hdr
            go_wp2_with (first
              | (go_at_call 102; refine (hcost.out (tr, tl) HT.out _).mono ?_; rintro e w3 ⟨rfl, hb3⟩; have HB3 := (HBw.alloc (.cells #[.int .i64 tr, .int .i64 tl] 123)).below hb3 (by simp; omega); have HC3 := (HCw.alloc (.cells #[.int .i64 tr, .int .i64 tl] 123)).below hb3 (by simp; omega); have hb4 := below_next (hbw.alloc hzw _) (by simp; omega) hb3))
            go_roundw
            case rel => exact ⟨k + 1, (br, bl), by omega, by go_num, rfl, hn2, hb4, HB3, HC3⟩
            case measure => simp [intOf]; try omega
        · have hn2 : Hid ((br, bl) = res) := by unfold Hid; rw [hn.out, List.drop_of_length_le (by omega)]; rfl
          clear hn
          obtain ⟨f0, f1, f2, f3⟩ : wr.cell? ⟨w.heap.size, 0, none⟩ = some (.int .i64 0) ∧ wr.cell? ⟨w.heap.size, 1, none⟩ = some (.int .i64 0) ∧ wr.frozen? ⟨w.heap.size, 0, none⟩ = false ∧ wr.frozen? ⟨w.heap.size, 1, none⟩ = false := ⟨HCw.cell 0, HCw.cell 1, HCw.frozen 0, HCw.frozen 1⟩
          go_wp2_with fail
          refine bodyPost_ret (v := .agg #[.int .i64 br, .int .i64 bl]) (results_cell_row (g := w.heap.size) rfl _ _ 123 _ (0, 0) _ rfl ((HCw.store 0 (.int .i64 br)).store 1 (.int .i64 bl)) Try.underlying123 rfl info123) rfl ?_
          rw [← hn2.out]
          exact ⟨rfl, (hbw.setCell (Nat.le_refl _) _).setCell (Nat.le_refl _) _⟩)

end Go.Proofs.Ytnjmkdgglpcfpaa
