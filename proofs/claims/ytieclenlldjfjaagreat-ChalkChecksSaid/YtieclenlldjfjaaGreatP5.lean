import Derived.Test.YtieclenlldjfjaaGreatP4
import Derived.Test.YtieclenlldjfjaaGreatM4
set_option linter.unusedSimpArgs false
set_option linter.unusedVariables false
/- shortest 67. -/
namespace Go.Proofs.YtieclenlldjfjaaGreat
open Go.RowKit

/-- what shortest hands back -/
def RetShortP (N : Nat) (ms : List Mkg) (w : World) (e : Ending) (w' : World) : Prop :=
  ∃ j, e = .returned (.agg (nums (cOf N (iter ms (List.replicate N (-1)) j)))) ∧ rnd ms (iter ms (List.replicate N (-1)) j) = iter ms (List.replicate N (-1)) j ∧ Below w.heap.size w w'

theorem rep13 {k : Nat} (hk : k < 13) : (List.replicate k (1125899906842624 : Int) ++ List.replicate (13 - k) 0).set k 1125899906842624 = List.replicate (k + 1) 1125899906842624 ++ List.replicate (13 - (k + 1)) 0 := by
  have e : 13 - k = (13 - (k + 1)) + 1 := by omega
  rw [e, List.replicate_succ, List.set_append_right _ _ (by simp), List.length_replicate, Nat.sub_self, List.set_cons_zero, List.replicate_succ', List.append_assoc]
  rfl
/-- the list in the array -/
def dn (N : Nat) (c : List Int) : List Int := ((c.drop 1).take N).map fun x => if x = 1125899906842624 then -1 else x
theorem dn_cOf {N : Nat} {X : List Int} (hN : N ≤ 12) (hX : StOk N X) : dn N (cOf N X) = X := by
  unfold dn cOf
  rw [List.drop_one, List.tail_cons, List.take_append_of_le_length (by simp [hX.len]), List.take_of_length_le (by simp [hX.len]), List.map_map]
  conv => rhs; rw [← List.map_id X]
  apply List.map_congr_left
  intro x hx
  have := hX.le hN hx
  show (if up x = 1125899906842624 then -1 else up x) = x
  unfold up
  split <;> split <;> omega
theorem nums_one (l : List Int) : (nums l).all (·.oneCell') = true := by
  rw [Array.all_eq_true]
  intro i hi
  simp [nums, Value.oneCell']
theorem guard111 : Tryz.prog.eqGuardType Tryz.prog.depth 111 = false := by kernel_rfl
theorem binNeq (c c' : List Int) (h : c.length = 13) (h' : c'.length = 13) (w : World) : (binOp .neq 111 (.agg (nums c)) (.agg (nums c'))).run Tryz.prog w = .ok (.bool (decide (c ≠ c'))) w := by
  have he : (Op.equal 111 (.agg (nums c)) (.agg (nums c'))).run Tryz.prog w = .ok (decide (c = c')) w := eq_counts (Op.maxDepth - 2) w c c' h h'
  simp only [binOp, Sem.run_bind, he, Result.andThen_ok, Sem.run_pure]
  by_cases e : c = c' <;> simp [e]

/-- a whole struct loaded in a region that draws its order -/
theorem yieldsIf_load_row {P : Program} {ops : Array Oper} {S : World → Prop} {o : Oper} {a : Act} (hw : Region.wanted o (yielded ops a.tmps) = true) (ty : TypeId) (x : Operand) (ho : o.op = .load ty x)
    (g : Nat) (hx : a.eval x = .pointer (some ⟨g, 0, none⟩)) (t : TypeId) (cs : Array Value) (fr : Nat × Nat) (d : TypeDesc) (hg : ∀ w : World, S w → w.heap[g]? = some (.cells cs t fr))
    (hu : P.underlying ty = some d) (hd : (match d with | .struct _ | .array _ _ => true | _ => false) = true) (hi : (P.info? ty).map (·.size) = some cs.size) : YieldsIf P ops S o (.agg cs) a :=
  Or.inl ⟨hw, fun w hS => by
    unfold execOp
    simp only [ho, hx, Instr.loadAt, Instr.sureAddr, Sem.run_bind, Sem.run_pure, Result.andThen_ok, run_loadVar_row w g t ty cs fr d (hg w hS) hu hd hi]⟩
theorem step_at {N : Nat} {X : List Int} {m : Mkg} (hN : N ≤ 12) (hX : StOk N X) (hm : Fit N m) :
    ∃ (s : Nat) (u : Int), m.sym = (s : Int) ∧ s < 13 ∧ (cOf N X)[s]? = some u ∧ (cOf N X).set s (min u (strokesC (cOf N X) m.items)) = cOf N (relax X m) := by
  have h1 := hm.1
  have h2 := hm.2.1
  obtain ⟨s, hs⟩ : ∃ s : Nat, m.sym = (s : Int) + 1 := ⟨(m.sym - 1).toNat, by omega⟩
  have hsl : s < X.length := by rw [hX.len]; omega
  refine ⟨s + 1, up X[s], by omega, by omega, cOf_get hsl, cOf_step hN hX hm hs hsl⟩

set_option maxRecDepth 100000 in
set_option maxHeartbeats 4000000 in
theorem shortest_any (N : Nat) (h1 : 1 ≤ N) (h12 : N ≤ 12) (ms : List Mkg) (A : Option Addr) (cap : Nat) (w : World) (hml : ms.length ≤ 30) (hf : ∀ m ∈ ms, Fit N m) (hix : ∀ m ∈ ms, ∀ x ∈ m.items, -20 ≤ x ∧ x ≤ 12) (hG : GrI w w.heap.size A ms) :
    Calls Tryz.prog 67 #[.slice A ms.length cap] w (RetShortP N ms w) := by
  have HIX := Lib.hid hix
  have HF := Lib.hid hf
  have hneq := binNeq
  clear hix hf
  have kR0 : Blk ((w.alloc (.cells (nums (List.replicate 13 0)) 111)).alloc (.cells (nums (List.replicate 13 0)) 111)) w.heap.size 111 (nums (List.replicate 13 0)) := (Blk.new _ _ _).alloc _
  have kO0 : Blk ((w.alloc (.cells (nums (List.replicate 13 0)) 111)).alloc (.cells (nums (List.replicate 13 0)) 111)) (w.heap.size + 1) 111 (nums (List.replicate 13 0)) := Blk.newAt (by simp)
  have hb0 : Below w.heap.size w ((w.alloc (.cells (nums (List.replicate 13 0)) 111)).alloc (.cells (nums (List.replicate 13 0)) 111)) := (below_new _ _).alloc (by simp) _
  go_enter Tryz.func67, Tryz.ntmps67
  go_wp2_with fail
  go_loopw [9] (fun i wr => ∃ k : Nat, k ≤ 13 ∧ i = .int .i64 k ∧ Below w.heap.size w wr ∧ Blk wr w.heap.size 111 (nums (List.replicate 13 0)) ∧ Blk wr (w.heap.size + 1) 111 (nums (List.replicate k 1125899906842624 ++ List.replicate (13 - k) 0)))
    (fun i _ => 13 - (intOf i).toNat)
  case atStart => exact ⟨0, by omega, rfl, hb0, kR0, kO0⟩
  case round =>
    clear kR0 kO0 hb0
    obtain ⟨k, hk, rfl, hb, kR, kO⟩ := hrel
    by_cases hlt : k < 13
    · have hll2 : (k : Int) < 13 := by omega
      have hkl : k < (List.replicate k (1125899906842624 : Int) ++ List.replicate (13 - k) 0).length := by simp; omega
      have c0 : wr.cell? ⟨w.heap.size + 1, k, none⟩ = some (.int .i64 (List.replicate k (1125899906842624 : Int) ++ List.replicate (13 - k) 0)[k]) := by rw [kO.cell, nums_get hkl]
      have f0 := kO.frozen k
      have hst := kO.store k (.int .i64 1125899906842624)
      rw [nums_set, rep13 hlt] at hst
      generalize (List.replicate k (1125899906842624 : Int) ++ List.replicate (13 - k) 0)[k] = u at c0
      go_wp2_with fail
      go_roundw
      case rel => exact ⟨k + 1, by omega, by go_num, hb.setCell (p := ⟨w.heap.size + 1, k, none⟩) (by simp) _, kR.far (p := ⟨w.heap.size + 1, k, none⟩) (by simp) _, hst⟩
      case measure => simp [intOf]; try omega
    · obtain rfl : k = 13 := by omega
      have e0 : List.replicate 13 (1125899906842624 : Int) ++ List.replicate (13 - 13) 0 = cOf N (List.replicate N (-1)) := by rw [cOf_start N h12]; rfl
      rw [e0] at kO
      clear e0
      obtain ⟨O, hO⟩ : ∃ O, O = w.heap.size + 1 := ⟨_, rfl⟩
      rw [← hO] at kO ⊢
      have hOw : w.heap.size ≤ O := by omega
      have hOr : w.heap.size ≠ O := by omega
      clear hO
      go_wp2_with fail
      go_loopw [5] (fun b w2 => ∃ (j : Nat) (c : Bool), b = .bool c ∧ Hid (c = false → rnd ms (iter ms (List.replicate N (-1)) j) = iter ms (List.replicate N (-1)) j) ∧ Below w.heap.size w w2 ∧ Blk w2 w.heap.size 111 (nums (List.replicate 13 0)) ∧ Blk w2 O 111 (nums (cOf N (iter ms (List.replicate N (-1)) j))))
        (fun b w2 => 2 * pot (dn N (readW O w2)) + vN b)
      case atStart => exact ⟨0, true, rfl, (fun h => by cases h), hb, kR, kO⟩
      case round =>
        obtain ⟨j, c, rfl, hstab, hb2, kR2, kO2⟩ := hrel
        have hXs := (StOk.start N).iter HF.out j
        have hc13 := cOf_len (N := N) hXs.len h12
        have hl2 := kO2.lt
        cases c with
        | false =>
          have hs := Lib.hid (hstab.out rfl)
          clear hstab
          obtain ⟨X, hXe⟩ : ∃ X, X = iter ms (List.replicate N (-1)) j := ⟨_, rfl⟩
          rw [← hXe] at kO2 hc13
          have HXe := Lib.hid hXe
          clear hXe
          go_wp2_with (first
            | (refine wpList_load_row rfl 111 _ rfl _ rfl 111 _ (0, 0) _ kO2 Tryz.underlying111 rfl (info111 _ hc13) ?_)
            | (refine wpList_store_row rfl 111 _ _ rfl _ _ rfl rfl 111 _ kR2 (info111 _ hc13) (by rw [nums_size, nums_size, hc13]; rfl) (nums_one _) ?_))
          refine bodyPost_ret (v := .agg (nums (cOf N X))) (results_cell_row (g := w.heap.size) rfl _ _ 111 _ (0, 0) _ rfl (kR2.setRow _) Tryz.underlying111 rfl (info111 _ hc13)) rfl ?_
          exact ⟨j, by rw [HXe.out], hs.out, below_setRow hb2 (Nat.le_refl _) _⟩
        | true =>
          have hX : StOk N (iter ms (List.replicate N (-1)) j) := hXs
          have hnext : Hid (iter ms (List.replicate N (-1)) (j + 1) = ms.foldl relax (iter ms (List.replicate N (-1)) j)) := rfl
          obtain ⟨X, hXe⟩ : ∃ X, X = iter ms (List.replicate N (-1)) j := ⟨_, rfl⟩
          rw [← hXe] at hX hnext kO2 hc13 hXs
          have hrd := readW_eq kO2
          clear hstab hXe hXs
          have kB0 : Blk (wr.alloc (.cells #[.int .i64 0, .int .i64 0, .int .i64 0, .int .i64 0, .int .i64 0, .int .i64 0, .int .i64 0, .int .i64 0, .int .i64 0, .int .i64 0, .int .i64 0, .int .i64 0, .int .i64 0] 111)) wr.heap.size 111 (nums (List.replicate 13 0)) := Blk.new _ _ _
          have hzz : (nums (List.replicate 13 0)).size = (nums (cOf N X)).size := by rw [nums_size, nums_size, hc13]; rfl
          go_wp2_with (first
            | (refine wpList_load_row rfl 111 _ rfl _ rfl 111 _ (0, 0) _ kO2 Tryz.underlying111 rfl (info111 _ hc13) ?_)
            | (refine wpList_store_row rfl 111 _ _ rfl _ _ rfl rfl 111 _ kB0 (info111 _ hc13) hzz (nums_one _) ?_))
          have hlR := kR2.lt
          have kB3 : Blk ((wr.alloc (.cells #[.int .i64 0, .int .i64 0, .int .i64 0, .int .i64 0, .int .i64 0, .int .i64 0, .int .i64 0, .int .i64 0, .int .i64 0, .int .i64 0, .int .i64 0, .int .i64 0, .int .i64 0] 111)).setRow wr.heap.size (nums (cOf N X))) wr.heap.size 111 (nums (cOf N X)) := kB0.setRow _
          have kO3 : Blk ((wr.alloc (.cells #[.int .i64 0, .int .i64 0, .int .i64 0, .int .i64 0, .int .i64 0, .int .i64 0, .int .i64 0, .int .i64 0, .int .i64 0, .int .i64 0, .int .i64 0, .int .i64 0, .int .i64 0] 111)).setRow wr.heap.size (nums (cOf N X))) O 111 (nums (cOf N X)) := (kO2.alloc _).farRow (g' := wr.heap.size) (by omega) _
          have kR3 : Blk ((wr.alloc (.cells #[.int .i64 0, .int .i64 0, .int .i64 0, .int .i64 0, .int .i64 0, .int .i64 0, .int .i64 0, .int .i64 0, .int .i64 0, .int .i64 0, .int .i64 0, .int .i64 0, .int .i64 0] 111)).setRow wr.heap.size (nums (cOf N X))) w.heap.size 111 (nums (List.replicate 13 0)) := (kR2.alloc _).farRow (g' := wr.heap.size) (by omega) _
          have hb3 : Below w.heap.size w ((wr.alloc (.cells #[.int .i64 0, .int .i64 0, .int .i64 0, .int .i64 0, .int .i64 0, .int .i64 0, .int .i64 0, .int .i64 0, .int .i64 0, .int .i64 0, .int .i64 0, .int .i64 0, .int .i64 0] 111)).setRow wr.heap.size (nums (cOf N X))) := below_setRow (hb2.alloc hb2.size _) hb2.size _
          obtain ⟨Bf, hBf⟩ : ∃ Bf, Bf = wr.heap.size := ⟨_, rfl⟩
          obtain ⟨W3, hW3⟩ : ∃ W3, W3 = (wr.alloc (.cells #[.int .i64 0, .int .i64 0, .int .i64 0, .int .i64 0, .int .i64 0, .int .i64 0, .int .i64 0, .int .i64 0, .int .i64 0, .int .i64 0, .int .i64 0, .int .i64 0, .int .i64 0] 111)).setRow wr.heap.size (nums (cOf N X)) := ⟨_, rfl⟩
          rw [← hW3] at kB3 kO3 kR3 hb3 ⊢
          rw [← hBf] at kB3 hl2 ⊢
          have hOB : O ≠ Bf := by omega
          have hrdw : Hid (dn N (readW O wr) = X) := by show _ = _; rw [hrd]; exact dn_cOf h12 hX
          clear hW3 hBf kB0 hzz kR2 kO2 hb2 hlR
          go_loopw [19] (fun i w4 => ∃ q : Nat, q ≤ ms.length ∧ i = .int .i64 q ∧ Below w.heap.size w w4 ∧ Blk w4 w.heap.size 111 (nums (List.replicate 13 0)) ∧ Blk w4 O 111 (nums (cOf N ((ms.take q).foldl relax X))) ∧ Blk w4 Bf 111 (nums (cOf N X)))
            (fun i _ => ms.length - (intOf i).toNat)
          case atStart => exact ⟨0, Nat.zero_le _, rfl, hb3, kR3, kO3, kB3⟩
          case round =>
            clear kR3 kO3 kB3 hb3
            obtain ⟨q, hq, rfl, hb4, kR4, kO4, kB4⟩ := hrel
            by_cases hqlt : q < ms.length
            · obtain ⟨ad, rfl, hBa, m0, ⟨IA, icap, m1, n1, n2, hI⟩, m2⟩ := (hG.below hb4).get hqlt
              have hll2 : (q : Int) < (ms.length : Int) := by omega
              have hfit := HF.out _ (List.getElem_mem hqlt)
              have hix := HIX.out _ (List.getElem_mem hqlt)
              have hYok : StOk N ((ms.take q).foldl relax X) := hX.fold fun m hm => HF.out m (List.mem_of_mem_take hm)
              obtain ⟨s, u, hsy, hs13, hcu0, hset⟩ := step_at h12 hYok hfit
              have hnx : cOf N (relax ((ms.take q).foldl relax X) ms[q]) = cOf N ((ms.take (q + 1)).foldl relax X) := by rw [List.take_succ_eq_append_getElem hqlt, List.foldl_append]; rfl
              rw [hnx] at hset
              have hco := cOf_ok h12 hYok
              have HNN : Hid (∃ cN, cN = cOf N ((ms.take (q + 1)).foldl relax X)) := ⟨_, rfl⟩
              obtain ⟨cN, hcN⟩ := HNN.out
              obtain ⟨c0, hc0e⟩ : ∃ c0, c0 = cOf N ((ms.take q).foldl relax X) := ⟨_, rfl⟩
              rw [← hcN] at hset
              rw [← hc0e] at hset hcu0 hco kO4
              have hc0 := hco.len
              have HCO := Lib.hid hco
              have hil := hfit.2.2.1
              rw [hsy] at m0
              obtain ⟨items, hite⟩ : ∃ items, items = ms[q].items := ⟨_, rfl⟩
              obtain ⟨mcost, hmce⟩ : ∃ mcost, mcost = ms[q].cost := ⟨_, rfl⟩
              rw [← hite] at m1 n1 hI hix hset hil
              rw [← hmce] at m2
              obtain ⟨st, hst⟩ : ∃ st, st = strokesC c0 items := ⟨_, rfl⟩
              rw [← hst] at hset
              have HST := Lib.hid hst
              have hcu : (nums c0)[s]? = some (.int .i64 u) := by simp [nums, hcu0]
              have hs13' : (s : Int) < 13 := by omega
              clear HNN hite hmce hnx hsy hfit hco hYok hcu0 hst hc0e
              go_wp2_with fail
              obtain ⟨Bm, hBm0⟩ : ∃ Bm, Bm = wr.heap.size := ⟨_, rfl⟩
              obtain ⟨W6, hW6⟩ : ∃ W6, W6 = wr.alloc (.cells #[.int .i64 (s : Int), .slice IA items.length icap, .int .i64 mcost] 198) := ⟨_, rfl⟩
              have kM6 : Blk W6 Bm 198 #[.int .i64 (s : Int), .slice IA items.length icap, .int .i64 mcost] := by rw [hW6, hBm0]; exact Blk.new _ _ _
              have kO6 : Blk W6 O 111 (nums c0) := by rw [hW6]; exact kO4.alloc _
              have kR6 : Blk W6 w.heap.size 111 (nums (List.replicate 13 0)) := by rw [hW6]; exact kR4.alloc _
              have kB6 : Blk W6 Bf 111 (nums (cOf N X)) := by rw [hW6]; exact kB4.alloc _
              have hb6 : Below w.heap.size w W6 := by rw [hW6]; exact hb4.alloc hb4.size _
              have hOm : O < Bm := by rw [hBm0]; exact kO4.lt
              have hBm : Bm < W6.heap.size := kM6.lt
              have hI6 : Its W6 0 Bm IA items := by
                rw [hW6]
                refine (hI.more (by rw [hBm0]; exact hb4.size)).moved fun p _ hp => ?_
                exact World.cell?_alloc_lt _ _ _ (by omega)
              have hI6d : Its W6.drew 0 Bm IA items := hI6
              have g0 : W6.cell? ⟨Bm, 0, none⟩ = some (.int .i64 (s : Int)) := kM6.cell 0
              have g1 : W6.cell? ⟨Bm, 1, none⟩ = some (.slice IA items.length icap) := kM6.cell 1
              have g2 : W6.cell? ⟨Bm, 2, none⟩ = some (.int .i64 mcost) := kM6.cell 2
              have cu6 : W6.cell? ⟨O, s, none⟩ = some (.int .i64 u) := (kO6.cell s).trans hcu
              rw [← hW6, ← hBm0]
              clear m0 m1 m2 hI kO4 kR4 kB4 hb4 hW6 hBm0 hBa
              have HHK : Hid (∀ w' : World, Below W6.heap.size W6 w' → w'.cell? ⟨Bm, 0, none⟩ = some (.int .i64 (s : Int)) ∧ w'.cell? ⟨Bm, 1, none⟩ = some (.slice IA items.length icap) ∧ w'.cell? ⟨Bm, 2, none⟩ = some (.int .i64 mcost)) := fun w' hb' => ⟨(hb'.cell (p := ⟨Bm, 0, none⟩) hBm).trans g0, (hb'.cell (p := ⟨Bm, 1, none⟩) hBm).trans g1, (hb'.cell (p := ⟨Bm, 2, none⟩) hBm).trans g2⟩
              have HNX : Hid (c0.set s (min u st) = cN) := hset
              rw [hcN] at HNX
              clear hset hcN
              refine wp_region_held_drew (S := fun w' => w'.cell? ⟨Bm, 0, none⟩ = some (.int .i64 (s : Int)) ∧ w'.cell? ⟨Bm, 1, none⟩ = some (.slice IA items.length icap) ∧ w'.cell? ⟨Bm, 2, none⟩ = some (.int .i64 mcost)) (by kernel_rfl) ⟨g0, g1, g2⟩ (fun hHeld => ?_)
              (refine wpAnyH_take (i := 0) (v := ?_) rfl (by kernel_rfl) (by kernel_rfl) (by kernel_rfl) (fun _ _ _ h => h) (Or.inl ⟨by rfl, ?_⟩) (by assumption) ?_; rotate_left; (· intro w5 hS5; (try dsimp only at hS5); go_simp <;> with_reducible rfl); (try simp only [List.getElem_toArray, List.getElem_cons_zero, List.getElem_cons_succ, Act.put, List.setIfInBounds_toArray, List.set_cons_zero, List.set_cons_succ]))
              (refine wpAnyH_take (i := 1) (v := ?_) rfl (by kernel_rfl) (by kernel_rfl) (by kernel_rfl) (fun _ _ _ h => h) (Or.inl ⟨by rfl, ?_⟩) (by assumption) ?_; rotate_left; (· intro w5 hS5; (try dsimp only at hS5); go_simp <;> with_reducible rfl); (try simp only [List.getElem_toArray, List.getElem_cons_zero, List.getElem_cons_succ, Act.put, List.setIfInBounds_toArray, List.set_cons_zero, List.set_cons_succ]))
              (refine wpAnyH_take (i := 2) (v := ?_) rfl (by kernel_rfl) (by kernel_rfl) (by kernel_rfl) (fun _ _ _ h => h) (Or.inl ⟨by rfl, ?_⟩) (by assumption) ?_; rotate_left; (· intro w5 hS5; (try dsimp only at hS5); go_simp <;> with_reducible rfl); (try simp only [List.getElem_toArray, List.getElem_cons_zero, List.getElem_cons_succ, Act.put, List.setIfInBounds_toArray, List.set_cons_zero, List.set_cons_succ]))
              (refine wpAnyH_take (i := 3) (v := ?_) rfl (by kernel_rfl) (by kernel_rfl) (by kernel_rfl) (fun _ _ _ h => h) (Or.inl ⟨by rfl, ?_⟩) (by assumption) ?_; rotate_left; (· intro w5 hS5; (try dsimp only at hS5); go_simp <;> with_reducible rfl); (try simp only [List.getElem_toArray, List.getElem_cons_zero, List.getElem_cons_succ, Act.put, List.setIfInBounds_toArray, List.set_cons_zero, List.set_cons_succ]))
              (refine wpAnyH_take (i := 4) (v := ?_) rfl (by kernel_rfl) (by kernel_rfl) (by kernel_rfl) (fun _ _ _ h => h) (Or.inl ⟨by rfl, ?_⟩) (by assumption) ?_; rotate_left; (· intro w5 hS5; (try dsimp only at hS5); go_simp <;> with_reducible rfl); (try simp only [List.getElem_toArray, List.getElem_cons_zero, List.getElem_cons_succ, Act.put, List.setIfInBounds_toArray, List.set_cons_zero, List.set_cons_succ]))
              (refine wpAnyH_take (i := 6) (v := ?_) rfl (by kernel_rfl) (by kernel_rfl) (by kernel_rfl) (fun _ _ _ h => h) (Or.inl ⟨by rfl, ?_⟩) (by assumption) ?_; rotate_left; (· intro w5 hS5; (try dsimp only at hS5); go_simp <;> with_reducible rfl); (try simp only [List.getElem_toArray, List.getElem_cons_zero, List.getElem_cons_succ, Act.put, List.setIfInBounds_toArray, List.set_cons_zero, List.set_cons_succ]))
              refine wpAnyH_ready (rs := [5, 7]) (by kernel_rfl) (by simp) ?_
              refine AllReadyH.cons rfl (fun K hK => ?_) (AllReadyH.cons rfl (fun K hK => ?_) AllReadyH.nil)
              · (rw [if_pos (by rfl)])
                go_simp
                refine hK.out _ _ hHeld (fun _ => ?_)
                clear hK K
                (try simp only [List.getElem_toArray, List.getElem_cons_zero, List.getElem_cons_succ, Act.put, List.setIfInBounds_toArray, List.set_cons_zero, List.set_cons_succ])
                (refine wpAnyH_ready (rs := [7]) (by kernel_rfl) (by simp) ?_; refine AllReadyH.cons rfl (fun K hK => ?_) AllReadyH.nil)
                (rw [if_pos (by rfl)])
                refine wp_load_row 111 _ (by rfl) O (by rfl) 111 (nums c0) (0, 0) _ kO6 Tryz.underlying111 rfl (info111 _ hc0) ?_
                refine hK.out _ _ hHeld (fun _ => ?_)
                clear hK K
                (try simp only [List.getElem_toArray, List.getElem_cons_zero, List.getElem_cons_succ, Act.put, List.setIfInBounds_toArray, List.set_cons_zero, List.set_cons_succ])
                (refine wpAnyH_ready (rs := [8]) (by kernel_rfl) (by simp) ?_; refine AllReadyH.cons rfl (fun K hK => ?_) AllReadyH.nil)
                go_simp
                refine (strokes_any c0 HCO.out (s : Int) mcost items IA icap W6.drew hil hix Bm (Nat.le_of_lt hBm) hI6d).mono ?_
                rintro e w7 ⟨rfl, hb7'⟩
                have hb7 : Below W6.heap.size W6 w7 := (Below.refl _ _).drew.trans hb7'
                have kO7 := kO6.below hb7 kO6.lt
                have c7 : w7.cell? ⟨O, s, none⟩ = some (.int .i64 u) := (kO7.cell s).trans hcu
                have f7 := kO7.frozen s
                have hh7 := HHK.out w7 hb7
                refine hK.out _ _ hh7 (fun hH7 => ?_)
                clear hK K
                (try simp only [List.getElem_toArray, List.getElem_cons_zero, List.getElem_cons_succ, Act.put, List.setIfInBounds_toArray, List.set_cons_zero, List.set_cons_succ])
                rw [← HST.out]
                (refine wpAnyH_ready (rs := [9]) (by kernel_rfl) (by simp) ?_; refine AllReadyH.cons rfl (fun K hK => ?_) AllReadyH.nil)
                go_simp
                refine hK.out _ _ hh7 (fun hH7 => ?_)
                clear hK K
                (try simp only [List.getElem_toArray, List.getElem_cons_zero, List.getElem_cons_succ, Act.put, List.setIfInBounds_toArray, List.set_cons_zero, List.set_cons_succ])
                (refine wpAnyH_take (i := 10) (v := ?_) rfl (by kernel_rfl) (by kernel_rfl) (by kernel_rfl) (fun _ _ _ h => h) (Or.inl ⟨by rfl, ?_⟩) (by assumption) ?_; rotate_left; (· intro w5 hS5; (try dsimp only at hS5); go_simp <;> with_reducible rfl); (try simp only [List.getElem_toArray, List.getElem_cons_zero, List.getElem_cons_succ, Act.put, List.setIfInBounds_toArray, List.set_cons_zero, List.set_cons_succ]))
                (refine wpAnyH_ready (rs := [11]) (by kernel_rfl) (by simp) ?_; refine AllReadyH.cons rfl (fun K hK => ?_) AllReadyH.nil)
                go_simp
                refine hK.out _ _ ⟨(World.cell?_setCell_far _ ⟨O, s, none⟩ _ _ (by show O ≠ Bm; omega)).trans hh7.1, (World.cell?_setCell_far _ ⟨O, s, none⟩ _ _ (by show O ≠ Bm; omega)).trans hh7.2.1, (World.cell?_setCell_far _ ⟨O, s, none⟩ _ _ (by show O ≠ Bm; omega)).trans hh7.2.2⟩ (fun _ => ?_)
                clear hK K
                (try simp only [List.getElem_toArray, List.getElem_cons_zero, List.getElem_cons_succ, Act.put, List.setIfInBounds_toArray, List.set_cons_zero, List.set_cons_succ])
                refine wpAnyH_done (by kernel_rfl) ?_ _
                have hfin := kO7.store s (.int .i64 (min u st))
                rw [nums_set, HNX.out] at hfin
                have kR7 := (kR6.below hb7 kR6.lt).far (p := ⟨O, s, none⟩) (by show w.heap.size ≠ O; exact hOr) (.int .i64 (min u st))
                have kB7 := (kB6.below hb7 kB6.lt).far (p := ⟨O, s, none⟩) (by show Bf ≠ O; omega) (.int .i64 (min u st))
                have hbf : Below w.heap.size w (w7.setCell ⟨O, s, none⟩ (.int .i64 (min u st))) := (hb6.trans (hb7.mono hb6.size)).setCell (p := ⟨O, s, none⟩) hOw _
                clear hb7 hb7' c7 f7 hh7 kO7
                go_wp2_with fail
                go_roundw
                case rel => exact ⟨q + 1, by omega, by go_num, hbf, kR7, hfin, kB7⟩
                case measure => simp [intOf]; try omega
              · (rw [if_pos (by rfl)])
                refine wp_load_row 111 _ (by rfl) O (by rfl) 111 (nums c0) (0, 0) _ kO6 Tryz.underlying111 rfl (info111 _ hc0) ?_
                refine hK.out _ _ hHeld (fun _ => ?_)
                clear hK K
                (try simp only [List.getElem_toArray, List.getElem_cons_zero, List.getElem_cons_succ, Act.put, List.setIfInBounds_toArray, List.set_cons_zero, List.set_cons_succ])
                refine wpAnyH_ready (rs := [5, 8]) (by kernel_rfl) (by simp) ?_
                refine AllReadyH.cons rfl (fun K hK => ?_) (AllReadyH.cons rfl (fun K hK => ?_) AllReadyH.nil)
                · (rw [if_pos (by rfl)])
                  go_simp
                  refine hK.out _ _ hHeld (fun _ => ?_)
                  clear hK K
                  (try simp only [List.getElem_toArray, List.getElem_cons_zero, List.getElem_cons_succ, Act.put, List.setIfInBounds_toArray, List.set_cons_zero, List.set_cons_succ])
                  (refine wpAnyH_ready (rs := [8]) (by kernel_rfl) (by simp) ?_; refine AllReadyH.cons rfl (fun K hK => ?_) AllReadyH.nil)
                  go_simp
                  refine (strokes_any c0 HCO.out (s : Int) mcost items IA icap W6.drew hil hix Bm (Nat.le_of_lt hBm) hI6d).mono ?_
                  rintro e w7 ⟨rfl, hb7'⟩
                  have hb7 : Below W6.heap.size W6 w7 := (Below.refl _ _).drew.trans hb7'
                  have kO7 := kO6.below hb7 kO6.lt
                  have c7 : w7.cell? ⟨O, s, none⟩ = some (.int .i64 u) := (kO7.cell s).trans hcu
                  have f7 := kO7.frozen s
                  have hh7 := HHK.out w7 hb7
                  refine hK.out _ _ hh7 (fun hH7 => ?_)
                  clear hK K
                  (try simp only [List.getElem_toArray, List.getElem_cons_zero, List.getElem_cons_succ, Act.put, List.setIfInBounds_toArray, List.set_cons_zero, List.set_cons_succ])
                  rw [← HST.out]
                  (refine wpAnyH_ready (rs := [9]) (by kernel_rfl) (by simp) ?_; refine AllReadyH.cons rfl (fun K hK => ?_) AllReadyH.nil)
                  go_simp
                  refine hK.out _ _ hh7 (fun hH7 => ?_)
                  clear hK K
                  (try simp only [List.getElem_toArray, List.getElem_cons_zero, List.getElem_cons_succ, Act.put, List.setIfInBounds_toArray, List.set_cons_zero, List.set_cons_succ])
                  (refine wpAnyH_take (i := 10) (v := ?_) rfl (by kernel_rfl) (by kernel_rfl) (by kernel_rfl) (fun _ _ _ h => h) (Or.inl ⟨by rfl, ?_⟩) (by assumption) ?_; rotate_left; (· intro w5 hS5; (try dsimp only at hS5); go_simp <;> with_reducible rfl); (try simp only [List.getElem_toArray, List.getElem_cons_zero, List.getElem_cons_succ, Act.put, List.setIfInBounds_toArray, List.set_cons_zero, List.set_cons_succ]))
                  (refine wpAnyH_ready (rs := [11]) (by kernel_rfl) (by simp) ?_; refine AllReadyH.cons rfl (fun K hK => ?_) AllReadyH.nil)
                  go_simp
                  refine hK.out _ _ ⟨(World.cell?_setCell_far _ ⟨O, s, none⟩ _ _ (by show O ≠ Bm; omega)).trans hh7.1, (World.cell?_setCell_far _ ⟨O, s, none⟩ _ _ (by show O ≠ Bm; omega)).trans hh7.2.1, (World.cell?_setCell_far _ ⟨O, s, none⟩ _ _ (by show O ≠ Bm; omega)).trans hh7.2.2⟩ (fun _ => ?_)
                  clear hK K
                  (try simp only [List.getElem_toArray, List.getElem_cons_zero, List.getElem_cons_succ, Act.put, List.setIfInBounds_toArray, List.set_cons_zero, List.set_cons_succ])
                  refine wpAnyH_done (by kernel_rfl) ?_ _
                  have hfin := kO7.store s (.int .i64 (min u st))
                  rw [nums_set, HNX.out] at hfin
                  have kR7 := (kR6.below hb7 kR6.lt).far (p := ⟨O, s, none⟩) (by show w.heap.size ≠ O; exact hOr) (.int .i64 (min u st))
                  have kB7 := (kB6.below hb7 kB6.lt).far (p := ⟨O, s, none⟩) (by show Bf ≠ O; omega) (.int .i64 (min u st))
                  have hbf : Below w.heap.size w (w7.setCell ⟨O, s, none⟩ (.int .i64 (min u st))) := (hb6.trans (hb7.mono hb6.size)).setCell (p := ⟨O, s, none⟩) hOw _
                  clear hb7 hb7' c7 f7 hh7 kO7
                  go_wp2_with fail
                  go_roundw
                  case rel => exact ⟨q + 1, by omega, by go_num, hbf, kR7, hfin, kB7⟩
                  case measure => simp [intOf]; try omega
                · go_simp
                  refine (strokes_any c0 HCO.out (s : Int) mcost items IA icap W6.drew hil hix Bm (Nat.le_of_lt hBm) hI6d).mono ?_
                  rintro e w7 ⟨rfl, hb7'⟩
                  have hb7 : Below W6.heap.size W6 w7 := (Below.refl _ _).drew.trans hb7'
                  have kO7 := kO6.below hb7 kO6.lt
                  have c7 : w7.cell? ⟨O, s, none⟩ = some (.int .i64 u) := (kO7.cell s).trans hcu
                  have f7 := kO7.frozen s
                  have hh7 := HHK.out w7 hb7
                  refine hK.out _ _ hh7 (fun hH7 => ?_)
                  clear hK K
                  (try simp only [List.getElem_toArray, List.getElem_cons_zero, List.getElem_cons_succ, Act.put, List.setIfInBounds_toArray, List.set_cons_zero, List.set_cons_succ])
                  (refine wpAnyH_ready (rs := [5]) (by kernel_rfl) (by simp) ?_; refine AllReadyH.cons rfl (fun K hK => ?_) AllReadyH.nil)
                  (rw [if_pos (by rfl)])
                  go_simp
                  refine hK.out _ _ hh7 (fun hH7 => ?_)
                  clear hK K
                  (try simp only [List.getElem_toArray, List.getElem_cons_zero, List.getElem_cons_succ, Act.put, List.setIfInBounds_toArray, List.set_cons_zero, List.set_cons_succ])
                  rw [← HST.out]
                  (refine wpAnyH_ready (rs := [9]) (by kernel_rfl) (by simp) ?_; refine AllReadyH.cons rfl (fun K hK => ?_) AllReadyH.nil)
                  go_simp
                  refine hK.out _ _ hh7 (fun hH7 => ?_)
                  clear hK K
                  (try simp only [List.getElem_toArray, List.getElem_cons_zero, List.getElem_cons_succ, Act.put, List.setIfInBounds_toArray, List.set_cons_zero, List.set_cons_succ])
                  (refine wpAnyH_take (i := 10) (v := ?_) rfl (by kernel_rfl) (by kernel_rfl) (by kernel_rfl) (fun _ _ _ h => h) (Or.inl ⟨by rfl, ?_⟩) (by assumption) ?_; rotate_left; (· intro w5 hS5; (try dsimp only at hS5); go_simp <;> with_reducible rfl); (try simp only [List.getElem_toArray, List.getElem_cons_zero, List.getElem_cons_succ, Act.put, List.setIfInBounds_toArray, List.set_cons_zero, List.set_cons_succ]))
                  (refine wpAnyH_ready (rs := [11]) (by kernel_rfl) (by simp) ?_; refine AllReadyH.cons rfl (fun K hK => ?_) AllReadyH.nil)
                  go_simp
                  refine hK.out _ _ ⟨(World.cell?_setCell_far _ ⟨O, s, none⟩ _ _ (by show O ≠ Bm; omega)).trans hh7.1, (World.cell?_setCell_far _ ⟨O, s, none⟩ _ _ (by show O ≠ Bm; omega)).trans hh7.2.1, (World.cell?_setCell_far _ ⟨O, s, none⟩ _ _ (by show O ≠ Bm; omega)).trans hh7.2.2⟩ (fun _ => ?_)
                  clear hK K
                  (try simp only [List.getElem_toArray, List.getElem_cons_zero, List.getElem_cons_succ, Act.put, List.setIfInBounds_toArray, List.set_cons_zero, List.set_cons_succ])
                  refine wpAnyH_done (by kernel_rfl) ?_ _
                  have hfin := kO7.store s (.int .i64 (min u st))
                  rw [nums_set, HNX.out] at hfin
                  have kR7 := (kR6.below hb7 kR6.lt).far (p := ⟨O, s, none⟩) (by show w.heap.size ≠ O; exact hOr) (.int .i64 (min u st))
                  have kB7 := (kB6.below hb7 kB6.lt).far (p := ⟨O, s, none⟩) (by show Bf ≠ O; omega) (.int .i64 (min u st))
                  have hbf : Below w.heap.size w (w7.setCell ⟨O, s, none⟩ (.int .i64 (min u st))) := (hb6.trans (hb7.mono hb6.size)).setCell (p := ⟨O, s, none⟩) hOw _
                  clear hb7 hb7' c7 f7 hh7 kO7
                  go_wp2_with fail
                  go_roundw
                  case rel => exact ⟨q + 1, by omega, by go_num, hbf, kR7, hfin, kB7⟩
                  case measure => simp [intOf]; try omega
            · obtain rfl : q = ms.length := by omega
              rw [List.take_length] at kO4
              have hXn : StOk N (ms.foldl relax X) := hX.fold HF.out
              have hcn := cOf_len (N := N) hXn.len h12
              have hp := fold_pot h12 hX.len hX.bd HF.out
              have hr4 := readW_eq kO4
              have hneq2 := hneq (cOf N (ms.foldl relax X)) (cOf N X) hcn hc13
              obtain ⟨c, hc⟩ : ∃ c, c = decide (cOf N (ms.foldl relax X) ≠ cOf N X) := ⟨_, rfl⟩
              rw [← hc] at hneq2
              have hcase : Hid (c = false → ms.foldl relax X = X) := fun h => cOf_inj h12 hXn hX (by rw [h] at hc; exact Decidable.not_not.1 (of_decide_eq_false hc.symm))
              have HP : Hid (2 * pot (ms.foldl relax X) + vN (.bool c) < 2 * pot X + 1) := by
                show _ < _
                rcases hp with hp | hp
                · have : c = false := by rw [hc, hp]; simp
                  rw [hp, this]; simp [vN]
                · cases c <;> simp [vN] <;> omega
              have hst : Hid (c = false → rnd ms (iter ms (List.replicate N (-1)) (j + 1)) = iter ms (List.replicate N (-1)) (j + 1)) := fun h => by
                have e := hcase.out h
                have e1 : iter ms (List.replicate N (-1)) (j + 1) = X := by rw [hnext.out]; exact e
                rw [e1]
                exact e
              have HD : Hid (dn N (readW O wr) = ms.foldl relax X) := by show _ = _; rw [hr4]; exact dn_cOf h12 hXn
              clear hc hcase hp hneq
              go_wp2_with (first
                | (refine wpList_load_row rfl 111 _ rfl O rfl 111 _ (0, 0) _ kO4 Tryz.underlying111 rfl (info111 _ hcn) ?_)
                | (refine wpList_load_row rfl 111 _ rfl Bf rfl 111 _ (0, 0) _ kB4 Tryz.underlying111 rfl (info111 _ hc13) ?_))
              refine ⟨?_, ?meas⟩
              (repeat apply Exists.intro)
              refine ⟨?relo, rfl⟩
              case relo => exact ⟨j + 1, c, rfl, hst, hb4, kR4, by rw [hnext.out]; exact kO4⟩
              case meas =>
                rw [HD.out, hrdw.out]
                exact HP.out
end Go.Proofs.YtieclenlldjfjaaGreat
