import Derived.Test.YtieclenlldjfjaaGreatC3
set_option linter.unusedSimpArgs false
set_option linter.unusedVariables false
/- Without 21. -/
namespace Go.Proofs.YtieclenlldjfjaaGreat
open Go.RowKit

theorem info105z : ∃ i, Tryz.prog.info? 105 = some i ∧ i.zero = some (.agg #[.int .i64 0, .slice none 0 0, .int .i64 0]) ∧ i.size = 3 ∧ i.bytes = 40 := by
  have h : (Tryz.prog.info? 105).map (fun i => (i.zero, i.size, i.bytes)) = some (some (.agg #[.int .i64 0, .slice none 0 0, .int .i64 0]), 3, 40) := by kernel_rfl
  cases hi : Tryz.prog.info? 105 with
  | none => rw [hi] at h; cases h
  | some i =>
    rw [hi] at h
    simp only [Option.map_some, Option.some.injEq, Prod.mk.injEq] at h
    exact ⟨i, rfl, h.1, h.2.1, h.2.2⟩

/-- 'l = append(l, m)' on a row of makings of the call's own -/
theorem app3 {ops : Array Oper} {rest : List Oper} {o : Oper} {act : Act} {Q : Exit → Act → World → Prop} {w : World} (hgd : o.guard = none) (s x : Operand)
    (ho : o.op = .call { callee := .builtin .append, args := #[s, x], argTypes := #[22, 22] }) (base : Nat) (xs : List Value) (n : Nat) (v a b c : Value) (ha : a.oneCell' = true) (hb : b.oneCell' = true) (hc : c.oneCell' = true) (g : Nat)
    (hs : act.eval s = v) (hown : w.ownsRow base 105 3 v n xs) (hx : act.eval x = .slice (some ⟨g, 0, none⟩) 1 1) (hg : w.heap.size = g) (hl : n ≤ 1000000) (hbase : base ≤ w.heap.size)
    (h : ∀ A' c' w', w'.ownsRow base 105 3 (.slice A' (n + 1) c') (n + 1) (xs ++ [a, b, c]) → Below base w w' → (w.alloc (.cells #[a, b, c] 105)).grownBy w' v.ownBlock → ((Value.slice A' (n + 1) c').ownBlock = v.ownBlock ∨ (Value.slice A' (n + 1) c').ownBlock = some (w.alloc (.cells #[a, b, c] 105)).heap.size) → wpList Tryz.prog ops Q rest (act.put o.dst (.slice A' (n + 1) c')) w') :
    wpList Tryz.prog ops Q (o :: rest) act (w.alloc (.cells #[a, b, c] 105)) := by
  subst hg
  obtain ⟨i0, hi, hz0, hz1, hz2⟩ := info105z
  have hk : Blk (w.alloc (.cells #[a, b, c] 105)) w.heap.size 105 #[a, b, c] := Blk.new _ _ _
  have ee : ∀ p, (⟨w.heap.size, 0, none⟩ : Addr).add p = ⟨w.heap.size, p, none⟩ := fun p => by unfold Addr.add; split <;> simp_all
  refine wpList_append_own_at _ hgd s x 22 ho base 105 i0 (.agg #[.int .i64 0, .slice none 0 0, .int .i64 0]) 3 40 Tryz.underlying22 hi hz0 hz1 hz2 rfl (by decide) v n xs hs (hown.alloc _) ⟨w.heap.size, 0, none⟩ 1 1 [a, b, c] hx rfl (fun j u hj => ?_) (fun u hu => ?_)
    (by simp only [maxLen]; omega) (by omega) (by simp; omega) ?_
  · rw [ee, hk.cell]
    simpa using hj
  · simp only [List.mem_cons, List.not_mem_nil, or_false] at hu
    rcases hu with rfl | rfl | rfl <;> assumption
  · intro v' w' h1 h2 _ h4
    have hb : Below base w w' := ((Below.refl _ _).alloc hbase _).grown h2 (by simp; omega) fun k hk => (hown.lt k hk).1
    obtain ⟨A', c', rfl, _, _⟩ := own_form h1
    exact h A' c' w' h1 hb h2 h4

theorem clone_x {w w5 : World} {A5 : Option Addr} {l : List Int} {v u : Value} {p : Addr} (h : Ints w5 w5.heap.size A5 l) (hg : ∀ ad, A5 = some ad → w.heap.size ≤ ad.block ∧ ad.block < w5.heap.size) (hrow : ∀ b, v.ownBlock = some b → b < w.heap.size)
    (_ : True) (hp : ∀ ad, A5 = some ad → p.block ≠ ad.block) : IntsX (w5.setCell p u) (w5.setCell p u).heap.size v.ownBlock A5 l := fun k x hx => by
  obtain ⟨ad, e, h1, h2⟩ := h k x hx
  have hg' := hg ad e
  refine ⟨ad, e, by simpa [World.setCell] using h1, fun e2 => ?_, ?_⟩
  · have := hrow _ e2
    omega
  · exact (World.cell?_setCell_far _ p _ _ (by rw [addr_block]; exact hp ad e)).trans h2

/-- what Without hands back -/
def RetWo21 (Sy St Ot Mi Ad Sm : Int) (ms : List Mkg) (i : Nat) (w : World) (e : Ending) (w' : World) : Prop :=
  ∃ A c, e = .returned (.tuple #[gv Sy St (.slice A (ms.eraseIdx i).length c) Ot Mi Ad Sm, .int .i64 0]) ∧ Gr w' w'.heap.size A (ms.eraseIdx i) ∧ Below w.heap.size w w'

set_option maxRecDepth 100000 in
set_option maxHeartbeats 2000000 in
theorem without21_ok (Sy St Ot Mi Ad Sm : Int) (A : Option Addr) (gcap : Nat) (ms : List Mkg) (w : World) (i : Nat) (hi : i < ms.length) (hml : ms.length ≤ 30) (hit : ∀ m ∈ ms, m.items.length ≤ 3) (hG : Gr w w.heap.size A ms) (h : chkG Sy St Ot Mi Ad Sm ms = 0) :
    Calls Tryz.prog 21 #[gv Sy St (.slice A ms.length gcap) Ot Mi Ad Sm, .int .i64 (i : Int)] w (RetWo21 Sy St Ot Mi Ad Sm ms i w) := by
  have hC := Lib.hid fun W (h : Gr W W.heap.size A ms) => check_any Sy St Ot Mi Ad Sm A gcap ms W h
  rw [h] at hC
  have q1 : decide ((i : Int) < 0) = false := decide_eq_false (by omega)
  have q2 : decide ((ms.length : Int) ≤ (i : Int)) = false := decide_eq_false (by omega)
  have q2' : decide (ms.length ≤ i) = false := decide_eq_false (by omega)
  have q2'' : ¬ ms.length ≤ i := by omega
  have HIT := Lib.hid hit
  obtain ⟨i0, hi0, hz0, hz1, hz2⟩ := info105z
  clear h hit
  have hb0 : Below w.heap.size w ((w.alloc (.cells #[.int .i64 Sy, .int .i64 St, .slice A ms.length gcap, .int .i64 Ot, .int .i64 Mi, .int .i64 Ad, .int .i64 Sm] 24)).alloc (.cells #[.int .i64 0, .int .i64 0, .slice none 0 0, .int .i64 0, .int .i64 0, .int .i64 0, .int .i64 0] 24)) := (below_new _ _).alloc (by simp) _
  have kG : Blk ((w.alloc (.cells #[.int .i64 Sy, .int .i64 St, .slice A ms.length gcap, .int .i64 Ot, .int .i64 Mi, .int .i64 Ad, .int .i64 Sm] 24)).alloc (.cells #[.int .i64 0, .int .i64 0, .slice none 0 0, .int .i64 0, .int .i64 0, .int .i64 0, .int .i64 0] 24)) w.heap.size 24 #[.int .i64 Sy, .int .i64 St, .slice A ms.length gcap, .int .i64 Ot, .int .i64 Mi, .int .i64 Ad, .int .i64 Sm] := (Blk.new _ _ _).alloc _
  have kR : Blk ((w.alloc (.cells #[.int .i64 Sy, .int .i64 St, .slice A ms.length gcap, .int .i64 Ot, .int .i64 Mi, .int .i64 Ad, .int .i64 Sm] 24)).alloc (.cells #[.int .i64 0, .int .i64 0, .slice none 0 0, .int .i64 0, .int .i64 0, .int .i64 0, .int .i64 0] 24)) (w.heap.size + 1) 24 #[.int .i64 0, .int .i64 0, .slice none 0 0, .int .i64 0, .int .i64 0, .int .i64 0, .int .i64 0] := Blk.newAt (by simp)
  have hG1 := hG.behind hb0
  go_enter Tryz.func21, Tryz.ntmps21
  go_wp2_with (first
    | go_skip
    | (go_at_call 25; refine (hC.out _ hG1).mono ?_; rintro e w1 ⟨rfl, hb1⟩; have kG1 := kG.below hb1 kG.lt; obtain a2 : w1.cell? ⟨w.heap.size, 2, none⟩ = some (.slice A ms.length gcap) := kG1.cell 2; have kR1 := kR.below hb1 kR.lt))
  have hG2 := hG1.behind hb1
  have hbw := below_next hb0 hb0.size hb1
  clear q1 q2 q2' q2'' a2 hC hG1 hb1 kG kR hb0 hG
  obtain ⟨Bs, hBs⟩ : ∃ Bs, Bs = w1.heap.size := ⟨_, rfl⟩
  have hRl := kR1.lt
  have hszr := hbw.size
  rw [← hBs] at hRl hszr hG2
  have hb5 : Below Bs w1 w1 := Below.refl _ _
  have hBle : Bs ≤ w1.heap.size := by omega
  go_loopw [7, 29] (fun v j wr => ∃ (k n : Nat) (A' : Option Addr) (c : Nat) (xs : List Value), k ≤ ms.length ∧ j = .int .i64 k ∧ v = .slice A' n c ∧ n = (wo ms i k).length ∧ Below Bs w1 wr ∧ wr.ownsRow Bs 105 3 (.slice A' n c) n xs ∧ GX Bs wr wr.heap.size (Value.slice A' n c).ownBlock xs (wo ms i k))
    (fun _ j _ => ms.length - (intOf j).toNat)
  case atStart => exact ⟨0, 0, none, 0, [], Nat.zero_le _, rfl, rfl, (by simp [wo]), hb5, World.ownsRow_nil _ _ _ _, (by simp only [wo, List.take_zero, List.eraseIdx_nil]; exact GX.nil _ _ _ _)⟩
  case round =>
    obtain ⟨k, n, A', c, xs, hk, rfl, rfl, hn, hb6, hown, hgx⟩ := hrel
    have kR6 := kR1.below hb6 hRl
    have kG6 := kG1.below hb6 (by omega)
    have hszb : Bs ≤ wr.heap.size := by have := hb6.size; omega
    have hwl := wo_len ms i k
    by_cases hlt : k < ms.length
    · obtain ⟨ad, rfl, hB, m0, ⟨IA, icap, m1, n1, n2, hI⟩, m2⟩ := (hG2.below hb6).get hlt
      have hll2 : (k : Int) < (ms.length : Int) := by omega
      have hil := HIT.out _ (List.getElem_mem hlt)
      by_cases hki : k = i
      · have hw := Lib.hid (show wo ms i (k + 1) = wo ms i k by rw [hki]; exact wo_at hi)
        have q3 : ((k : Int) != (i : Int)) = false := by simp [hki]
        generalize ms[k].items = items at m1 hI n1 hil
        generalize ms[k].sym = msym at m0
        generalize ms[k].cost = mcost at m2
        have HN := Lib.hid hn
        clear hn hki
        go_wp2_with fail
        go_roundw
        case rel => exact ⟨k + 1, n, A', c, xs, by omega, by go_num, rfl, by rw [hw.out]; exact HN.out, hb6.alloc hszb _, hown.alloc _, by rw [hw.out]; exact hgx.behind (below_new _ _)⟩
        case measure => simp [intOf]; try omega
      · have hw := Lib.hid (wo_ne hlt hki)
        have q3 : ((k : Int) != (i : Int)) = true := by simp; omega
        obtain ⟨mq, hmq⟩ : ∃ mq, mq = ms[k] := ⟨_, rfl⟩
        rw [← hmq] at m0 m1 m2 n1 hI hil hw
        clear hmq
        obtain ⟨msym, items, mcost⟩ := mq
        simp only at m0 m1 m2 n1 hI hil
        have HN := Lib.hid hn
        have hn10 : n ≤ 1000000 := by omega
        have hi6 : items.length ≤ 1000000 := by omega
        clear hn hki hwl
        have hbM : Below wr.heap.size wr (wr.alloc (.cells #[.int .i64 msym, .slice IA items.length icap, .int .i64 mcost] 105)) := below_new _ _
        have kM : Blk (wr.alloc (.cells #[.int .i64 msym, .slice IA items.length icap, .int .i64 mcost] 105)) wr.heap.size 105 #[.int .i64 msym, .slice IA items.length icap, .int .i64 mcost] := Blk.new _ _ _
        have hszM : (wr.alloc (.cells #[.int .i64 msym, .slice IA items.length icap, .int .i64 mcost] 105)).heap.size = wr.heap.size + 1 := by simp
        have HGX := Lib.hid hgx
        have hIM : Ints (wr.alloc (.cells #[.int .i64 msym, .slice IA items.length icap, .int .i64 mcost] 105)) (wr.alloc (.cells #[.int .i64 msym, .slice IA items.length icap, .int .i64 mcost] 105)).heap.size IA items := (hI.more hszb).behind hbM
        go_wp2_with (first
          | (go_at_call 70; refine (clone_any items IA icap _ hi6 hIM).mono ?_; rintro e w5 ⟨A5, c5, rfl, g1, g2, hI5, g5, hb5'⟩; have kM5 := kM.below hb5' kM.lt; have c5z := kM5.cell 0; have c5a := kM5.cell 1; have c5b := kM5.cell 2; have f5a := kM5.frozen 1; obtain ⟨c5z, c5a, c5b⟩ : w5.cell? ⟨wr.heap.size, 0, none⟩ = some (.int .i64 msym) ∧ w5.cell? ⟨wr.heap.size, 1, none⟩ = some (.slice IA items.length icap) ∧ w5.cell? ⟨wr.heap.size, 2, none⟩ = some (.int .i64 mcost) := ⟨c5z, c5a, c5b⟩; have hb56 : Below Bs wr (w5.setCell ⟨wr.heap.size, 1, none⟩ (.slice A5 items.length c5)) := ((hbM.trans (hb5'.mono hbM.size)).mono hszb).setCell (p := ⟨wr.heap.size, 1, none⟩) hszb _; have hbx : Below wr.heap.size wr (w5.setCell ⟨wr.heap.size, 1, none⟩ (.slice A5 items.length c5)) := (hbM.trans (hb5'.mono hbM.size)).setCell (p := ⟨wr.heap.size, 1, none⟩) (Nat.le_refl _) _; have hown6 := own_below hown hbx; have hgx6 := hgx.behind hbx; have hrow : ∀ b, (Value.slice A' n c).ownBlock = some b → b < wr.heap.size := (fun b hb => (hown.lt b hb).2); have hsz6 : Bs ≤ (w5.setCell ⟨wr.heap.size, 1, none⟩ (.slice A5 items.length c5)).heap.size := by have := hb56.size; omega)
          | (at_builtin; refine app3 (by rfl) _ _ (by rfl) Bs xs n (.slice A' n c) (.int .i64 msym) (.slice A5 items.length c5) (.int .i64 mcost) rfl rfl rfl w5.heap.size (by rfl) hown6 (by rfl) (by simp [World.setCell]) hn10 hsz6 ?_; intro A2 c2 w7 hown7 hb7 hgr7 hat7))
        have hI6 : IntsX (w5.setCell ⟨wr.heap.size, 1, none⟩ (.slice A5 items.length c5)) (w5.setCell ⟨wr.heap.size, 1, none⟩ (.slice A5 items.length c5)).heap.size (Value.slice A' n c).ownBlock A5 items := clone_x (w := wr) (p := ⟨wr.heap.size, 1, none⟩) hI5 (fun ad e => ⟨Nat.le_trans hbM.size (g5 ad e).1, (g5 ad e).2⟩) hrow trivial (fun ad e => by have h9 := (g5 ad e).1; rw [hszM] at h9; show wr.heap.size ≠ ad.block; omega)
        have hgx7 : GX Bs w7 w7.heap.size (Value.slice A2 (n + 1) c2).ownBlock (xs ++ [.int .i64 msym, .slice A5 items.length c5, .int .i64 mcost]) (wo ms i (k + 1)) := by
          rw [hw.out]
          exact ((hgx6.behind (below_new _ _)).app (m := ⟨msym, items, mcost⟩) (by rw [hown6.1, HN.out]) g1 g2 (fun ad e => ⟨Nat.le_trans hszb (Nat.le_trans hbM.size (g5 ad e).1), Nat.lt_of_lt_of_le (g5 ad e).2 (by simp)⟩) (hI6.behind (below_new _ _))).grown hgr7 hat7
        go_wp2_with fail
        go_roundw
        case rel => exact ⟨k + 1, n + 1, A2, c2, _, by omega, by go_num, rfl, by rw [hw.out, List.length_append, HN.out]; rfl, hb6.trans (hb56.trans hb7), hown7, hgx7⟩
        case measure => simp [intOf]; try omega
    · obtain rfl : k = ms.length := by omega
      rw [wo_all] at hn hgx
      subst hn
      have hszb' := hb6.size
      obtain ⟨a0, a1, a2, a3, a4, a5, a6⟩ : wr.cell? ⟨w.heap.size, 0, none⟩ = some (.int .i64 Sy) ∧ wr.cell? ⟨w.heap.size, 1, none⟩ = some (.int .i64 St) ∧ wr.cell? ⟨w.heap.size, 2, none⟩ = some (.slice A ms.length gcap) ∧ wr.cell? ⟨w.heap.size, 3, none⟩ = some (.int .i64 Ot) ∧ wr.cell? ⟨w.heap.size, 4, none⟩ = some (.int .i64 Mi) ∧ wr.cell? ⟨w.heap.size, 5, none⟩ = some (.int .i64 Ad) ∧ wr.cell? ⟨w.heap.size, 6, none⟩ = some (.int .i64 Sm) := ⟨kG6.cell 0, kG6.cell 1, kG6.cell 2, kG6.cell 3, kG6.cell 4, kG6.cell 5, kG6.cell 6⟩
      have g2 := kG6.frozen 2
      obtain ⟨r0, r1, r2, r3, r4, r5, r6⟩ : wr.cell? ⟨w.heap.size + 1, 0, none⟩ = some (.int .i64 0) ∧ wr.cell? ⟨w.heap.size + 1, 1, none⟩ = some (.int .i64 0) ∧ wr.cell? ⟨w.heap.size + 1, 2, none⟩ = some (.slice none 0 0) ∧ wr.cell? ⟨w.heap.size + 1, 3, none⟩ = some (.int .i64 0) ∧ wr.cell? ⟨w.heap.size + 1, 4, none⟩ = some (.int .i64 0) ∧ wr.cell? ⟨w.heap.size + 1, 5, none⟩ = some (.int .i64 0) ∧ wr.cell? ⟨w.heap.size + 1, 6, none⟩ = some (.int .i64 0) := ⟨kR6.cell 0, kR6.cell 1, kR6.cell 2, kR6.cell 3, kR6.cell 4, kR6.cell 5, kR6.cell 6⟩
      obtain ⟨f0, f1, f2, f3, f4, f5, f6⟩ : wr.frozen? ⟨w.heap.size + 1, 0, none⟩ = false ∧ wr.frozen? ⟨w.heap.size + 1, 1, none⟩ = false ∧ wr.frozen? ⟨w.heap.size + 1, 2, none⟩ = false ∧ wr.frozen? ⟨w.heap.size + 1, 3, none⟩ = false ∧ wr.frozen? ⟨w.heap.size + 1, 4, none⟩ = false ∧ wr.frozen? ⟨w.heap.size + 1, 5, none⟩ = false ∧ wr.frozen? ⟨w.heap.size + 1, 6, none⟩ = false := ⟨kR6.frozen 0, kR6.frozen 1, kR6.frozen 2, kR6.frozen 3, kR6.frozen 4, kR6.frozen 5, kR6.frozen 6⟩
      have kR7 := kR6.far (p := ⟨w.heap.size, 2, none⟩) (by simp) (.slice A' (ms.eraseIdx i).length c)
      have hbG : Below w.heap.size w (wr.setCell ⟨w.heap.size, 2, none⟩ (.slice A' (ms.eraseIdx i).length c)) := (hbw.trans (hb6.mono hszr)).setCell (p := ⟨w.heap.size, 2, none⟩) (Nat.le_refl _) _
      have HGX2 := Lib.hid hgx
      have HOWN := Lib.hid hown
      clear hgx hown
      go_wp2_with fail
      refine bodyPost_ret (v := .tuple #[.agg #[.int .i64 Sy, .int .i64 St, .slice A' (ms.eraseIdx i).length c, .int .i64 Ot, .int .i64 Mi, .int .i64 Ad, .int .i64 Sm], .int .i64 0]) (results_row_tmp rfl _ _ (w.heap.size + 1) rfl (((((((kR7.store 0 (.int .i64 Sy)).store 1 (.int .i64 St)).store 2 (.slice A' (ms.eraseIdx i).length c)).store 3 (.int .i64 Ot)).store 4 (.int .i64 Mi)).store 5 (.int .i64 Ad)).store 6 (.int .i64 Sm)) _ rfl) rfl ?_
      exact ⟨A', c, rfl, own_gr (ownsRow_setCell_below (ownsRow_setCell_below (ownsRow_setCell_below (ownsRow_setCell_below (ownsRow_setCell_below (ownsRow_setCell_below (ownsRow_setCell_below (ownsRow_setCell_below HOWN.out (a := ⟨w.heap.size, 2, none⟩) (by show w.heap.size < Bs; omega) _) (a := ⟨w.heap.size + 1, 0, none⟩) (by show w.heap.size + 1 < Bs; omega) _) (a := ⟨w.heap.size + 1, 1, none⟩) (by show w.heap.size + 1 < Bs; omega) _) (a := ⟨w.heap.size + 1, 2, none⟩) (by show w.heap.size + 1 < Bs; omega) _) (a := ⟨w.heap.size + 1, 3, none⟩) (by show w.heap.size + 1 < Bs; omega) _) (a := ⟨w.heap.size + 1, 4, none⟩) (by show w.heap.size + 1 < Bs; omega) _) (a := ⟨w.heap.size + 1, 5, none⟩) (by show w.heap.size + 1 < Bs; omega) _) (a := ⟨w.heap.size + 1, 6, none⟩) (by show w.heap.size + 1 < Bs; omega) _) ((((((((HGX2.out.low (p := ⟨w.heap.size, 2, none⟩) (by show w.heap.size < Bs; omega) _).low (p := ⟨w.heap.size + 1, 0, none⟩) (by show w.heap.size + 1 < Bs; omega) _).low (p := ⟨w.heap.size + 1, 1, none⟩) (by show w.heap.size + 1 < Bs; omega) _).low (p := ⟨w.heap.size + 1, 2, none⟩) (by show w.heap.size + 1 < Bs; omega) _).low (p := ⟨w.heap.size + 1, 3, none⟩) (by show w.heap.size + 1 < Bs; omega) _).low (p := ⟨w.heap.size + 1, 4, none⟩) (by show w.heap.size + 1 < Bs; omega) _).low (p := ⟨w.heap.size + 1, 5, none⟩) (by show w.heap.size + 1 < Bs; omega) _).low (p := ⟨w.heap.size + 1, 6, none⟩) (by show w.heap.size + 1 < Bs; omega) _), (((((((hbG.setCell (p := ⟨w.heap.size + 1, 0, none⟩) (by simp) _).setCell (p := ⟨w.heap.size + 1, 1, none⟩) (by simp) _).setCell (p := ⟨w.heap.size + 1, 2, none⟩) (by simp) _).setCell (p := ⟨w.heap.size + 1, 3, none⟩) (by simp) _).setCell (p := ⟨w.heap.size + 1, 4, none⟩) (by simp) _).setCell (p := ⟨w.heap.size + 1, 5, none⟩) (by simp) _).setCell (p := ⟨w.heap.size + 1, 6, none⟩) (by simp) _)⟩
end Go.Proofs.YtieclenlldjfjaaGreat
