import Derived.Test.YtbhiphjifdnhmaaGreatDoorEF
import Derived.Deep.QuietTactic
import Derived.BigQuiet
set_option linter.unusedSimpArgs false
set_option linter.unusedVariables false
/- AboutKnows. -/
namespace Go.Proofs.YtbhiphjifdnhmaaGreatDoor
open Go.RowKit Go.Maps
set_option linter.unusedSimpArgs false

/-- a verdict loaded whole under a guard -/
theorem ldVdG {ops : Array Oper} {rest : List Oper} {o : Oper} {a : Act} {w : World} {Q : Exit → Act → World → Prop} (t : Tmp) (hgd : Region.wanted o (yielded ops a.tmps) = true) (ho : o.op = .load 48 (.tmp t))
    {g : Nat} {T : TypeId} {c : Vd} (hB : Blk w g T (vcs c)) (hx : a.eval (.tmp t) = .pointer (some ⟨g, 0, none⟩)) (h : wpList Tryz.prog ops Q rest (a.put o.dst (.agg (vcs c))) w) : wpList Tryz.prog ops Q (o :: rest) a w :=
  wpList_step fun _ hK => by rw [if_pos hgd]; exact wp_load_row 48 _ ho g hx T _ (0, 0) _ hB Tryz.underlying48 rfl (info48 _) (hK _ _ h)
theorem ldSpG {ops : Array Oper} {rest : List Oper} {o : Oper} {a : Act} {w : World} {Q : Exit → Act → World → Prop} (t : Tmp) (hgd : Region.wanted o (yielded ops a.tmps) = true) (ho : o.op = .load 23 (.tmp t))
    {g : Nat} {T : TypeId} {x y : Int} (hB : Blk w g T #[.int .i64 x, .int .i64 y]) (hx : a.eval (.tmp t) = .pointer (some ⟨g, 0, none⟩)) (h : wpList Tryz.prog ops Q rest (a.put o.dst (.agg #[.int .i64 x, .int .i64 y])) w) : wpList Tryz.prog ops Q (o :: rest) a w :=
  wpList_step fun _ hK => by rw [if_pos hgd]; exact wp_load_row 23 _ ho g hx T _ (0, 0) _ hB Tryz.underlying23 rfl (by show _ = some 2; kernel_rfl) (hK _ _ h)
theorem AllB.drewN {w : World} {L : List (Nat × TypeId × Array Value)} (h : AllB w L) (n : Nat) : AllB (w.drewN n) L := h
set_option maxRecDepth 100000 in
set_option maxHeartbeats 16000000 in
theorem law6_in (hS : Hid SanityIs) (a b : Nat → Int) (most lo hi d x y t0 t1 u0 u1 P1 P2 N M G H : Int) (V U R Z : Vd) (w0 : World) (HA : Hid (chkV a = 0)) (HB : Hid (chkV b = 0))
    (hd : 0 ≤ d ∧ d ≤ 255) (hx : 0 ≤ x ∧ x ≤ 65535) (hy : 0 ≤ y ∧ y ≤ 65535)
    (HC : Hid (∀ W, Calls Tryz.prog 21 #[.agg (va a), .int .i64 (1 + d % 12)] W (RetS W (t0, t1) 0))) (HD : Hid (∀ W, Calls Tryz.prog 21 #[.agg (va b), .int .i64 (1 + d % 12)] W (RetS W (u0, u1) 0)))
    (ht : (-3000 ≤ t0 ∧ t0 ≤ t1) ∧ t1 ≤ 3000) (hu : (-3000 ≤ u0 ∧ u0 ≤ u1) ∧ u1 ≤ 3000) (hP1 : x.tmod (t1 - t0 + 1) = P1) (hP2 : y.tmod (u1 - u0 + 1) = P2) (hN : t0 + P1 = N) (hM : u0 + P2 = M) (hN2 : t0 ≤ N ∧ N ≤ t1) (hM2 : u0 ≤ M ∧ M ≤ u1)
    (HV : Hid (∀ W, Calls Tryz.prog 25 #[.agg (va a), .agg (va b)] W fun e w' => e = .returned (.tuple #[.agg (vcs V), .int .i64 0]) ∧ Below W.heap.size W w')) (HU : Hid (∀ W, Calls Tryz.prog 25 #[.agg (va b), .agg (va a)] W fun e w' => e = .returned (.tuple #[.agg (vcs U), .int .i64 0]) ∧ Below W.heap.size W w'))
    (KV : Hid (∀ W, Calls Tryz.prog 26 #[.agg (va a), .agg (va b), .agg (vcs V)] W fun e w' => e = .returned (.int .i64 0) ∧ Below W.heap.size W w')) (FV : Hid (FairP V (1 + d % 12) (decide (N < M)))) (HX : Hid (V.must ≤ 12 → U.can < V.must))
    (HR : Hid (∀ W, Calls Tryz.prog 28 #[.agg (va a), .agg (va b), .int .i64 most] W fun e w' => e = .returned (.tuple #[.agg (vcs R), .int .i64 G]) ∧ Below W.heap.size W w')) (KR : Hid (G = 0 → ∀ W, Calls Tryz.prog 29 #[.agg (va a), .agg (va b), .int .i64 most, .agg (vcs R)] W fun e w' => e = .returned (.int .i64 0) ∧ Below W.heap.size W w')) (FR : Hid (G = 0 → FairP R (1 + d % 12) (decide (N - M ≤ most) && decide (M - N ≤ most))))
    (HZ : Hid (∀ W, Calls Tryz.prog 30 #[.agg (va a), .agg #[.int .i64 lo, .int .i64 hi]] W fun e w' => e = .returned (.tuple #[.agg (vcs Z), .int .i64 H]) ∧ Below W.heap.size W w')) (KZ : Hid (H = 0 → ∀ W, Calls Tryz.prog 31 #[.agg (va a), .agg #[.int .i64 lo, .int .i64 hi], .agg (vcs Z)] W fun e w' => e = .returned (.int .i64 0) ∧ Below W.heap.size W w')) (FZ : Hid (H = 0 → FairP Z (1 + d % 12) (decide (lo ≤ N) && decide (N ≤ hi)))) :
    Calls Tryz.prog 6 #[.agg (va a), .agg (va b), .int .i64 most, .agg #[.int .i64 lo, .int .i64 hi], .int .u8 d, .int .u16 x, .int .u16 y] w0 fun e w' => e = .returned (.bool true) ∧ Below w0.heap.size w0 w' := by
  obtain ⟨hd1, hd2⟩ := hd
  obtain ⟨hx1, hx2⟩ := hx
  obtain ⟨hy1, hy2⟩ := hy
  obtain ⟨⟨ht1, ht2⟩, ht3⟩ := ht
  obtain ⟨⟨hu1, hu2⟩, hu3⟩ := hu
  obtain ⟨hN1, hN2⟩ := hN2
  obtain ⟨hM1, hM2⟩ := hM2
  have HN := Lib.hid hN
  have HM := Lib.hid hM
  have HP1 := Lib.hid hP1
  have HP2 := Lib.hid hP2
  clear hN hM hP1 hP2
  have hK : AllB (((w0.alloc (.cells (va a) 26)).alloc (.cells (va b) 26)).alloc (.cells (#[.int .i64 lo, .int .i64 hi]) 23)) [(w0.heap.size, 26, va a), (w0.heap.size + 1, 26, va b), (w0.heap.size + 2, 23, #[.int .i64 lo, .int .i64 hi])] := by
    intro q hq
    simp only [List.mem_cons, List.not_mem_nil, or_false] at hq
    rcases hq with rfl | rfl | rfl
    · exact (((Blk.new _ _ _).alloc _).alloc _)
    · exact ((Blk.newAt (by simp)).alloc _)
    · exact (Blk.newAt (by simp))
  have hW : Below w0.heap.size w0 (((w0.alloc (.cells (va a) 26)).alloc (.cells (va b) 26)).alloc (.cells (#[.int .i64 lo, .int .i64 hi]) 23)) := ((below_new _ _).alloc (by simp) _).alloc (by simp; omega) _
  go_enter Tryz.func6, Tryz.ntmps6
  go_upto_region 6 with (first
    | go_skip
    | (refine ldV 7 rfl rfl (hK.get 0 rfl) rfl ?_)
    | (refine ldV 8 rfl rfl (hK.get 1 rfl) rfl ?_)
    | (refine ldVG 8 (by rfl) rfl (hK.get 1 rfl) rfl ?_)
    | (go_at_call 14; refine (check_any _ _).mono ?_; (first | rw [HA.out] | rw [HB.out]); rintro e w ⟨rfl, hb⟩; replace hW := below_next hW hW.size hb; replace hK := hK.below hb; clear hb)
    | (go_at_call 21; (with_reducible refine (HC.out _).mono ?_); rintro e wt ⟨rfl, hb⟩; replace hW := (below_next hW hW.size hb).alloc (below_next hW hW.size hb).size (.cells #[.int .i64 t0, .int .i64 t1] 23); replace hK := (hK.below hb).push (below_new wt (.cells #[.int .i64 t0, .int .i64 t1] 23)) (Blk.new wt 23 #[.int .i64 t0, .int .i64 t1]); clear hb)
    | (go_at_call 21; (with_reducible refine (HD.out _).mono ?_); rintro e wu ⟨rfl, hb⟩; replace hW := (below_next hW hW.size hb).alloc (below_next hW hW.size hb).size (.cells #[.int .i64 u0, .int .i64 u1] 23); replace hK := (hK.below hb).push (below_new wu (.cells #[.int .i64 u0, .int .i64 u1] 23)) (Blk.new wu 23 #[.int .i64 u0, .int .i64 u1]); clear hb))
  replace hK : AllB _ [(w0.heap.size, 26, va a), (w0.heap.size + 1, 26, va b), (w0.heap.size + 2, 23, #[.int .i64 lo, .int .i64 hi]), (wt.heap.size, 23, #[.int .i64 t0, .int .i64 t1]), (wu.heap.size, 23, #[.int .i64 u0, .int .i64 u1])] := hK
  clear HC HD
  obtain ⟨z0, z1⟩ := (hK.get 3 rfl).two
  go_cut [20] (fun s wx => s = .int .i64 N ∧ AllB wx [(w0.heap.size, 26, va a), (w0.heap.size + 1, 26, va b), (w0.heap.size + 2, 23, #[.int .i64 lo, .int .i64 hi]), (wt.heap.size, 23, #[.int .i64 t0, .int .i64 t1]), (wu.heap.size, 23, #[.int .i64 u0, .int .i64 u1])] ∧ Below w0.heap.size w0 wx)
  case first =>
    have q0 : IntKind.i64.wrap (t1 - t0) = t1 - t0 := IntWalk.i64_in _ (by omega)
    have q1 : IntKind.i64.wrap (t1 - t0 + 1) = t1 - t0 + 1 := IntWalk.i64_in _ (by omega)
    have q2 : t1 - t0 + 1 ≠ 0 := by omega
    have q3 : (t1 - t0 + 1 == 0) = false := by simp; omega
    have q6 : IntKind.i64.wrap x = x := IntWalk.i64_in _ (by omega)
    have q4 := HP1.out
    have q5 : IntKind.i64.wrap P1 = P1 := IntWalk.i64_in _ (by have := HN.out; omega)
    have q7 : IntKind.i64.wrap (t0 + P1) = N := by rw [HN.out]; exact IntWalk.i64_in _ (by omega)
    go_quiet (fail)
    all_goals
      go_wp2_with fail
      skip
      go_meet
      exact ⟨rfl, hK.drewN _, below_drewN hW _⟩
  obtain ⟨rfl, hK, hW⟩ := hcut
  clear z0 z1
  go_upto_region 7 with fail
  obtain ⟨z0, z1⟩ := (hK.get 4 rfl).two
  go_cut [21] (fun s wx => s = .int .i64 M ∧ AllB wx [(w0.heap.size, 26, va a), (w0.heap.size + 1, 26, va b), (w0.heap.size + 2, 23, #[.int .i64 lo, .int .i64 hi]), (wt.heap.size, 23, #[.int .i64 t0, .int .i64 t1]), (wu.heap.size, 23, #[.int .i64 u0, .int .i64 u1])] ∧ Below w0.heap.size w0 wx)
  case first =>
    have q0 : IntKind.i64.wrap (u1 - u0) = u1 - u0 := IntWalk.i64_in _ (by omega)
    have q1 : IntKind.i64.wrap (u1 - u0 + 1) = u1 - u0 + 1 := IntWalk.i64_in _ (by omega)
    have q2 : u1 - u0 + 1 ≠ 0 := by omega
    have q3 : (u1 - u0 + 1 == 0) = false := by simp; omega
    have q6 : IntKind.i64.wrap y = y := IntWalk.i64_in _ (by omega)
    have q4 := HP2.out
    have q5 : IntKind.i64.wrap P2 = P2 := IntWalk.i64_in _ (by have := HM.out; omega)
    have q7 : IntKind.i64.wrap (u0 + P2) = M := by rw [HM.out]; exact IntWalk.i64_in _ (by omega)
    go_quiet (fail)
    all_goals
      go_wp2_with fail
      skip
      go_meet
      exact ⟨rfl, hK.drewN _, below_drewN hW _⟩
  obtain ⟨rfl, hK, hW⟩ := hcut
  clear z0 z1
  have hN3 : -3000 ≤ N := by omega
  have hN4 : N ≤ 3000 := by omega
  have hM3 : -3000 ≤ M := by omega
  have hM4 : M ≤ 3000 := by omega
  clear hN1 hN2 hM1 hM2 ht1 ht2 ht3 hu1 hu2 hu3 HN HM HP1 HP2 hx1 hx2 hy1 hy2
  go_upto_region 10 with (first
    | go_skip
    | (refine ldV 7 rfl rfl (hK.get 0 rfl) rfl ?_)
    | (refine ldV 8 rfl rfl (hK.get 1 rfl) rfl ?_)
    | (go_at_call 25; (with_reducible refine (HV.out _).mono ?_); rw [show vcs V = #[.int .i64 V.can, .int .i64 V.must, .int .i64 V.y0, .int .i64 V.y1, .int .i64 V.n0, .int .i64 V.n1] from rfl]; rintro e wv ⟨rfl, hb⟩; replace hW := (below_next hW hW.size hb).alloc (below_next hW hW.size hb).size (.cells (vcs V) 48); replace hK := (hK.below hb).push (below_new wv (.cells (vcs V) 48)) (Blk.new wv 48 (vcs V)); clear hb)
    | (go_at_call 25; (with_reducible refine (HU.out _).mono ?_); rw [show vcs U = #[.int .i64 U.can, .int .i64 U.must, .int .i64 U.y0, .int .i64 U.y1, .int .i64 U.n0, .int .i64 U.n1] from rfl]; rintro e wq ⟨rfl, hb⟩; replace hW := (below_next hW hW.size hb).alloc (below_next hW hW.size hb).size (.cells (vcs U) 48); replace hK := (hK.below hb).push (below_new wq (.cells (vcs U) 48)) (Blk.new wq 48 (vcs U)); clear hb))
  replace hK : AllB _ [(w0.heap.size, 26, va a), (w0.heap.size + 1, 26, va b), (w0.heap.size + 2, 23, #[.int .i64 lo, .int .i64 hi]), (wt.heap.size, 23, #[.int .i64 t0, .int .i64 t1]), (wu.heap.size, 23, #[.int .i64 u0, .int .i64 u1]), (wv.heap.size, 48, vcs V), (wq.heap.size, 48, vcs U)] := hK
  clear HV HU
  go_cut [124] (fun s wx => s = .bool false ∧ AllB wx [(w0.heap.size, 26, va a), (w0.heap.size + 1, 26, va b), (w0.heap.size + 2, 23, #[.int .i64 lo, .int .i64 hi]), (wt.heap.size, 23, #[.int .i64 t0, .int .i64 t1]), (wu.heap.size, 23, #[.int .i64 u0, .int .i64 u1]), (wv.heap.size, 48, vcs V), (wq.heap.size, 48, vcs U)] ∧ Below w0.heap.size w0 wx)
  case first =>
    as_aux_lemma =>
      clear HR KR FR HZ KZ FZ hS HA HB
      by_cases m1 : V.must ≤ 12
      · have m2 : ¬ V.must ≤ U.can := by have := HX.out m1; omega
        go_wp2_with (first
          | go_skip
          | (refine ldVG 7 (by rfl) rfl (hK.get 0 rfl) rfl ?_)
          | (refine ldVG 8 (by rfl) rfl (hK.get 1 rfl) rfl ?_)
          | (refine ldVdG 22 (by rfl) rfl (hK.get 5 rfl) rfl ?_)
          | (go_at_call 26; (with_reducible refine (KV.out _).mono ?_); rintro e w26 ⟨rfl, hb⟩; replace hW := below_next hW hW.size hb; replace hK := hK.below hb; clear hb)
          | (go_at_call 27; refine (fair_any _ _ _ FV.out _).mono ?_; rintro e w27 ⟨rfl, hb⟩; replace hW := below_next hW hW.size hb; replace hK := hK.below hb; clear hb; have n1 : w27.cell? ⟨wv.heap.size, 1, none⟩ = some (.int .i64 V.must) := (hK.get 5 rfl).cell 1; have n0 : w27.cell? ⟨wq.heap.size, 0, none⟩ = some (.int .i64 U.can) := (hK.get 6 rfl).cell 0))
        go_meet
        exact ⟨congrArg Value.bool (decide_eq_false (by omega)), hK, hW⟩
      ·
        go_wp2_with (first
          | go_skip
          | (refine ldVG 7 (by rfl) rfl (hK.get 0 rfl) rfl ?_)
          | (refine ldVG 8 (by rfl) rfl (hK.get 1 rfl) rfl ?_)
          | (refine ldVdG 22 (by rfl) rfl (hK.get 5 rfl) rfl ?_)
          | (go_at_call 26; (with_reducible refine (KV.out _).mono ?_); rintro e w26 ⟨rfl, hb⟩; replace hW := below_next hW hW.size hb; replace hK := hK.below hb; clear hb)
          | (go_at_call 27; refine (fair_any _ _ _ FV.out _).mono ?_; rintro e w27 ⟨rfl, hb⟩; replace hW := below_next hW hW.size hb; replace hK := hK.below hb; clear hb; have n1 : w27.cell? ⟨wv.heap.size, 1, none⟩ = some (.int .i64 V.must) := (hK.get 5 rfl).cell 1; have n0 : w27.cell? ⟨wq.heap.size, 0, none⟩ = some (.int .i64 U.can) := (hK.get 6 rfl).cell 0))
        go_meet
        exact ⟨rfl, hK, hW⟩
  obtain ⟨rfl, hK, hW⟩ := hcut
  clear KV FV HX
  go_upto_region 13 with (first
    | go_skip
    | (refine ldV 7 rfl rfl (hK.get 0 rfl) rfl ?_)
    | (refine ldV 8 rfl rfl (hK.get 1 rfl) rfl ?_)
    | (go_at_call 28; (with_reducible refine (HR.out _).mono ?_); rw [show vcs R = #[.int .i64 R.can, .int .i64 R.must, .int .i64 R.y0, .int .i64 R.y1, .int .i64 R.n0, .int .i64 R.n1] from rfl]; rintro e wr ⟨rfl, hb⟩; replace hW := (below_next hW hW.size hb).alloc (below_next hW hW.size hb).size (.cells (vcs R) 48); replace hK := (hK.below hb).push (below_new wr (.cells (vcs R) 48)) (Blk.new wr 48 (vcs R)); clear hb))
  replace hK : AllB _ [(w0.heap.size, 26, va a), (w0.heap.size + 1, 26, va b), (w0.heap.size + 2, 23, #[.int .i64 lo, .int .i64 hi]), (wt.heap.size, 23, #[.int .i64 t0, .int .i64 t1]), (wu.heap.size, 23, #[.int .i64 u0, .int .i64 u1]), (wv.heap.size, 48, vcs V), (wq.heap.size, 48, vcs U), (wr.heap.size, 48, vcs R)] := hK
  clear HR
  go_cut [159] (fun s wx => s = .bool false ∧ AllB wx [(w0.heap.size, 26, va a), (w0.heap.size + 1, 26, va b), (w0.heap.size + 2, 23, #[.int .i64 lo, .int .i64 hi]), (wt.heap.size, 23, #[.int .i64 t0, .int .i64 t1]), (wu.heap.size, 23, #[.int .i64 u0, .int .i64 u1]), (wv.heap.size, 48, vcs V), (wq.heap.size, 48, vcs U), (wr.heap.size, 48, vcs R)] ∧ Below w0.heap.size w0 wx)
  case first =>
    as_aux_lemma =>
      clear HZ KZ FZ hS HA HB
      have q1 : IntKind.i64.wrap (N - M) = N - M := IntWalk.i64_in _ (by omega)
      have q2 : IntKind.i64.wrap (M - N) = M - N := IntWalk.i64_in _ (by omega)
      by_cases hG : G = 0
      · subst hG
        replace KR := Lib.hid (KR.out rfl)
        by_cases l1 : N - M ≤ most
        · replace FR : Hid (FairP R (1 + d % 12) (decide (M - N ≤ most))) := by have := FR.out rfl; rwa [decide_eq_true l1, Bool.true_and] at this
          go_wp2_with (first
            | go_skip
            | (refine ldVG 7 (by rfl) rfl (hK.get 0 rfl) rfl ?_)
            | (refine ldVG 8 (by rfl) rfl (hK.get 1 rfl) rfl ?_)
            | (refine ldVdG 26 (by rfl) rfl (hK.get 7 rfl) rfl ?_)
            | (go_at_call 29; (with_reducible refine (KR.out _).mono ?_); rintro e w29 ⟨rfl, hb⟩; replace hW := below_next hW hW.size hb; replace hK := hK.below hb; clear hb)
            | (go_at_call 27; refine (fair_any _ _ _ FR.out _).mono ?_; rintro e w27 ⟨rfl, hb⟩; replace hW := below_next hW hW.size hb; replace hK := hK.below hb; clear hb))
          go_meet
          exact ⟨rfl, hK, hW⟩
        · replace FR : Hid (FairP R (1 + d % 12) false) := by have := FR.out rfl; rwa [decide_eq_false l1, Bool.false_and] at this
          go_wp2_with (first
            | go_skip
            | (refine ldVG 7 (by rfl) rfl (hK.get 0 rfl) rfl ?_)
            | (refine ldVG 8 (by rfl) rfl (hK.get 1 rfl) rfl ?_)
            | (refine ldVdG 26 (by rfl) rfl (hK.get 7 rfl) rfl ?_)
            | (go_at_call 29; (with_reducible refine (KR.out _).mono ?_); rintro e w29 ⟨rfl, hb⟩; replace hW := below_next hW hW.size hb; replace hK := hK.below hb; clear hb)
            | (go_at_call 27; refine (fair_any _ _ _ FR.out _).mono ?_; rintro e w27 ⟨rfl, hb⟩; replace hW := below_next hW hW.size hb; replace hK := hK.below hb; clear hb))
          go_meet
          exact ⟨rfl, hK, hW⟩
      · have g0 : (G == 0) = false := by simp [hG]
        clear hG KR FR
        go_wp2_with go_skip
        go_meet
        exact ⟨rfl, hK, hW⟩
  obtain ⟨rfl, hK, hW⟩ := hcut
  clear KR FR
  go_upto_region 16 with (first
    | go_skip
    | (refine ldV 7 rfl rfl (hK.get 0 rfl) rfl ?_)
    | (refine ldSp 10 rfl rfl (hK.get 2 rfl) rfl ?_)
    | (go_at_call 30; (with_reducible refine (HZ.out _).mono ?_); rw [show vcs Z = #[.int .i64 Z.can, .int .i64 Z.must, .int .i64 Z.y0, .int .i64 Z.y1, .int .i64 Z.n0, .int .i64 Z.n1] from rfl]; rintro e wz ⟨rfl, hb⟩; replace hW := (below_next hW hW.size hb).alloc (below_next hW hW.size hb).size (.cells (vcs Z) 48); replace hK := (hK.below hb).push (below_new wz (.cells (vcs Z) 48)) (Blk.new wz 48 (vcs Z)); clear hb))
  replace hK : AllB _ [(w0.heap.size, 26, va a), (w0.heap.size + 1, 26, va b), (w0.heap.size + 2, 23, #[.int .i64 lo, .int .i64 hi]), (wt.heap.size, 23, #[.int .i64 t0, .int .i64 t1]), (wu.heap.size, 23, #[.int .i64 u0, .int .i64 u1]), (wv.heap.size, 48, vcs V), (wq.heap.size, 48, vcs U), (wr.heap.size, 48, vcs R), (wz.heap.size, 48, vcs Z)] := hK
  clear HZ
  go_cut [190] (fun s wx => s = .bool false ∧ AllB wx [(w0.heap.size, 26, va a), (w0.heap.size + 1, 26, va b), (w0.heap.size + 2, 23, #[.int .i64 lo, .int .i64 hi]), (wt.heap.size, 23, #[.int .i64 t0, .int .i64 t1]), (wu.heap.size, 23, #[.int .i64 u0, .int .i64 u1]), (wv.heap.size, 48, vcs V), (wq.heap.size, 48, vcs U), (wr.heap.size, 48, vcs R), (wz.heap.size, 48, vcs Z)] ∧ Below w0.heap.size w0 wx)
  case first =>
    as_aux_lemma =>
      clear hS HA HB
      by_cases hH : H = 0
      · subst hH
        replace KZ := Lib.hid (KZ.out rfl)
        by_cases l1 : lo ≤ N
        · replace FZ : Hid (FairP Z (1 + d % 12) (decide (N ≤ hi))) := by have := FZ.out rfl; rwa [decide_eq_true l1, Bool.true_and] at this
          go_wp2_with (first
            | go_skip
            | (refine ldVG 7 (by rfl) rfl (hK.get 0 rfl) rfl ?_)
            | (refine ldSpG 10 (by rfl) rfl (hK.get 2 rfl) rfl ?_)
            | (refine ldVdG 28 (by rfl) rfl (hK.get 8 rfl) rfl ?_)
            | (go_at_call 31; (with_reducible refine (KZ.out _).mono ?_); rintro e w31 ⟨rfl, hb⟩; replace hW := below_next hW hW.size hb; replace hK := hK.below hb; clear hb; have s0 : w31.cell? ⟨w0.heap.size + 1 + 1, 0, none⟩ = some (.int .i64 lo) := (hK.get 2 rfl).cell 0; have s1 : w31.cell? ⟨w0.heap.size + 1 + 1, 1, none⟩ = some (.int .i64 hi) := (hK.get 2 rfl).cell 1)
            | (go_at_call 27; refine (fair_any _ _ _ FZ.out _).mono ?_; rintro e w27 ⟨rfl, hb⟩; replace hW := below_next hW hW.size hb; replace hK := hK.below hb; clear hb))
          go_meet
          exact ⟨rfl, hK, hW⟩
        · replace FZ : Hid (FairP Z (1 + d % 12) false) := by have := FZ.out rfl; rwa [decide_eq_false l1, Bool.false_and] at this
          go_wp2_with (first
            | go_skip
            | (refine ldVG 7 (by rfl) rfl (hK.get 0 rfl) rfl ?_)
            | (refine ldSpG 10 (by rfl) rfl (hK.get 2 rfl) rfl ?_)
            | (refine ldVdG 28 (by rfl) rfl (hK.get 8 rfl) rfl ?_)
            | (go_at_call 31; (with_reducible refine (KZ.out _).mono ?_); rintro e w31 ⟨rfl, hb⟩; replace hW := below_next hW hW.size hb; replace hK := hK.below hb; clear hb; have s0 : w31.cell? ⟨w0.heap.size + 1 + 1, 0, none⟩ = some (.int .i64 lo) := (hK.get 2 rfl).cell 0; have s1 : w31.cell? ⟨w0.heap.size + 1 + 1, 1, none⟩ = some (.int .i64 hi) := (hK.get 2 rfl).cell 1)
            | (go_at_call 27; refine (fair_any _ _ _ FZ.out _).mono ?_; rintro e w27 ⟨rfl, hb⟩; replace hW := below_next hW hW.size hb; replace hK := hK.below hb; clear hb))
          go_meet
          exact ⟨rfl, hK, hW⟩
      · have g0 : (H == 0) = false := by simp [hH]
        clear hH KZ FZ
        go_wp2_with go_skip
        go_meet
        exact ⟨rfl, hK, hW⟩
  obtain ⟨rfl, hK, hW⟩ := hcut
  clear KZ FZ
  go_wp2_with (first
    | go_skip
    | (go_at_call 15; refine (hS.out _).mono ?_; rintro e w ⟨rfl, hb⟩; replace hW := below_next hW hW.size hb; replace hK := hK.below hb; clear hb))
  go_ret
  exact ⟨rfl, hW⟩
set_option maxRecDepth 100000 in
set_option maxHeartbeats 2000000 in
theorem law6_bad (hS : Hid SanityIs) (a b : Nat → Int) (most lo hi d x y : Int) (w : World) (ho : ¬ (vok a = true ∧ vok b = true)) :
    Calls Tryz.prog 6 #[.agg (va a), .agg (va b), .int .i64 most, .agg #[.int .i64 lo, .int .i64 hi], .int .u8 d, .int .u16 x, .int .u16 y] w fun e w' => e = .returned (.bool true) ∧ Below w.heap.size w w' := by
  have hK : AllB (((w.alloc (.cells (va a) 26)).alloc (.cells (va b) 26)).alloc (.cells (#[.int .i64 lo, .int .i64 hi]) 23)) [(w.heap.size, 26, va a), (w.heap.size + 1, 26, va b), (w.heap.size + 2, 23, #[.int .i64 lo, .int .i64 hi])] := by
    intro q hq
    simp only [List.mem_cons, List.not_mem_nil, or_false] at hq
    rcases hq with rfl | rfl | rfl
    · exact (((Blk.new _ _ _).alloc _).alloc _)
    · exact ((Blk.newAt (by simp)).alloc _)
    · exact (Blk.newAt (by simp))
  have hW : Below w.heap.size w (((w.alloc (.cells (va a) 26)).alloc (.cells (va b) 26)).alloc (.cells (#[.int .i64 lo, .int .i64 hi]) 23)) := ((below_new _ _).alloc (by simp) _).alloc (by simp; omega) _
  cases ha : vok a
  · have HA := Lib.hid (chkV_no ha)
    clear ha ho
    go_enter Tryz.func6, Tryz.ntmps6
    go_wp2_with (first
      | go_skip
      | (refine ldV 7 rfl rfl (hK.get 0 rfl) rfl ?_)
      | (go_at_call 14; refine (check_any _ _).mono ?_; (first | rw [HA.out]); rintro e w ⟨rfl, hb⟩; replace hW := below_next hW hW.size hb; replace hK := hK.below hb; clear hb)
      | (go_at_call 15; refine (hS.out _).mono ?_; rintro e w ⟨rfl, hb⟩; replace hW := below_next hW hW.size hb; replace hK := hK.below hb; clear hb))
    go_ret
    exact ⟨rfl, hW⟩
  · have hb : vok b = false := by
      cases hb : vok b
      · rfl
      · exact absurd ⟨ha, hb⟩ ho
    have HA := Lib.hid (chkV_ok ha)
    have HB := Lib.hid (chkV_no hb)
    clear ha hb ho
    go_enter Tryz.func6, Tryz.ntmps6
    go_wp2_with (first
      | go_skip
      | (refine ldV 7 rfl rfl (hK.get 0 rfl) rfl ?_)
      | (refine ldVG 8 (by rfl) rfl (hK.get 1 rfl) rfl ?_)
      | (go_at_call 14; refine (check_any _ _).mono ?_; (first | rw [HA.out] | rw [HB.out]); rintro e w ⟨rfl, hb⟩; replace hW := below_next hW hW.size hb; replace hK := hK.below hb; clear hb)
      | (go_at_call 15; refine (hS.out _).mono ?_; rintro e w ⟨rfl, hb⟩; replace hW := below_next hW hW.size hb; replace hK := hK.below hb; clear hb))
    go_ret
    exact ⟨rfl, hW⟩
theorem cutB {a : Nat → Int} (ha : vok a = true) (d : Int) (h1 : 1 ≤ d) (h2 : d ≤ 12) (W : World) : Calls Tryz.prog 21 #[.agg (va a), .int .i64 d] W (RetS W (a (2 * (d.toNat - 1)), a (2 * (d.toNat - 1) + 1)) 0) := by
  have h := cut_any a d W
  rw [(cut_ok ha h1 h2).1, (cut_ok ha h1 h2).2] at h
  exact h
theorem zero_nested : Nested zeroV := ⟨fun _ _ => Int.le_refl _, fun _ _ => Int.le_refl _, fun _ _ => Int.le_refl _⟩
/-- a place in a span -/
theorem place_in {x lo hi : Int} (hx : 0 ≤ x) (h : lo ≤ hi) : 0 ≤ x.tmod (hi - lo + 1) ∧ x.tmod (hi - lo + 1) ≤ hi - lo := by
  have h1 := Int.tmod_nonneg (hi - lo + 1) hx
  have h2 := Int.tmod_lt_of_pos x (show 0 < hi - lo + 1 by omega)
  omega
theorem fairP_of {q : Qn} (hq : QOk q) {a b : Nat → Int} (ha : Nested a) (hb : Nested b) {d n m : Int} (h1 : 1 ≤ d) (h2 : d ≤ 12) (hn : a (2 * (d.toNat - 1)) ≤ n ∧ n ≤ a (2 * (d.toNat - 1) + 1)) (hm : b (2 * (d.toNat - 1)) ≤ m ∧ m ≤ b (2 * (d.toNat - 1) + 1)) {so : Bool} (hs : q.so n m = so) : FairP (vdict q a b) d so := by
  obtain ⟨f1, f2, f3⟩ := fair_vdict hq ha hb h1 h2 hn hm
  rw [hs] at f1 f2
  exact ⟨f1, f2, f3⟩
theorem law6_any (hS : Hid SanityIs) (a b : Nat → Int) (most lo hi d x y : Int) (hd : 0 ≤ d ∧ d ≤ 255) (hx : 0 ≤ x ∧ x ≤ 65535) (hy : 0 ≤ y ∧ y ≤ 65535) (w : World) :
    Calls Tryz.prog 6 #[.agg (va a), .agg (va b), .int .i64 most, .agg #[.int .i64 lo, .int .i64 hi], .int .u8 d, .int .u16 x, .int .u16 y] w fun e w' => e = .returned (.bool true) ∧ Below w.heap.size w w' := by
  by_cases ho : vok a = true ∧ vok b = true
  · obtain ⟨ha, hb⟩ := ho
    have t1 : 0 ≤ d % 12 := Int.emod_nonneg _ (by decide)
    have t2 : d % 12 < 12 := Int.emod_lt_of_pos _ (by decide)
    have oa := vok_iff.1 ha
    have ob := vok_iff.1 hb
    have na := oa.nested
    have nb := ob.nested
    obtain ⟨D, hD⟩ : ∃ D, D = 1 + d % 12 := ⟨_, rfl⟩
    obtain ⟨k, hk⟩ : ∃ k : Nat, k = (1 + d % 12).toNat - 1 := ⟨_, rfl⟩
    have k12 : k < 12 := by omega
    have a1 := oa.sp k k12
    have a2 := oa.lo k k12
    have a3 := oa.hi k k12
    have b1 := ob.sp k k12
    have b2 := ob.lo k k12
    have b3 := ob.hi k k12
    obtain ⟨p1, p2⟩ := place_in hx.1 a1
    obtain ⟨p3, p4⟩ := place_in hy.1 b1
    have hc : chk2 a b = 0 := by simp [chk2, ha, hb]
    have hc' : chk2 b a = 0 := by simp [chk2, ha, hb]
    refine law6_in hS a b most lo hi d x y (a (2 * k)) (a (2 * k + 1)) (b (2 * k)) (b (2 * k + 1)) (x.tmod (a (2 * k + 1) - a (2 * k) + 1)) (y.tmod (b (2 * k + 1) - b (2 * k) + 1)) (a (2 * k) + x.tmod (a (2 * k + 1) - a (2 * k) + 1)) (b (2 * k) + y.tmod (b (2 * k + 1) - b (2 * k) + 1)) (nearE a b most) (inE a lo hi)
      (vdict qBefore a b) (vdict qBefore b a) (if nearE a b most = 0 then vdict (qNear most) a b else vd0) (if inE a lo hi = 0 then vdict (qIn lo hi) a zeroV else vd0) w (Lib.hid (chkV_ok ha)) (Lib.hid (chkV_ok hb)) hd hx hy
      (Lib.hid fun W => ?_) (Lib.hid fun W => ?_) ⟨⟨a2.1, a1⟩, a3.2⟩ ⟨⟨b2.1, b1⟩, b3.2⟩ rfl rfl rfl rfl (by omega) (by omega) (Lib.hid fun W => ?_) (Lib.hid fun W => ?_) (Lib.hid fun W => ?_) (Lib.hid ?_) (Lib.hid fun h => before_back na nb h) (Lib.hid fun W => near_any a b most W) (Lib.hid fun h W => ?_) (Lib.hid fun h => ?_) (Lib.hid fun W => in_any a lo hi W) (Lib.hid fun h W => ?_) (Lib.hid fun h => ?_)
    · rw [hk]; exact cutB ha _ (by omega) (by omega) W
    · rw [hk]; exact cutB hb _ (by omega) (by omega) W
    · have h := before_any a b W
      rw [hc, if_pos rfl] at h
      exact h
    · have h := before_any b a W
      rw [hc', if_pos rfl] at h
      exact h
    · have h := checkBeforeV_any a b (vdict qBefore a b) W
      rw [if_pos hc, check_vdict before_q na nb] at h
      exact h
    · exact fairP_of (n := a (2 * k) + x.tmod (a (2 * k + 1) - a (2 * k) + 1)) (m := b (2 * k) + y.tmod (b (2 * k + 1) - b (2 * k) + 1)) before_q na nb (by omega) (by omega) (by rw [← hk]; omega) (by rw [← hk]; omega) rfl
    · rw [if_pos h]
      have g := checkNearV_any a b most (vdict (qNear most) a b) W
      rw [if_pos h, check_vdict (near_q most) na nb] at g
      exact g
    · rw [if_pos h]
      refine fairP_of (n := a (2 * k) + x.tmod (a (2 * k + 1) - a (2 * k) + 1)) (m := b (2 * k) + y.tmod (b (2 * k + 1) - b (2 * k) + 1)) (near_q most) na nb (by omega) (by omega) (by rw [← hk]; omega) (by rw [← hk]; omega) ?_
      rw [Bool.eq_iff_iff, near_so, Bool.and_eq_true, decide_eq_true_eq, decide_eq_true_eq]
    · rw [if_pos h]
      have g := checkInV_any a lo hi (vdict (qIn lo hi) a zeroV) W
      rw [if_pos h, check_vdict (in_q lo hi) na zero_nested] at g
      exact g
    · rw [if_pos h]
      exact fairP_of (n := a (2 * k) + x.tmod (a (2 * k + 1) - a (2 * k) + 1)) (m := 0) (in_q lo hi) na zero_nested (by omega) (by omega) (by rw [← hk]; omega) ⟨Int.le_refl _, Int.le_refl _⟩ rfl
  · exact law6_bad hS a b most lo hi d x y w ho
end Go.Proofs.YtbhiphjifdnhmaaGreatDoor
