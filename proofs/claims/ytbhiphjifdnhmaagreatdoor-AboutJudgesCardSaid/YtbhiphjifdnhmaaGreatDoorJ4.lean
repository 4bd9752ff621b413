import Derived.Test.YtbhiphjifdnhmaaGreatDoorJ3
set_option linter.unusedSimpArgs false
set_option linter.unusedVariables false
/- The reference: in, shows, Verdict, CheckVerdict. -/
namespace Go.Proofs.YtbhiphjifdnhmaaGreatDoor
open Go.RowKit

/-- a sort loaded whole -/
theorem ldSo {ops : Array Oper} {rest : List Oper} {o : Oper} {a : Act} {w : World} {Q : Exit → Act → World → Prop} (t : Tmp) (hgd : Region.wanted o (yielded ops a.tmps) = true) (ho : o.op = .load 86 (.tmp t))
    {g : Nat} {T : TypeId} {k m lo hi : Int} (hB : Blk w g T #[.int .i64 k, .int .i64 m, .int .i64 lo, .int .i64 hi]) (hx : a.eval (.tmp t) = .pointer (some ⟨g, 0, none⟩)) (h : wpList Tryz.prog ops Q rest (a.put o.dst (.agg #[.int .i64 k, .int .i64 m, .int .i64 lo, .int .i64 hi])) w) : wpList Tryz.prog ops Q (o :: rest) a w :=
  wpList_step fun _ hK => by rw [if_pos hgd]; exact wp_load_row 86 _ ho g hx T _ (0, 0) _ hB Tryz.underlying86 rfl (by show _ = some 4; kernel_rfl) (hK _ _ h)
theorem ldPr {ops : Array Oper} {rest : List Oper} {o : Oper} {a : Act} {w : World} {Q : Exit → Act → World → Prop} (t : Tmp) (hgd : Region.wanted o (yielded ops a.tmps) = true) (ho : o.op = .load 46 (.tmp t))
    {g : Nat} {T : TypeId} {x y : Int} (hB : Blk w g T #[.int .i64 x, .int .i64 y]) (hx : a.eval (.tmp t) = .pointer (some ⟨g, 0, none⟩)) (h : wpList Tryz.prog ops Q rest (a.put o.dst (.agg #[.int .i64 x, .int .i64 y])) w) : wpList Tryz.prog ops Q (o :: rest) a w :=
  wpList_step fun _ hK => by rw [if_pos hgd]; exact wp_load_row 46 _ ho g hx T _ (0, 0) _ hB Tryz.underlying46 rfl (by show _ = some 2; kernel_rfl) (hK _ _ h)
/-- the blocks of four parameters -/
theorem four_blocks (k m lo hi : Int) (a b : Nat → Int) (c : Obj) (w : World) :
    Blk ((((w.alloc (.cells #[.int .i64 k, .int .i64 m, .int .i64 lo, .int .i64 hi] 86)).alloc (.cells (va a) 26)).alloc (.cells (va b) 26)).alloc c) w.heap.size 86 #[.int .i64 k, .int .i64 m, .int .i64 lo, .int .i64 hi] ∧ Blk ((((w.alloc (.cells #[.int .i64 k, .int .i64 m, .int .i64 lo, .int .i64 hi] 86)).alloc (.cells (va a) 26)).alloc (.cells (va b) 26)).alloc c) (w.heap.size + 1) 26 (va a) ∧ Blk ((((w.alloc (.cells #[.int .i64 k, .int .i64 m, .int .i64 lo, .int .i64 hi] 86)).alloc (.cells (va a) 26)).alloc (.cells (va b) 26)).alloc c) (w.heap.size + 1 + 1) 26 (va b)
    ∧ Below w.heap.size w ((((w.alloc (.cells #[.int .i64 k, .int .i64 m, .int .i64 lo, .int .i64 hi] 86)).alloc (.cells (va a) 26)).alloc (.cells (va b) 26)).alloc c) :=
  ⟨(((Blk.new _ _ _).alloc _).alloc _).alloc _, ((Blk.newAt (by simp)).alloc _).alloc _, (Blk.newAt (by simp)).alloc _, (((below_new _ _).alloc (by simp) _).alloc (by simp; omega) _).alloc (by simp; omega) _⟩
/-- a quiet call in a quiet region behind another one -/
theorem quietL2 {P : Program} {f : FuncId} {args : Array Value} {w : World} {m n : Nat} {v : Value} (h : Calls P f args (w.drewN (m + n)) fun e w' => e = .returned v ∧ w.drewN (m + n) = w') : Calls P f args (w.drewN (m + n)) fun e w'' => e = .returned v ∧ ∃ j, w'' = w.drewN (m + j) :=
  h.mono fun _ _ ⟨he, hm⟩ => ⟨he, n, hm.symm⟩
set_option maxRecDepth 100000 in
set_option maxHeartbeats 4000000 in
theorem refIn_any (k m lo hi : Int) (hk : k = 0 ∨ k = 1 ∨ k = 2) (a b : Nat → Int) (i : Nat) (hi12 : i < 12) (x y : Int) (w : World) :
    Calls Tryz.prog 134 #[.agg #[.int .i64 k, .int .i64 m, .int .i64 lo, .int .i64 hi], .agg (va a), .agg (va b), .int .i64 ((i : Int) + 1), .agg #[.int .i64 x, .int .i64 y]] w fun e w' => e = .returned (.bool (inS k a b ((i : Int) + 1) x y)) ∧ Below w.heap.size w w' := by
  obtain ⟨kS, kA, kB, hb0⟩ := four_blocks k m lo hi a b (.cells #[.int .i64 x, .int .i64 y] 46) w
  have kL : Blk ((((w.alloc (.cells #[.int .i64 k, .int .i64 m, .int .i64 lo, .int .i64 hi] 86)).alloc (.cells (va a) 26)).alloc (.cells (va b) 26)).alloc (.cells #[.int .i64 x, .int .i64 y] 46)) (w.heap.size + 1 + 1 + 1) 46 #[.int .i64 x, .int .i64 y] := Blk.newAt (by simp)
  obtain ⟨c0, c1, c2, c3⟩ := kS.fourC
  obtain ⟨d0, d1⟩ := kA.spans i hi12
  obtain ⟨e0, e1⟩ := kB.spans i hi12
  obtain ⟨l0, l1⟩ := kL.two
  have HR := Lib.hid (show inS k a b ((i : Int) + 1) x y = (hasAt a x i && (if k = 2 then decide (y = 0) else hasAt b y i)) by rw [inS, show ((i : Int) + 1).toNat - 1 = i by omega])
  obtain ⟨A, hA⟩ : ∃ A, A = hasAt a x i := ⟨_, rfl⟩
  obtain ⟨B, hB⟩ : ∃ B, B = hasAt b y i := ⟨_, rfl⟩
  rw [← hA, ← hB] at HR
  have HA : Hid (∀ W, Calls Tryz.prog 93 #[.int .i64 x, .int .i64 (a (2 * i)), .int .i64 (a (2 * i + 1))] W fun e w' => e = .returned (.bool A) ∧ W = w') := by rw [hA]; exact fun W => refWithin_any x _ _ W
  have HB : Hid (∀ W, Calls Tryz.prog 93 #[.int .i64 y, .int .i64 (b (2 * i)), .int .i64 (b (2 * i + 1))] W fun e w' => e = .returned (.bool B) ∧ W = w') := by rw [hB]; exact fun W => refWithin_any y _ _ W
  clear hA hB kS kA kB kL
  have q0 : (i : Int) + 1 - 1 = (i : Int) := by omega
  have q1 : IntKind.i64.wrap ((i : Int) + 1 - 1) = (i : Int) := by rw [q0]; exact IntWalk.i64_in _ (by omega)
  have q3 : IntKind.i64.wrap (i : Int) = (i : Int) := IntWalk.i64_in _ (by omega)
  have q4 : (0 : Int) ≤ (i : Int) := by omega
  have q5 : (i : Int) < 12 := by omega
  rw [HR.out]
  rcases hk with rfl | rfl | rfl
  all_goals
    cases A
    all_goals
      go_enter Tryz.func134, Tryz.ntmps134
      go_wp2_with fail
      go_quiet ((go_at_call 93; exact quietL (HA.out _)))
      all_goals
        go_wp2_with fail
        go_quiet ((go_at_call 93; exact quietL2 (HB.out _)))
        all_goals
          go_wp2_with go_skip
          go_ret
          exact ⟨ret_bool (by first | rfl | simp), below_drewN hb0 _⟩
set_option maxRecDepth 100000 in
set_option maxHeartbeats 4000000 in
theorem refShows_any (k m lo hi : Int) (hk : k = 0 ∨ k = 1 ∨ k = 2) (a b : Nat → Int) (ok1 : ∀ i, i < 24 → -3000 ≤ a i ∧ a i ≤ 3000) (ok2 : ∀ i, i < 24 → -3000 ≤ b i ∧ b i ≤ 3000) (d x y : Int) (so : Bool) (w : World) :
    Calls Tryz.prog 97 #[.agg #[.int .i64 k, .int .i64 m, .int .i64 lo, .int .i64 hi], .agg (va a), .agg (va b), .int .i64 d, .agg #[.int .i64 x, .int .i64 y], .bool so] w fun e w' => e = .returned (.bool (showS k m lo hi a b d x y so)) ∧ Below w.heap.size w w' := by
  obtain ⟨kS, kA, kB, hb0⟩ := four_blocks k m lo hi a b (.cells #[.int .i64 x, .int .i64 y] 46) w
  have kL : Blk ((((w.alloc (.cells #[.int .i64 k, .int .i64 m, .int .i64 lo, .int .i64 hi] 86)).alloc (.cells (va a) 26)).alloc (.cells (va b) 26)).alloc (.cells #[.int .i64 x, .int .i64 y] 46)) (w.heap.size + 1 + 1 + 1) 46 #[.int .i64 x, .int .i64 y] := Blk.newAt (by simp)
  obtain ⟨W, hW⟩ : ∃ W, W = (((w.alloc (.cells #[.int .i64 k, .int .i64 m, .int .i64 lo, .int .i64 hi] 86)).alloc (.cells (va a) 26)).alloc (.cells (va b) 26)).alloc (.cells #[.int .i64 x, .int .i64 y] 46) := ⟨_, rfl⟩
  have HD : Hid (∀ W, Calls Tryz.prog 93 #[.int .i64 d, .int .i64 1, .int .i64 12] W fun e w' => e = .returned (.bool (decide (1 ≤ d) && decide (d ≤ 12))) ∧ W = w') := fun W => refWithin_any d 1 12 W
  by_cases hd : 1 ≤ d ∧ d ≤ 12
  · obtain ⟨i, rfl⟩ : ∃ i : Nat, d = (i : Int) + 1 := ⟨d.toNat - 1, by omega⟩
    have hi12 : i < 12 := by omega
    rw [show (decide (1 ≤ (i : Int) + 1) && decide ((i : Int) + 1 ≤ 12)) = true by simp; omega] at HD
    have HR := Lib.hid (show showS k m lo hi a b ((i : Int) + 1) x y so = (inS k a b ((i : Int) + 1) x y && (soS k m lo hi x y == so)) by rw [showS, if_pos hd])
    have HI : Hid (∀ W, Calls Tryz.prog 134 #[.agg #[.int .i64 k, .int .i64 m, .int .i64 lo, .int .i64 hi], .agg (va a), .agg (va b), .int .i64 ((i : Int) + 1), .agg #[.int .i64 x, .int .i64 y]] W fun e w' => e = .returned (.bool (inS k a b ((i : Int) + 1) x y)) ∧ Below W.heap.size W w') := fun W => refIn_any k m lo hi hk a b i hi12 x y W
    have HS : Hid (inS k a b ((i : Int) + 1) x y = true → ∀ W, Calls Tryz.prog 135 #[.agg #[.int .i64 k, .int .i64 m, .int .i64 lo, .int .i64 hi], .int .i64 x, .int .i64 y] W fun e w' => e = .returned (.bool (soS k m lo hi x y)) ∧ Below W.heap.size W w') := fun h W => by
      rw [inS, show ((i : Int) + 1).toNat - 1 = i by omega, Bool.and_eq_true] at h
      have h1 := h.1
      simp only [hasAt, Bool.and_eq_true, decide_eq_true_eq] at h1
      have := ok1 (2 * i) (by omega)
      have := ok1 (2 * i + 1) (by omega)
      refine refSo_any k m lo hi x y hk (by omega) ?_ W
      have h2 := h.2
      split at h2
      · have := of_decide_eq_true h2
        omega
      · simp only [hasAt, Bool.and_eq_true, decide_eq_true_eq] at h2
        have := ok2 (2 * i) (by omega)
        have := ok2 (2 * i + 1) (by omega)
        omega
    clear ok1 ok2 hk hd
    rw [HR.out]
    clear HR
    cases hI : inS k a b ((i : Int) + 1) x y
    · rw [hI] at HI
      clear hI HS hW
      go_enter Tryz.func97, Tryz.ntmps97
      go_wp2_with (first
        | go_skip
        | (go_at_call 93; refine (HD.out _).mono ?_; rintro e w1 ⟨rfl, rfl⟩)
        | (refine ldSo 6 (by rfl) rfl kS rfl ?_)
        | (refine ldV 7 rfl rfl kA rfl ?_)
        | (refine ldV 8 rfl rfl kB rfl ?_)
        | (refine ldPr 10 (by rfl) rfl kL rfl ?_)
        | (go_at_call 134; refine (HI.out _).mono ?_; rintro e w2 ⟨rfl, hb2⟩))
      go_ret
      exact ⟨rfl, below_next hb0 (by simp; omega) hb2⟩
    · rw [hI] at HI
      replace HS := Lib.hid (HS.out hI)
      clear hI hW
      cases hS : soS k m lo hi x y
      all_goals
        rw [hS] at HS
        clear hS
        cases so
        all_goals
          go_enter Tryz.func97, Tryz.ntmps97
          go_wp2_with (first
            | go_skip
            | (go_at_call 93; refine (HD.out _).mono ?_; rintro e w1 ⟨rfl, rfl⟩)
            | (refine ldSo 6 (by rfl) rfl kS2 rfl ?_)
            | (refine ldSo 6 (by rfl) rfl kS rfl ?_)
            | (refine ldV 7 rfl rfl kA rfl ?_)
            | (refine ldV 8 rfl rfl kB rfl ?_)
            | (refine ldPr 10 (by rfl) rfl kL rfl ?_)
            | (go_at_call 134; refine (HI.out _).mono ?_; rintro e w2 ⟨rfl, hb2⟩; have kS2 := kS.below hb2 kS.lt; obtain ⟨l0, l1⟩ := (kL.below hb2 kL.lt).two)
            | (go_at_call 135; refine (HS.out _).mono ?_; rintro e w3 ⟨rfl, hb3⟩))
          go_ret
          exact ⟨rfl, below_next (below_next hb0 (by simp; omega) hb2) (by have := hb2.size; simp at this; omega) hb3⟩
  · rw [show (decide (1 ≤ d) && decide (d ≤ 12)) = false by simp; omega] at HD
    have HR := Lib.hid (show showS k m lo hi a b d x y so = (decide (x = 0) && decide (y = 0)) by rw [showS, if_neg hd])
    have hz46 : ∀ w : World, (Instr.build 46 #[]).run Tryz.prog w = .ok (.agg #[.int .i64 0, .int .i64 0]) w := fun w => by kernel_rfl
    have heq := run_eql_pair x y 0 0
    clear ok1 ok2 hk hd hW
    go_enter Tryz.func97, Tryz.ntmps97
    go_wp2_with (first
      | go_skip
      | (go_at_call 93; refine (HD.out _).mono ?_; rintro e w1 ⟨rfl, rfl⟩)
      | (refine ldPr 10 (by rfl) rfl kL rfl ?_))
    go_ret
    exact ⟨ret_bool (by rw [HR.out]; rfl), hb0⟩
end Go.Proofs.YtbhiphjifdnhmaaGreatDoor
