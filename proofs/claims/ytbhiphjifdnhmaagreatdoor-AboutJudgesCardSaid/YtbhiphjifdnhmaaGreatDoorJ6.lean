import Derived.Test.YtbhiphjifdnhmaaGreatDoorJ5
set_option linter.unusedSimpArgs false
set_option linter.unusedVariables false
/- The reference's CheckVerdict; the law's sorts and judged. -/
namespace Go.Proofs.YtbhiphjifdnhmaaGreatDoor
open Go.RowKit

theorem info48j (v : Vd) : (Tryz.prog.info? 48).map (·.size) = some (vcs v).size := by show _ = some 6; kernel_rfl
/-- a verdict loaded whole, under a guard or not -/
theorem ldVj {ops : Array Oper} {rest : List Oper} {o : Oper} {a : Act} {w : World} {Q : Exit → Act → World → Prop} (t : Tmp) (hgd : Region.wanted o (yielded ops a.tmps) = true) (ho : o.op = .load 48 (.tmp t))
    {g : Nat} {T : TypeId} {c : Vd} (hB : Blk w g T (vcs c)) (hx : a.eval (.tmp t) = .pointer (some ⟨g, 0, none⟩)) (h : wpList Tryz.prog ops Q rest (a.put o.dst (.agg (vcs c))) w) : wpList Tryz.prog ops Q (o :: rest) a w :=
  wpList_step fun _ hK => by rw [if_pos hgd]; exact wp_load_row 48 _ ho g hx T _ (0, 0) _ hB Tryz.underlying48 rfl (info48j _) (hK _ _ h)
/-- the two numbers in a verdict's middle -/
theorem ldYN {ops : Array Oper} {rest : List Oper} {o : Oper} {a : Act} {w : World} {Q : Exit → Act → World → Prop} (t : Tmp) (hgd : o.guard = none) (ho : o.op = .load 46 (.tmp t))
    {g f : Nat} {T : TypeId} {cs : Array Value} (hB : Blk w g T cs) (x y : Int) (h0 : cs[f]? = some (.int .i64 x)) (h1 : cs[f + 1]? = some (.int .i64 y)) (hx : a.eval (.tmp t) = .pointer (some ⟨g, f, none⟩)) (h : wpList Tryz.prog ops Q rest (a.put o.dst (.agg #[.int .i64 x, .int .i64 y])) w) : wpList Tryz.prog ops Q (o :: rest) a w :=
  wpList_load_mid hgd 46 _ ho g f hx [.int .i64 x, .int .i64 y] _ (fun j v hv => by
    match j with
    | 0 => simp at hv; subst hv; exact (hB.cell f).trans h0
    | 1 => simp at hv; subst hv; exact (hB.cell (f + 1)).trans h1
    | j + 2 => simp at hv) Tryz.underlying46 rfl (by show _ = some 2; kernel_rfl) (by simpa using h)
theorem refE_ok {k m lo hi : Int} {a b : Nat → Int} (h : refE k m lo hi a b = 0) : vok a = true ∧ vok b = true := by
  unfold refE at h
  cases h1 : vok a <;> cases h2 : vok b <;> simp_all
set_option maxRecDepth 100000 in
set_option maxHeartbeats 4000000 in
theorem refCheckV_any (k m lo hi : Int) (hk : k = 0 ∨ k = 1 ∨ k = 2) (a b : Nat → Int) (v : Vd) (w : World) :
    Calls Tryz.prog 53 #[.agg #[.int .i64 k, .int .i64 m, .int .i64 lo, .int .i64 hi], .agg (va a), .agg (va b), .agg (vcs v)] w fun e w' => e = .returned (.int .i64 (refCheck k m lo hi a b v)) ∧ Below w.heap.size w w' := by
  obtain ⟨kS, kA, kB, hb0⟩ := four_blocks k m lo hi a b (.cells (vcs v) 48) w
  have kV : Blk ((((w.alloc (.cells #[.int .i64 k, .int .i64 m, .int .i64 lo, .int .i64 hi] 86)).alloc (.cells (va a) 26)).alloc (.cells (va b) 26)).alloc (.cells (vcs v) 48)) (w.heap.size + 1 + 1 + 1) 48 (vcs v) := Blk.newAt (by simp)
  have hV : Hid (∀ W, Calls Tryz.prog 96 #[.agg #[.int .i64 k, .int .i64 m, .int .i64 lo, .int .i64 hi], .agg (va a), .agg (va b)] W fun e w' => e = .returned (.agg #[.int .i64 (rvC k m lo hi a b), .int .i64 (rvM k m lo hi a b), .int .i64 (refE k m lo hi a b)]) ∧ Below W.heap.size W w') := fun W => refVerdict_any k m lo hi hk a b W
  obtain ⟨E, hE⟩ : ∃ E, E = refE k m lo hi a b := ⟨_, rfl⟩
  obtain ⟨C, hC⟩ : ∃ C, C = rvC k m lo hi a b := ⟨_, rfl⟩
  obtain ⟨M, hM⟩ : ∃ M, M = rvM k m lo hi a b := ⟨_, rfl⟩
  rw [← hE, ← hC, ← hM] at hV
  by_cases h0 : E = 0
  · have hr : refE k m lo hi a b = 0 := by rw [← hE]; exact h0
    have hC2 : C = dCan (canF k m lo hi a b) 12 := by rw [hC, rvC, if_pos hr]
    have hM2 : M = dMust (mustF k m lo hi a b) 12 := by rw [hM, rvM, if_pos hr]
    obtain ⟨oa, ob⟩ := refE_ok hr
    have hl1 := dCan_le (canF k m lo hi a b) 12 (by omega)
    have hl2 := dMust_le (mustF k m lo hi a b) 12 (by omega)
    rw [← hC2] at hl1
    rw [← hM2] at hl2
    obtain ⟨y, hy⟩ : ∃ y, y = showS k m lo hi a b C v.y0 v.y1 true := ⟨_, rfl⟩
    obtain ⟨n, hn⟩ : ∃ n, n = showS k m lo hi a b (M - 1) v.n0 v.n1 false := ⟨_, rfl⟩
    have HR := Lib.hid (show refCheck k m lo hi a b v = if ((v.can = C ∧ v.must = M) ∧ y = true) ∧ n = true then 0 else 8 by rw [refCheck, if_pos hr, ← hC2, ← hM2, ← hy, ← hn])
    have HY : Hid (∀ W, Calls Tryz.prog 97 #[.agg #[.int .i64 k, .int .i64 m, .int .i64 lo, .int .i64 hi], .agg (va a), .agg (va b), .int .i64 C, .agg #[.int .i64 v.y0, .int .i64 v.y1], .bool true] W fun e w' => e = .returned (.bool y) ∧ Below W.heap.size W w') := by
      rw [hy]; exact fun W => refShows_any k m lo hi hk a b (vok_iff.1 oa).all (vok_iff.1 ob).all C v.y0 v.y1 true W
    have HN : Hid (∀ W, Calls Tryz.prog 97 #[.agg #[.int .i64 k, .int .i64 m, .int .i64 lo, .int .i64 hi], .agg (va a), .agg (va b), .int .i64 (M - 1), .agg #[.int .i64 v.n0, .int .i64 v.n1], .bool false] W fun e w' => e = .returned (.bool n) ∧ Below W.heap.size W w') := by
      rw [hn]; exact fun W => refShows_any k m lo hi hk a b (vok_iff.1 oa).all (vok_iff.1 ob).all (M - 1) v.n0 v.n1 false W
    clear hE hC hM hr hC2 hM2 oa ob hy hn hk
    subst h0
    have q1 : IntKind.i64.wrap (M - 1) = M - 1 := IntWalk.i64_in _ (by omega)
    clear hl1 hl2
    obtain ⟨vc, hvc⟩ : ∃ z, z = v.can := ⟨_, rfl⟩
    obtain ⟨vm, hvm⟩ : ∃ z, z = v.must := ⟨_, rfl⟩
    rw [← hvc, ← hvm] at HR
    have KV : Blk ((((w.alloc (.cells #[.int .i64 k, .int .i64 m, .int .i64 lo, .int .i64 hi] 86)).alloc (.cells (va a) 26)).alloc (.cells (va b) 26)).alloc (.cells (vcs v) 48)) (w.heap.size + 1 + 1 + 1) 48 #[.int .i64 vc, .int .i64 vm, .int .i64 v.y0, .int .i64 v.y1, .int .i64 v.n0, .int .i64 v.n1] := by rw [hvc, hvm]; exact kV
    clear kV hvc hvm
    cases y
    all_goals
      cases n
      all_goals
        by_cases g1 : vc = C
        · by_cases g2 : vm = M
          · replace g1 := g1.symm
            replace g2 := g2.symm
            subst g1
            subst g2
            rw [show (if ((C = C ∧ M = M) ∧ _ = true) ∧ _ = true then (0 : Int) else 8) = _ from by first | exact if_pos ⟨⟨⟨rfl, rfl⟩, rfl⟩, rfl⟩ | exact if_neg (by simp)] at HR
            go_enter Tryz.func53, Tryz.ntmps53
            go_wp2_with (first
              | go_skip
              | (refine ldSo 4 (by rfl) rfl kS rfl ?_)
              | (refine ldV 5 rfl rfl kA rfl ?_)
              | (refine ldV 6 rfl rfl kB rfl ?_)
              | (refine ldYN 26 rfl rfl KV v.y0 v.y1 rfl rfl rfl ?_)
              | (refine ldYN 35 rfl rfl KV v.n0 v.n1 rfl rfl rfl ?_)
              | (go_at_call 96; refine (hV.out _).mono ?_; rintro e w1 ⟨rfl, h1⟩; replace hb0 := (below_next hb0 hb0.size h1).alloc (below_next hb0 hb0.size h1).size (.cells #[.int .i64 C, .int .i64 M, .int .i64 0] 140); replace kS := (kS.below h1 kS.lt).alloc (.cells #[.int .i64 C, .int .i64 M, .int .i64 0] 140); replace kA := (kA.below h1 kA.lt).alloc (.cells #[.int .i64 C, .int .i64 M, .int .i64 0] 140); replace kB := (kB.below h1 kB.lt).alloc (.cells #[.int .i64 C, .int .i64 M, .int .i64 0] 140); replace KV := (KV.below h1 KV.lt).alloc (.cells #[.int .i64 C, .int .i64 M, .int .i64 0] 140); have kD := Blk.new w1 140 #[.int .i64 C, .int .i64 M, .int .i64 0]; obtain ⟨z0, z1, z2⟩ := kD.three; clear h1)
              | (go_at_call 97; (with_reducible refine (HY.out _).mono ?_); rintro e w2 ⟨rfl, h2⟩; replace hb0 := below_next hb0 hb0.size h2; replace kS := kS.below h2 kS.lt; replace kA := kA.below h2 kA.lt; replace kB := kB.below h2 kB.lt; replace KV := KV.below h2 KV.lt; replace kD := kD.below h2 kD.lt; replace z0 := keepL h2 z0; replace z1 := keepL h2 z1; clear h2 z2)
              | (go_at_call 97; (with_reducible refine (HN.out _).mono ?_); rintro e w3 ⟨rfl, h3⟩; replace hb0 := below_next hb0 hb0.size h3; replace kS := kS.below h3 kS.lt; replace kA := kA.below h3 kA.lt; replace kB := kB.below h3 kB.lt; replace KV := KV.below h3 KV.lt; replace kD := kD.below h3 kD.lt; replace z0 := keepL h3 z0; replace z1 := keepL h3 z1; have v0 := KV.cell 0; have v1 := KV.cell 1; simp only [List.getElem?_toArray, List.getElem?_cons_zero, List.getElem?_cons_succ] at v0 v1; clear h3))
            go_ret
            exact ⟨ret_int HR.out.symm, hb0⟩
          · replace g1 := g1.symm
            subst g1
            rw [if_neg (fun h => g2 h.1.1.2)] at HR
            have g3 : (vm != M) = true := by simp [g2]
            clear g2
            go_enter Tryz.func53, Tryz.ntmps53
            go_wp2_with (first
              | go_skip
              | (refine ldSo 4 (by rfl) rfl kS rfl ?_)
              | (refine ldV 5 rfl rfl kA rfl ?_)
              | (refine ldV 6 rfl rfl kB rfl ?_)
              | (refine ldYN 26 rfl rfl KV v.y0 v.y1 rfl rfl rfl ?_)
              | (refine ldYN 35 rfl rfl KV v.n0 v.n1 rfl rfl rfl ?_)
              | (go_at_call 96; refine (hV.out _).mono ?_; rintro e w1 ⟨rfl, h1⟩; replace hb0 := (below_next hb0 hb0.size h1).alloc (below_next hb0 hb0.size h1).size (.cells #[.int .i64 C, .int .i64 M, .int .i64 0] 140); replace kS := (kS.below h1 kS.lt).alloc (.cells #[.int .i64 C, .int .i64 M, .int .i64 0] 140); replace kA := (kA.below h1 kA.lt).alloc (.cells #[.int .i64 C, .int .i64 M, .int .i64 0] 140); replace kB := (kB.below h1 kB.lt).alloc (.cells #[.int .i64 C, .int .i64 M, .int .i64 0] 140); replace KV := (KV.below h1 KV.lt).alloc (.cells #[.int .i64 C, .int .i64 M, .int .i64 0] 140); have kD := Blk.new w1 140 #[.int .i64 C, .int .i64 M, .int .i64 0]; obtain ⟨z0, z1, z2⟩ := kD.three; clear h1)
              | (go_at_call 97; (with_reducible refine (HY.out _).mono ?_); rintro e w2 ⟨rfl, h2⟩; replace hb0 := below_next hb0 hb0.size h2; replace kS := kS.below h2 kS.lt; replace kA := kA.below h2 kA.lt; replace kB := kB.below h2 kB.lt; replace KV := KV.below h2 KV.lt; replace kD := kD.below h2 kD.lt; replace z0 := keepL h2 z0; replace z1 := keepL h2 z1; clear h2 z2)
              | (go_at_call 97; (with_reducible refine (HN.out _).mono ?_); rintro e w3 ⟨rfl, h3⟩; replace hb0 := below_next hb0 hb0.size h3; replace kS := kS.below h3 kS.lt; replace kA := kA.below h3 kA.lt; replace kB := kB.below h3 kB.lt; replace KV := KV.below h3 KV.lt; replace kD := kD.below h3 kD.lt; replace z0 := keepL h3 z0; replace z1 := keepL h3 z1; have v0 := KV.cell 0; have v1 := KV.cell 1; simp only [List.getElem?_toArray, List.getElem?_cons_zero, List.getElem?_cons_succ] at v0 v1; clear h3))
            go_ret
            exact ⟨ret_int HR.out.symm, hb0⟩
        · rw [if_neg (fun h => g1 h.1.1.1)] at HR
          have g3 : (vc != C) = true := by simp [g1]
          clear g1
          go_enter Tryz.func53, Tryz.ntmps53
          go_wp2_with (first
            | go_skip
            | (refine ldSo 4 (by rfl) rfl kS rfl ?_)
            | (refine ldV 5 rfl rfl kA rfl ?_)
            | (refine ldV 6 rfl rfl kB rfl ?_)
            | (refine ldYN 26 rfl rfl KV v.y0 v.y1 rfl rfl rfl ?_)
            | (refine ldYN 35 rfl rfl KV v.n0 v.n1 rfl rfl rfl ?_)
            | (go_at_call 96; refine (hV.out _).mono ?_; rintro e w1 ⟨rfl, h1⟩; replace hb0 := (below_next hb0 hb0.size h1).alloc (below_next hb0 hb0.size h1).size (.cells #[.int .i64 C, .int .i64 M, .int .i64 0] 140); replace kS := (kS.below h1 kS.lt).alloc (.cells #[.int .i64 C, .int .i64 M, .int .i64 0] 140); replace kA := (kA.below h1 kA.lt).alloc (.cells #[.int .i64 C, .int .i64 M, .int .i64 0] 140); replace kB := (kB.below h1 kB.lt).alloc (.cells #[.int .i64 C, .int .i64 M, .int .i64 0] 140); replace KV := (KV.below h1 KV.lt).alloc (.cells #[.int .i64 C, .int .i64 M, .int .i64 0] 140); have kD := Blk.new w1 140 #[.int .i64 C, .int .i64 M, .int .i64 0]; obtain ⟨z0, z1, z2⟩ := kD.three; clear h1)
            | (go_at_call 97; (with_reducible refine (HY.out _).mono ?_); rintro e w2 ⟨rfl, h2⟩; replace hb0 := below_next hb0 hb0.size h2; replace kS := kS.below h2 kS.lt; replace kA := kA.below h2 kA.lt; replace kB := kB.below h2 kB.lt; replace KV := KV.below h2 KV.lt; replace kD := kD.below h2 kD.lt; replace z0 := keepL h2 z0; replace z1 := keepL h2 z1; clear h2 z2)
            | (go_at_call 97; (with_reducible refine (HN.out _).mono ?_); rintro e w3 ⟨rfl, h3⟩; replace hb0 := below_next hb0 hb0.size h3; replace kS := kS.below h3 kS.lt; replace kA := kA.below h3 kA.lt; replace kB := kB.below h3 kB.lt; replace KV := KV.below h3 KV.lt; replace kD := kD.below h3 kD.lt; replace z0 := keepL h3 z0; replace z1 := keepL h3 z1; have v0 := KV.cell 0; have v1 := KV.cell 1; simp only [List.getElem?_toArray, List.getElem?_cons_zero, List.getElem?_cons_succ] at v0 v1; clear h3))
          go_ret
          exact ⟨ret_int HR.out.symm, hb0⟩
  · have HR := Lib.hid (show refCheck k m lo hi a b v = E by rw [refCheck, if_neg (by rw [← hE]; exact h0), ← hE])
    have g0 : (E != 0) = true := by simp [h0]
    clear hE hC hM h0
    go_enter Tryz.func53, Tryz.ntmps53
    go_wp2_with (first
      | go_skip
      | (refine ldSo 4 (by rfl) rfl kS rfl ?_)
      | (refine ldV 5 rfl rfl kA rfl ?_)
      | (refine ldV 6 rfl rfl kB rfl ?_)
      | (go_at_call 96; refine (hV.out _).mono ?_; rintro e w1 ⟨rfl, h1⟩; replace hb0 := (below_next hb0 hb0.size h1).alloc (below_next hb0 hb0.size h1).size (.cells #[.int .i64 C, .int .i64 M, .int .i64 E] 140); have kD := Blk.new w1 140 #[.int .i64 C, .int .i64 M, .int .i64 E]; obtain ⟨z0, z1, z2⟩ := kD.three))
    go_ret
    exact ⟨ret_int HR.out.symm, hb0⟩
end Go.Proofs.YtbhiphjifdnhmaaGreatDoor
