import Derived.Test.YtnjmkdgglpcfpaaC5
namespace Go.Proofs.Ytnjmkdgglpcfpaa
set_option linter.unusedSimpArgs false
set_option linter.unusedVariables false
open Go.RowKit

theorem gap_ref {C : Int} {l : List Int} {k m : Nat} (h : Rise C l) (hk : k < l.length) (hm : m < l.length) (hmk : (k + 1 < l.length ∧ m = k + 1) ∨ (¬ k + 1 < l.length ∧ m = 0)) : gapAt C l k = if (l[m] + -l[k]) % C = 0 then C else (l[m] + -l[k]) % C := by
  have hp := List.pairwise_iff_getElem.1 h.1
  have hx := h.2 _ (List.getElem_mem hk)
  have hy := h.2 _ (List.getElem_mem hm)
  have e2 : l.getD k 0 = l[k] := by simp [List.getD, hk]
  unfold gapAt
  rcases hmk with ⟨h1, rfl⟩ | ⟨h1, rfl⟩
  · have hlt := hp k (k + 1) hk h1 (by omega)
    have e1 : l.getD (k + 1) 0 = l[k + 1] := by simp [List.getD, h1]
    have e3 : (l[k + 1] + -l[k]) % C = l[k + 1] - l[k] := by rw [← Int.sub_eq_add_neg]; exact Int.emod_eq_of_lt (by omega) (by omega)
    rw [if_pos h1, e1, e2, e3, if_neg (by omega)]
  · have e1 : l.getD 0 0 = l[0] := by simp [List.getD, hm]
    rw [if_neg h1, e1, e2]
    by_cases hk0 : k = 0
    · subst hk0
      rw [show l[0] + -l[0] = 0 by omega, Int.zero_emod, if_pos rfl]
      omega
    · have hlt := hp 0 k hm hk (by omega)
      have e3 : (l[0] + -l[k]) % C = l[0] - l[k] + C := emod_of (k := -1) (by omega) (by omega) (by omega)
      rw [e3, if_neg (by omega)]
      omega

set_option maxRecDepth 100000 in
set_option maxHeartbeats 4000000 in
theorem refGaps_any (C R B F : Int) (A : Option Addr) (cap : Nat) (cl : List Int) (D : Option Addr) (dap : Nat) (l : List Int) (w : World) (hcl : cl.length ≤ 1000000) (hll : l.length ≤ 1000000) (hr : Ints w w.heap.size A cl) (hl : Ints w w.heap.size D l) :
    Calls Try.prog 50 #[.agg #[.int .i64 C, .int .i64 R, .int .i64 B, .int .i64 F, .slice A cl.length cap], .slice D l.length dap] w (RetIntsE w (if gapErr C R B F cl l = 0 then gapsTo C l l.length else []) (gapErr C R B F cl l)) := by
  have hb0 : Below w.heap.size w ((w.alloc (.cells #[.int .i64 C, .int .i64 R, .int .i64 B, .int .i64 F, .slice A cl.length cap] 24)).alloc (.cells #[.slice none 0 0, .int .i64 0] 36)) := (below_new w (.cells #[.int .i64 C, .int .i64 R, .int .i64 B, .int .i64 F, .slice A cl.length cap] 24)).alloc (by simp) _
  have hbk : Blk ((w.alloc (.cells #[.int .i64 C, .int .i64 R, .int .i64 B, .int .i64 F, .slice A cl.length cap] 24)).alloc (.cells #[.slice none 0 0, .int .i64 0] 36)) w.heap.size 24 #[.int .i64 C, .int .i64 R, .int .i64 B, .int .i64 F, .slice A cl.length cap] := (Blk.new _ _ _).alloc _
  have hbq : Blk ((w.alloc (.cells #[.int .i64 C, .int .i64 R, .int .i64 B, .int .i64 F, .slice A cl.length cap] 24)).alloc (.cells #[.slice none 0 0, .int .i64 0] 36)) (w.heap.size + 1) 36 #[.slice none 0 0, .int .i64 0] := Blk.newAt (by simp)
  have hr1 := hr.behind hb0
  have hl1 := hl.behind hb0
  by_cases hok : Ok C R B F cl
  case neg =>
    obtain ⟨n1, n2⟩ := chk_ne hok
    have he : gapErr C R B F cl l = chk C R B F cl := if_pos fun e => hok (chk_ok.1 e)
    rw [he, if_neg fun e => hok (chk_ok.1 e)]
    clear hok he
    go_enter Try.func50, Try.ntmps50
    go_wp2_with (first
      | (go_at_call 27; refine (refCheck_any C R B F A cap cl _ hcl hr1).mono ?_; rintro e w1 ⟨rfl, hb1⟩; have hbq1 := hbq.below hb1 (by simp); obtain ⟨m0, m1, m2, m3⟩ : w1.cell? ⟨w.heap.size + 1, 0, none⟩ = some (.slice none 0 0) ∧ w1.cell? ⟨w.heap.size + 1, 1, none⟩ = some (.int .i64 0) ∧ w1.frozen? ⟨w.heap.size + 1, 0, none⟩ = false ∧ w1.frozen? ⟨w.heap.size + 1, 1, none⟩ = false := ⟨hbq1.cell 0, hbq1.cell 1, hbq1.frozen 0, hbq1.frozen 1⟩))
    refine bodyPost_ret (v := .agg #[.slice none 0 0, .int .i64 (chk C R B F cl)]) (results_cell_row (g := w.heap.size + 1) rfl _ _ 36 _ (0, 0) _ rfl ((hbq1.store 0 (.slice none 0 0)).store 1 (.int .i64 (chk C R B F cl))) Try.underlying36 rfl info36) rfl ?_
    exact ⟨none, 0, rfl, Nat.le_refl _, by simp [maxLen], Ints.nil, ((below_next hb0 (by simp; omega) hb1).setCell (p := ⟨w.heap.size + 1, 0, none⟩) (by simp) _).setCell (p := ⟨w.heap.size + 1, 1, none⟩) (by simp) _⟩
  case pos =>
  have hz : Hid (chk C R B F cl = 0) := chk_ok.2 hok
  have he : gapErr C R B F cl l = standsErr C cl l := if_neg fun e => e (chk_ok.2 hok)
  rw [he]
  clear he
  have q1 := hok.c3
  have q2 := hok.c120
  have hC1 : 1 ≤ C := by omega
  by_cases hs : standsErr C cl l = 0
  case neg =>
    have n1 : (standsErr C cl l == 0) = false := by simpa using hs
    have n2 : (standsErr C cl l != 0) = true := by simpa using hs
    rw [if_neg hs]
    clear hs
    go_enter Try.func50, Try.ntmps50
    go_wp2_with (first
      | (go_at_call 27; refine (refCheck_any C R B F A cap cl _ hcl hr1).mono ?_; rw [hz.out]; rintro e w1 ⟨rfl, hb1⟩; have hbk1 := hbk.below hb1 (by simp; omega); have hbq1 := hbq.below hb1 (by simp); obtain ⟨d0, d1, d2, d3, d4⟩ := hbk1.five)
      | (go_at_call 82; refine (stood_any C R B F A cap cl D dap l _ hC1 q2 hcl hll (hr1.behind hb1) (hl1.behind hb1)).mono ?_; rintro e w2 ⟨rfl, hb2⟩; have hbq2 := hbq1.below hb2 hbq1.lt; obtain ⟨m0, m1, m2, m3⟩ : w2.cell? ⟨w.heap.size + 1, 0, none⟩ = some (.slice none 0 0) ∧ w2.cell? ⟨w.heap.size + 1, 1, none⟩ = some (.int .i64 0) ∧ w2.frozen? ⟨w.heap.size + 1, 0, none⟩ = false ∧ w2.frozen? ⟨w.heap.size + 1, 1, none⟩ = false := ⟨hbq2.cell 0, hbq2.cell 1, hbq2.frozen 0, hbq2.frozen 1⟩))
    refine bodyPost_ret (v := .agg #[.slice none 0 0, .int .i64 (standsErr C cl l)]) (results_cell_row (g := w.heap.size + 1) rfl _ _ 36 _ (0, 0) _ rfl ((hbq2.store 0 (.slice none 0 0)).store 1 (.int .i64 (standsErr C cl l))) Try.underlying36 rfl info36) rfl ?_
    exact ⟨none, 0, rfl, Nat.le_refl _, by simp [maxLen], Ints.nil, ((below_next (below_next hb0 (by simp; omega) hb1) (by have := hb1.size; simp at this; omega) hb2).setCell (p := ⟨w.heap.size + 1, 0, none⟩) (by simp) _).setCell (p := ⟨w.heap.size + 1, 1, none⟩) (by simp) _⟩
  case pos =>
  obtain ⟨hl200, hrise, _⟩ := standsErr_zero hs
  have HR : Hid (Rise C l) := hrise
  have HS := Lib.hid hs
  rw [if_pos hs, hs]
  clear hs hrise hok
  go_enter Try.func50, Try.ntmps50
  go_wp2_with (first
    | (go_at_call 27; refine (refCheck_any C R B F A cap cl _ hcl hr1).mono ?_; rw [hz.out]; rintro e w1 ⟨rfl, hb1⟩; have hbk1 := hbk.below hb1 (by simp; omega); have hbq1 := hbq.below hb1 (by simp); obtain ⟨d0, d1, d2, d3, d4⟩ := hbk1.five)
    | (go_at_call 82; refine (stood_any C R B F A cap cl D dap l _ hC1 q2 hcl hll (hr1.behind hb1) (hl1.behind hb1)).mono ?_; rw [HS.out]; rintro e w2 ⟨rfl, hb2⟩))
  have hbk2 := hbk1.below hb2 hbk1.lt
  have hbq2 := hbq1.below hb2 hbq1.lt
  have hba := below_next (below_next hb0 (by simp; omega) hb1) (by have := hb1.size; simp at this; omega) hb2
  have hbG : Below w.heap.size w (w2.alloc (.cells #[.slice none 0 0, .int .i64 0] 36)) := hba.alloc hba.size _
  have hbkG := hbk2.alloc (.cells #[.slice none 0 0, .int .i64 0] 36)
  have hbqG := hbq2.alloc (.cells #[.slice none 0 0, .int .i64 0] 36)
  have hbgG := Blk.new w2 36 #[.slice none 0 0, .int .i64 0]
  have hgw : w.heap.size + 1 < w2.heap.size := hbq2.lt
  clear hr1 hl1 hb0 hb1 hb2 hbk hbk1 hbq hbq1 d0 d1 d2 d3 d4 hr hba hbk2 hbq2
  go_loopw [7] (fun i wr => ∃ (k : Nat) (A' : Option Addr) (c' : Nat), k ≤ l.length ∧ i = .int .i64 k ∧ Below w.heap.size w wr ∧ Blk wr w.heap.size 24 #[.int .i64 C, .int .i64 R, .int .i64 B, .int .i64 F, .slice A cl.length cap] ∧ Blk wr (w.heap.size + 1) 36 #[.slice none 0 0, .int .i64 0] ∧ Blk wr w2.heap.size 36 #[.slice A' (gapsTo C l k).length c', .int .i64 0] ∧ w2.heap.size + 1 ≤ wr.heap.size ∧ wr.ownsRow (w2.heap.size + 1) 3 1 (.slice A' (gapsTo C l k).length c') (gapsTo C l k).length ((gapsTo C l k).map (Value.int .i64)))
    (fun i _ => l.length - (intOf i).toNat)
  case atStart => exact ⟨0, none, 0, Nat.zero_le _, rfl, hbG, hbkG, hbqG, hbgG, by simp, World.ownsRow_nil _ _ _ _⟩
  case round =>
    clear hbG hbkG hbqG hbgG
    obtain ⟨k, A', c', hk, rfl, hb, hbk, hbq, hbg, hzr, hown⟩ := hrel
    obtain ⟨d0, d1, d2, d3, d4⟩ := hbk.five
    by_cases hlt : k < l.length
    · obtain ⟨ad, hA, hadb, hce⟩ := (hl.below hb).get hlt
      subst hA
      have hx := HR.out.2 _ (List.getElem_mem hlt)
      have hlt2 : (k : Int) < (l.length : Int) := by omega
      have hadl : (ad.add k).block < wr.heap.size := by rw [addr_block]; have := hb.size; omega
      have HG := Lib.hid (gapsTo_succ C l k)
      have hgl : (gapsTo C l k).length ≤ 200 := by rw [gapsTo_len]; omega
      generalize gapsTo C l k = gs at *
      by_cases hn : k + 1 < l.length
      ·
        have hml : k + 1 < l.length := by omega
        obtain ⟨ad', hA', hadb', hcm⟩ := (hl.below hb).get hml
        cases hA'
        rw [addr_succ] at hcm
        have hy := HR.out.2 _ (List.getElem_mem hml)
        have HG0 := Lib.hid (gap_ref HR.out hlt hml (.inl ⟨hn, rfl⟩))
        have t1 : ((k : Int) + 1) % (l.length : Int) = (k : Int) + 1 := Int.emod_eq_of_lt (by omega) (by omega)
        have t2 : ((k : Int) + 1).tmod (l.length : Int) = (k : Int) + 1 := by rw [Int.tmod_eq_emod_of_nonneg (by omega)]; exact t1
        have t3 : IntKind.i64.wrap ((k : Int) + 1) = (k : Int) + 1 := IntWalk.i64_in _ (by omega)
        have t4 : ((l.length : Int) == 0) = false := beq_eq_false_iff_ne.2 (by omega)
        have t5 : ((k : Int) + 1).toNat = k + 1 := by omega
        have t6 : (k : Int) + 1 < (l.length : Int) := by omega
        have t7 : (0 : Int) ≤ (k : Int) + 1 := by omega
        have t8 : k + 1 < l.length := hn
        have n0 := Int.emod_nonneg (l[k + 1] + -l[k]) (b := C) (by omega)
        have n1 := Int.emod_lt_of_pos (l[k + 1] + -l[k]) (b := C) (by omega)
        generalize l[k] = x at *
        generalize l[k + 1] = y at *
        generalize hnn : (y + -x) % C = n at *
        have HN := Lib.hid hnn
        clear hnn
        have w1' : IntKind.i64.wrap (-x) = -x := IntWalk.i64_in _ (by omega)
        have w2' : IntKind.i64.wrap (0 - x) = -x := by rw [Int.zero_sub]; exact w1'
        go_wp2_with fail
        go_region_held3 (fun w' => w'.cell? ⟨w.heap.size, 0, none⟩ = some (.int .i64 C) ∧ w'.cell? ⟨w.heap.size, 1, none⟩ = some (.int .i64 R) ∧ w'.cell? ⟨w.heap.size, 2, none⟩ = some (.int .i64 B) ∧ w'.cell? ⟨w.heap.size, 3, none⟩ = some (.int .i64 F) ∧ w'.cell? ⟨w.heap.size, 4, none⟩ = some (.slice A cl.length cap) ∧ w'.cell? (ad.add k) = some (.int .i64 x)) (first | exact K1 | exact ⟨d0, d1, d2, d3, d4, hce⟩ | go_keep)
          (first
            | (go_at_call 73; refine (refFurther_any C R B F _ y (-x) _ hC1 q2 hy.1 hy.2 (by omega) (by omega)).mono ?_; rw [HN.out]; rintro e w5 ⟨rfl, hb5⟩; have hb5x : Below wr.heap.size wr w5 := (by first | exact hb5 | exact (Below.refl _ _).drew.trans hb5); have hbk5 := hbk.below hb5x hbk.lt; have hbq5 := hbq.below hb5x hbq.lt; have hbg5 := hbg.below hb5x hbg.lt; have hbb := below_next hb hb.size hb5x; have K1 : w5.cell? ⟨w.heap.size, 0, none⟩ = some (.int .i64 C) ∧ w5.cell? ⟨w.heap.size, 1, none⟩ = some (.int .i64 R) ∧ w5.cell? ⟨w.heap.size, 2, none⟩ = some (.int .i64 B) ∧ w5.cell? ⟨w.heap.size, 3, none⟩ = some (.int .i64 F) ∧ w5.cell? ⟨w.heap.size, 4, none⟩ = some (.slice A cl.length cap) ∧ w5.cell? (ad.add k) = some (.int .i64 x) := ⟨hbk5.cell 0, hbk5.cell 1, hbk5.cell 2, hbk5.cell 3, hbk5.cell 4, (hb5x.cell hadl).trans hce⟩))
        all_goals (
          obtain ⟨c0, c1, c2, c3, c4⟩ := hbk5.five
          have u0 := hbg5.cell 0
          have u1 := hbg5.frozen 0
          by_cases hn0 : n = 0
          · have z1 : (n == 0) = true := by simpa using hn0
            have hf2 := HG0.out
            rw [if_pos hn0] at hf2
            go_wp2_with (first
              | (at_builtin; refine app1 (by rfl) _ _ (by rfl) (w2.heap.size + 1) gs C _ (by rfl) (own_below hown hb5x) (by rfl) (by omega) (by have := hb5x.size; omega) ?_; intro A8 c8 w8 hown8 hb8; have hbg8 := hbg5.below hb8 (by omega); have u08 := hbg8.cell 0; have u18 := hbg8.frozen 0; have hbb8 : Below w.heap.size w w8 := hbb.trans (hb8.mono (by omega)); have hbk8 := hbk5.below hb8 (by omega); have hbq8 := hbq5.below hb8 (by omega); have hz8 := hb8.size; have hz5 := hb5x.size))
            go_roundw
            case rel =>
              refine ⟨k + 1, A8, c8, by omega, by go_num, hbb8.setCell (p := ⟨w2.heap.size, 0, none⟩) (by simp; omega) _, hbk8.far (p := ⟨w2.heap.size, 0, none⟩) (by simp; omega) _, hbq8.far (p := ⟨w2.heap.size, 0, none⟩) (by simp; omega) _, ?_, by simp [World.setCell]; omega, ?_⟩
              · have h9 := hbg8.store 0 (.slice A8 (gs.length + 1) c8)
                rw [HG.out, hf2, show (gs ++ [C]).length = gs.length + 1 by simp]
                exact h9
              · rw [HG.out, hf2]; exact ownsRow_setCell_below hown8 (a := ⟨w2.heap.size, 0, none⟩) (show w2.heap.size < w2.heap.size + 1 by omega) _
            case measure => simp [intOf]; try omega
          · have z1 : (n == 0) = false := by simpa using hn0
            have hf2 := HG0.out
            rw [if_neg hn0] at hf2
            go_wp2_with (first
              | (at_builtin; refine app1 (by rfl) _ _ (by rfl) (w2.heap.size + 1) gs n _ (by rfl) (own_below hown hb5x) (by rfl) (by omega) (by have := hb5x.size; omega) ?_; intro A8 c8 w8 hown8 hb8; have hbg8 := hbg5.below hb8 (by omega); have u08 := hbg8.cell 0; have u18 := hbg8.frozen 0; have hbb8 : Below w.heap.size w w8 := hbb.trans (hb8.mono (by omega)); have hbk8 := hbk5.below hb8 (by omega); have hbq8 := hbq5.below hb8 (by omega); have hz8 := hb8.size; have hz5 := hb5x.size))
            go_roundw
            case rel =>
              refine ⟨k + 1, A8, c8, by omega, by go_num, hbb8.setCell (p := ⟨w2.heap.size, 0, none⟩) (by simp; omega) _, hbk8.far (p := ⟨w2.heap.size, 0, none⟩) (by simp; omega) _, hbq8.far (p := ⟨w2.heap.size, 0, none⟩) (by simp; omega) _, ?_, by simp [World.setCell]; omega, ?_⟩
              · have h9 := hbg8.store 0 (.slice A8 (gs.length + 1) c8)
                rw [HG.out, hf2, show (gs ++ [n]).length = gs.length + 1 by simp]
                exact h9
              · rw [HG.out, hf2]; exact ownsRow_setCell_below hown8 (a := ⟨w2.heap.size, 0, none⟩) (show w2.heap.size < w2.heap.size + 1 by omega) _
            case measure => simp [intOf]; try omega
          )
      ·
        have hml : 0 < l.length := by omega
        obtain ⟨ad', hA', hadb', hcm⟩ := (hl.below hb).get hml
        cases hA'
        rw [addr_zero] at hcm
        have hy := HR.out.2 _ (List.getElem_mem hml)
        have HG0 := Lib.hid (gap_ref HR.out hlt hml (.inr ⟨hn, rfl⟩))
        have t1 : ((k : Int) + 1) % (l.length : Int) = 0 := by rw [show (k : Int) + 1 = (l.length : Int) by omega]; exact Int.emod_self
        have t2 : ((k : Int) + 1).tmod (l.length : Int) = 0 := by rw [Int.tmod_eq_emod_of_nonneg (by omega)]; exact t1
        have t3 : IntKind.i64.wrap ((k : Int) + 1) = (k : Int) + 1 := IntWalk.i64_in _ (by omega)
        have t4 : ((l.length : Int) == 0) = false := beq_eq_false_iff_ne.2 (by omega)
        skip
        have t6 : (0 : Int) < (l.length : Int) := by omega
        have t7 : 0 < l.length := by omega
        skip
        have n0 := Int.emod_nonneg (l[0] + -l[k]) (b := C) (by omega)
        have n1 := Int.emod_lt_of_pos (l[0] + -l[k]) (b := C) (by omega)
        generalize l[k] = x at *
        generalize l[0] = y at *
        generalize hnn : (y + -x) % C = n at *
        have HN := Lib.hid hnn
        clear hnn
        have w1' : IntKind.i64.wrap (-x) = -x := IntWalk.i64_in _ (by omega)
        have w2' : IntKind.i64.wrap (0 - x) = -x := by rw [Int.zero_sub]; exact w1'
        go_wp2_with fail
        go_region_held3 (fun w' => w'.cell? ⟨w.heap.size, 0, none⟩ = some (.int .i64 C) ∧ w'.cell? ⟨w.heap.size, 1, none⟩ = some (.int .i64 R) ∧ w'.cell? ⟨w.heap.size, 2, none⟩ = some (.int .i64 B) ∧ w'.cell? ⟨w.heap.size, 3, none⟩ = some (.int .i64 F) ∧ w'.cell? ⟨w.heap.size, 4, none⟩ = some (.slice A cl.length cap) ∧ w'.cell? (ad.add k) = some (.int .i64 x)) (first | exact K1 | exact ⟨d0, d1, d2, d3, d4, hce⟩ | go_keep)
          (first
            | (go_at_call 73; refine (refFurther_any C R B F _ y (-x) _ hC1 q2 hy.1 hy.2 (by omega) (by omega)).mono ?_; rw [HN.out]; rintro e w5 ⟨rfl, hb5⟩; have hb5x : Below wr.heap.size wr w5 := (by first | exact hb5 | exact (Below.refl _ _).drew.trans hb5); have hbk5 := hbk.below hb5x hbk.lt; have hbq5 := hbq.below hb5x hbq.lt; have hbg5 := hbg.below hb5x hbg.lt; have hbb := below_next hb hb.size hb5x; have K1 : w5.cell? ⟨w.heap.size, 0, none⟩ = some (.int .i64 C) ∧ w5.cell? ⟨w.heap.size, 1, none⟩ = some (.int .i64 R) ∧ w5.cell? ⟨w.heap.size, 2, none⟩ = some (.int .i64 B) ∧ w5.cell? ⟨w.heap.size, 3, none⟩ = some (.int .i64 F) ∧ w5.cell? ⟨w.heap.size, 4, none⟩ = some (.slice A cl.length cap) ∧ w5.cell? (ad.add k) = some (.int .i64 x) := ⟨hbk5.cell 0, hbk5.cell 1, hbk5.cell 2, hbk5.cell 3, hbk5.cell 4, (hb5x.cell hadl).trans hce⟩))
        all_goals (
          obtain ⟨c0, c1, c2, c3, c4⟩ := hbk5.five
          have u0 := hbg5.cell 0
          have u1 := hbg5.frozen 0
          by_cases hn0 : n = 0
          · have z1 : (n == 0) = true := by simpa using hn0
            have hf2 := HG0.out
            rw [if_pos hn0] at hf2
            go_wp2_with (first
              | (at_builtin; refine app1 (by rfl) _ _ (by rfl) (w2.heap.size + 1) gs C _ (by rfl) (own_below hown hb5x) (by rfl) (by omega) (by have := hb5x.size; omega) ?_; intro A8 c8 w8 hown8 hb8; have hbg8 := hbg5.below hb8 (by omega); have u08 := hbg8.cell 0; have u18 := hbg8.frozen 0; have hbb8 : Below w.heap.size w w8 := hbb.trans (hb8.mono (by omega)); have hbk8 := hbk5.below hb8 (by omega); have hbq8 := hbq5.below hb8 (by omega); have hz8 := hb8.size; have hz5 := hb5x.size))
            go_roundw
            case rel =>
              refine ⟨k + 1, A8, c8, by omega, by go_num, hbb8.setCell (p := ⟨w2.heap.size, 0, none⟩) (by simp; omega) _, hbk8.far (p := ⟨w2.heap.size, 0, none⟩) (by simp; omega) _, hbq8.far (p := ⟨w2.heap.size, 0, none⟩) (by simp; omega) _, ?_, by simp [World.setCell]; omega, ?_⟩
              · have h9 := hbg8.store 0 (.slice A8 (gs.length + 1) c8)
                rw [HG.out, hf2, show (gs ++ [C]).length = gs.length + 1 by simp]
                exact h9
              · rw [HG.out, hf2]; exact ownsRow_setCell_below hown8 (a := ⟨w2.heap.size, 0, none⟩) (show w2.heap.size < w2.heap.size + 1 by omega) _
            case measure => simp [intOf]; try omega
          · have z1 : (n == 0) = false := by simpa using hn0
            have hf2 := HG0.out
            rw [if_neg hn0] at hf2
            go_wp2_with (first
              | (at_builtin; refine app1 (by rfl) _ _ (by rfl) (w2.heap.size + 1) gs n _ (by rfl) (own_below hown hb5x) (by rfl) (by omega) (by have := hb5x.size; omega) ?_; intro A8 c8 w8 hown8 hb8; have hbg8 := hbg5.below hb8 (by omega); have u08 := hbg8.cell 0; have u18 := hbg8.frozen 0; have hbb8 : Below w.heap.size w w8 := hbb.trans (hb8.mono (by omega)); have hbk8 := hbk5.below hb8 (by omega); have hbq8 := hbq5.below hb8 (by omega); have hz8 := hb8.size; have hz5 := hb5x.size))
            go_roundw
            case rel =>
              refine ⟨k + 1, A8, c8, by omega, by go_num, hbb8.setCell (p := ⟨w2.heap.size, 0, none⟩) (by simp; omega) _, hbk8.far (p := ⟨w2.heap.size, 0, none⟩) (by simp; omega) _, hbq8.far (p := ⟨w2.heap.size, 0, none⟩) (by simp; omega) _, ?_, by simp [World.setCell]; omega, ?_⟩
              · have h9 := hbg8.store 0 (.slice A8 (gs.length + 1) c8)
                rw [HG.out, hf2, show (gs ++ [n]).length = gs.length + 1 by simp]
                exact h9
              · rw [HG.out, hf2]; exact ownsRow_setCell_below hown8 (a := ⟨w2.heap.size, 0, none⟩) (show w2.heap.size < w2.heap.size + 1 by omega) _
            case measure => simp [intOf]; try omega
          )
    · obtain rfl : k = l.length := by omega
      have u0 := hbg.cell 0
      have u1 := hbg.cell 1
      obtain ⟨m0, m1, m2, m3⟩ : wr.cell? ⟨w.heap.size + 1, 0, none⟩ = some (.slice none 0 0) ∧ wr.cell? ⟨w.heap.size + 1, 1, none⟩ = some (.int .i64 0) ∧ wr.frozen? ⟨w.heap.size + 1, 0, none⟩ = false ∧ wr.frozen? ⟨w.heap.size + 1, 1, none⟩ = false := ⟨hbq.cell 0, hbq.cell 1, hbq.frozen 0, hbq.frozen 1⟩
      go_wp2_with fail
      obtain ⟨s1, s2, _⟩ := own_facts hown
      refine bodyPost_ret (v := .agg #[.slice A' (gapsTo C l l.length).length c', .int .i64 0]) (results_cell_row (g := w.heap.size + 1) rfl _ _ 36 _ (0, 0) _ rfl ((hbq.store 0 (.slice A' (gapsTo C l l.length).length c')).store 1 (.int .i64 0)) Try.underlying36 rfl info36) rfl ?_
      exact ⟨A', c', rfl, s1, s2, Ints.of_own (ownsRow_setCell_below (ownsRow_setCell_below hown (a := ⟨w.heap.size + 1, 0, none⟩) (show w.heap.size + 1 < w2.heap.size + 1 by omega) _) (a := ⟨w.heap.size + 1, 1, none⟩) (show w.heap.size + 1 < w2.heap.size + 1 by omega) _), (hb.setCell (p := ⟨w.heap.size + 1, 0, none⟩) (by simp) _).setCell (p := ⟨w.heap.size + 1, 1, none⟩) (by simp) _⟩

end Go.Proofs.Ytnjmkdgglpcfpaa
