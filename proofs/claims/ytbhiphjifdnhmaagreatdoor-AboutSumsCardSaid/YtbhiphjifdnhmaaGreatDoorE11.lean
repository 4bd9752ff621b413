import Derived.Test.YtbhiphjifdnhmaaGreatDoorE2
set_option linter.unusedSimpArgs false
set_option linter.unusedVariables false
/- AboutSums. -/
namespace Go.Proofs.YtbhiphjifdnhmaaGreatDoor
open Go.RowKit Go.Maps
set_option linter.unusedSimpArgs false

set_option maxRecDepth 100000 in
set_option maxHeartbeats 8000000 in
theorem law11_in (hS : Hid SanityIs) (a b X1 X2 X3 X4 : Nat → Int) (E1 E2 E3 E4 N C : Int) (B : Bool) (w0 : World)
    (H1 : Hid (∀ W, Calls Tryz.prog 16 #[.agg (va a), .agg (va b)] W (RetV W X1 E1))) (R1 : Hid (∀ W, Calls Tryz.prog 44 #[.agg (va a), .agg (va b)] W (RetMd W X1 E1)))
    (H2 : Hid (∀ W, Calls Tryz.prog 17 #[.agg (va a), .agg (va b)] W (RetV W X2 E2))) (R2 : Hid (∀ W, Calls Tryz.prog 45 #[.agg (va a), .agg (va b)] W (RetMd W X2 E2)))
    (H3 : Hid (∀ W, Calls Tryz.prog 18 #[.agg (va a), .agg (va b)] W fun e w' => e = .returned (.tuple #[.agg (va X3), .int .i64 N, .int .i64 E3]) ∧ Below W.heap.size W w')) (R3 : Hid (∀ W, Calls Tryz.prog 46 #[.agg (va a), .agg (va b)] W (RetJo W X3 N E3)))
    (H4 : Hid (∀ W, Calls Tryz.prog 19 #[.agg (va a), .agg (va b)] W (RetV W X4 E4))) (R4 : Hid (∀ W, Calls Tryz.prog 47 #[.agg (va a), .agg (va b)] W (RetMd W X4 E4)))
    (H5 : Hid (∀ W, Calls Tryz.prog 24 #[.agg (va a), .agg (va b)] W fun e w' => e = .returned (.tuple #[.bool B, .int .i64 C]) ∧ Below W.heap.size W w')) (R5 : Hid (∀ W, Calls Tryz.prog 48 #[.agg (va a), .agg (va b)] W fun e w' => e = .returned (.tuple #[.bool B, .int .i64 C]) ∧ Below W.heap.size W w')) :
    Calls Tryz.prog 11 #[.agg (va a), .agg (va b)] w0 fun e w' => e = .returned (.bool true) ∧ Below w0.heap.size w0 w' := by
  have hK : AllB ((w0.alloc (.cells (va a) 26)).alloc (.cells (va b) 26)) [(w0.heap.size, 26, va a), (w0.heap.size + 1, 26, va b)] := by
    intro q hq
    simp only [List.mem_cons, List.not_mem_nil, or_false] at hq
    rcases hq with rfl | rfl
    · exact ((Blk.new _ _ _).alloc _)
    · exact (Blk.newAt (by simp))
  have hW : Below w0.heap.size w0 ((w0.alloc (.cells (va a) 26)).alloc (.cells (va b) 26)) := (below_new _ _).alloc (by simp) _
  go_enter Tryz.func11, Tryz.ntmps11
  go_upto_region 11 with (first
    | go_skip
    | (refine ldV 2 rfl rfl (hK.get 0 rfl) rfl ?_)
    | (refine ldV 3 rfl rfl (hK.get 1 rfl) rfl ?_)
    | (go_at_call 16; refine (H1.out _).mono ?_; rintro e w1 ⟨rfl, hb⟩; replace hW := (below_next hW hW.size hb).trans ((below26 w1 X1).mono (below_next hW hW.size hb).size); replace hK := (hK.below hb).push (below26 w1 X1) (new26 w1 X1); clear hb; have kN := new26z w1)
    | (go_at_call 44; refine (R1.out _).mono ?_; rintro e v1 ⟨rfl, hb⟩; replace hW := (below_next hW hW.size hb).trans ((below75 v1 X1 E1).mono (below_next hW hW.size hb).size); replace hK := (hK.below hb).push (below75 v1 X1 E1) (new75 v1 X1 E1); clear hb; have kM := new75z v1)
    | (go_at_call 17; refine (H2.out _).mono ?_; rintro e w2 ⟨rfl, hb⟩; replace hW := (below_next hW hW.size hb).trans ((below26 w2 X2).mono (below_next hW hW.size hb).size); replace hK := (hK.below hb).push (below26 w2 X2) (new26 w2 X2); clear hb; have kN := new26z w2)
    | (go_at_call 45; refine (R2.out _).mono ?_; rintro e v2 ⟨rfl, hb⟩; replace hW := (below_next hW hW.size hb).trans ((below75 v2 X2 E2).mono (below_next hW hW.size hb).size); replace hK := (hK.below hb).push (below75 v2 X2 E2) (new75 v2 X2 E2); clear hb; have kM := new75z v2)
    | (go_at_call 18; refine (H3.out _).mono ?_; rintro e w3 ⟨rfl, hb⟩; replace hW := (below_next hW hW.size hb).trans ((below26 w3 X3).mono (below_next hW hW.size hb).size); replace hK := (hK.below hb).push (below26 w3 X3) (new26 w3 X3); clear hb; have kN := new26z w3)
    | (go_at_call 46; refine (R3.out _).mono ?_; rintro e v3 ⟨rfl, hb⟩; replace hW := (below_next hW hW.size hb).trans ((below81 v3 X3 N E3).mono (below_next hW hW.size hb).size); replace hK := (hK.below hb).push (below81 v3 X3 N E3) (new81 v3 X3 N E3); clear hb; have kJ := new81z v3)
    | (go_at_call 19; refine (H4.out _).mono ?_; rintro e w4 ⟨rfl, hb⟩; replace hW := (below_next hW hW.size hb).trans ((below26 w4 X4).mono (below_next hW hW.size hb).size); replace hK := (hK.below hb).push (below26 w4 X4) (new26 w4 X4); clear hb; have kN := new26z w4)
    | (go_at_call 47; refine (R4.out _).mono ?_; rintro e v4 ⟨rfl, hb⟩; replace hW := (below_next hW hW.size hb).trans ((below75 v4 X4 E4).mono (below_next hW hW.size hb).size); replace hK := (hK.below hb).push (below75 v4 X4 E4) (new75 v4 X4 E4); clear hb; have kM := new75z v4)
    | (go_at_call 24; refine (H5.out _).mono ?_; rintro e w5 ⟨rfl, hb⟩; replace hW := below_next hW hW.size hb; replace hK := hK.below hb; clear hb)
    | (go_at_call 48; refine (R5.out _).mono ?_; rintro e v5 ⟨rfl, hb⟩; replace hW := below_next hW hW.size hb; replace hK := hK.below hb; clear hb)
    | (refine stV _ _ rfl rfl kN rfl rfl ?_)
    | (refine stMd _ _ rfl rfl kM rfl rfl ?_)
    | (refine stJo _ _ rfl rfl kJ rfl rfl ?_))
  clear H1 H2 H3 H4 H5 R1 R2 R3 R4 R5 kN kM kJ
  simp only [List.append_eq, List.cons_append, List.nil_append]
  go_wp2_with (first
    | go_skip
    | (go_at_call 15; refine (hS.out _).mono ?_; rintro e wS ⟨rfl, hb⟩; replace hW := below_next hW hW.size hb; replace hK := hK.below hb; clear hb; have f0 : wS.cell? ⟨v1.heap.size, 24, none⟩ = some (.int .i64 E1) := ((hK.get 3 rfl).cell 24).trans (mnA_e _ _); have f1 : wS.cell? ⟨v2.heap.size, 24, none⟩ = some (.int .i64 E2) := ((hK.get 5 rfl).cell 24).trans (mnA_e _ _); have f2 : wS.cell? ⟨v4.heap.size, 24, none⟩ = some (.int .i64 E4) := ((hK.get 9 rfl).cell 24).trans (mnA_e _ _); have f3 : wS.cell? ⟨v3.heap.size, 24, none⟩ = some (.int .i64 N) := ((hK.get 7 rfl).cell 24).trans (joA_n _ _ _); have f4 : wS.cell? ⟨v3.heap.size, 25, none⟩ = some (.int .i64 E3) := ((hK.get 7 rfl).cell 25).trans (joA_e _ _ _))
    | (refine ldVG 5 (by rfl) rfl (hK.get 2 rfl) rfl ?_)
    | (refine ldVG 8 (by rfl) rfl (hK.get 4 rfl) rfl ?_)
    | (refine ldVG 11 (by rfl) rfl (hK.get 6 rfl) rfl ?_)
    | (refine ldVG 15 (by rfl) rfl (hK.get 8 rfl) rfl ?_)
    | (refine ldDayG 74 (by rfl) rfl (mn_at (hK.get 3 rfl)) rfl ?_)
    | (refine ldDayG 86 (by rfl) rfl (mn_at (hK.get 5 rfl)) rfl ?_)
    | (refine ldDayG 98 (by rfl) rfl (jo_at (hK.get 7 rfl)) rfl ?_)
    | (refine ldDayG 116 (by rfl) rfl (mn_at (hK.get 9 rfl)) rfl ?_)
    | (refine wpl_eq26G (by rfl) (.tmp 73) (.tmp 75) _ rfl X1 rfl rfl ?_)
    | (refine wpl_eq26G (by rfl) (.tmp 85) (.tmp 87) _ rfl X2 rfl rfl ?_)
    | (refine wpl_eq26G (by rfl) (.tmp 97) (.tmp 99) _ rfl X3 rfl rfl ?_)
    | (refine wpl_eq26G (by rfl) (.tmp 115) (.tmp 117) _ rfl X4 rfl rfl ?_))
  go_ret
  exact ⟨rfl, hW⟩
theorem law11_any (hS : Hid SanityIs) (a b : Nat → Int) (w : World) : Calls Tryz.prog 11 #[.agg (va a), .agg (va b)] w fun e w' => e = .returned (.bool true) ∧ Below w.heap.size w w' :=
  law11_in hS a b (joinR plusM a b) (joinR lessM a b) (bothR a b) (joinR hullM a b) (joinE plusM a b) (joinE lessM a b) (bothE a b) (joinE hullM a b) (bothK a b) (chk2 a b) (holdsV a b) w
    (Lib.hid fun W => plus_any a b W) (Lib.hid fun W => refPlus_any a b W) (Lib.hid fun W => less_any a b W) (Lib.hid fun W => refLess_any a b W) (Lib.hid fun W => both_any a b W) (Lib.hid fun W => refBoth_any a b W) (Lib.hid fun W => hull_any a b W) (Lib.hid fun W => refHull_any a b W) (Lib.hid fun W => holds_any a b W) (Lib.hid fun W => refHolds_any a b W)
end Go.Proofs.YtbhiphjifdnhmaaGreatDoor
