import Derived.Test.YtolgomkmilbkgaaGreatVI
set_option autoImplicit false
set_option linter.unusedVariables false
set_option maxRecDepth 1000000
namespace Go.Proofs.YtolgomkmilbkgaaGreat
open Go.Proofs.YtolgomkmilbkgaaGreat.Ev
/- 3 potence/potencelaw08.GrainProves: 4 in, 107 slots, 0 hard -/
theorem e3 (O : Orc) (a0 a1 a2 a3 : Value) (s : St) (F : Value → St → Prop) : wpF Tryz.prog O isP 3 [a0, a1, a2, a3] s F =
  (bindP (boxN a0 s) fun t0 s1 =>
  bindP (boxN a3 s1) fun t2 s3 =>
  bindP (loadA (.agg 3) t0 s3) fun t4 s5 =>
  bindO (pcall O 16 [t4] s5) fun t6 =>
  bindP (reO (unA .not t6) s5) fun t7 s8 =>
  bindP (guarded (isBool t7 false) (.ok a2 s8) s8) fun t9 s10 =>
  bindO (guardO (isBool t7 false) (pcall O 17 [t9] s10)) fun t11 =>
  bindP (guarded (isBool t7 false) (reO (unA .not t11) s10) s10) fun t12 s13 =>
  bindP (pickK t7 (.bool true) t12 s13) fun t14 s15 =>
  bindP (guarded (isBool t14 false) (reO (movP t2 0) s15) s15) fun t16 s17 =>
  bindP (guarded (isBool t14 false) (loadA .one t16 s17) s17) fun t18 s19 =>
  bindO (guardO (isBool t14 false) (pcall O 17 [t18] s19)) fun t20 =>
  bindP (guarded (isBool t14 false) (reO (unA .not t20) s19) s19) fun t21 s22 =>
  bindP (pickK t14 (.bool true) t21 s22) fun t23 s24 =>
  bindP (guarded (isBool t23 false) (reO (movP t2 2) s24) s24) fun t25 s26 =>
  bindP (guarded (isBool t23 false) (loadA .one t25 s26) s26) fun t27 s28 =>
  bindO (guardO (isBool t23 false) (pcall O 17 [t27] s28)) fun t29 =>
  bindP (guarded (isBool t23 false) (reO (unA .not t29) s28) s28) fun t30 s31 =>
  bindP (pickK t23 (.bool true) t30 s31) fun t32 s33 =>
  condP t32
  (bindO (pcall O 18 [] s33) fun t34 =>
  bindP (.ok t34 s33) F)
  (bindP (loadA (.agg 3) t0 s33) fun t35 s36 =>
  bindO (pcall O 19 [t35, a1] s36) fun t37 =>
  bindP (extractK t37 0 s36) fun t38 s39 =>
  bindP (extractK t37 1 s39) fun t40 s41 =>
  bindP (boxK [(.slice none 0 0), (.int .i64 (0)), (.slice none 0 0)] s41) fun t42 s43 =>
  bindP (storeN (.agg 3) t42 t38 s43) fun t44 s45 =>
  bindP (reO (binK .neq .no t40 (.int .i64 (0))) s45) fun t46 s47 =>
  condP t46
  (bindO (pcall O 18 [] s47) fun t48 =>
  bindP (guarded (isBool t48 true) (loadA (.agg 3) t0 s47) s47) fun t49 s50 =>
  bindP (guarded (isBool t48 true) (.ok a1 s50) s50) fun t51 s52 =>
  bindP (guarded (isBool t48 true) (loadA (.agg 3) t2 s52) s52) fun t53 s54 =>
  bindO (guardO (isBool t48 true) (pcall O 20 [t49, t51, t53] s54)) fun t55 =>
  bindP (guarded (isBool t48 true) (reO (binK .neq .no t55 (.int .i64 (0))) s54) s54) fun t56 s57 =>
  bindP (pickK t48 t56 (.bool false) s57) fun t58 s59 =>
  bindP (.ok t58 s59) F)
  (bindP (loadA (.agg 3) t0 s47) fun t60 s61 =>
  bindP (reO (movP t42 0) s61) fun t62 s63 =>
  bindP (loadA .one t62 s63) fun t64 s65 =>
  bindO (pcall O 21 [t60, a1, t64] s65) fun t66 =>
  bindP (extractK t66 0 s65) fun t67 s68 =>
  bindP (extractK t66 1 s68) fun t69 s70 =>
  bindP (loadA (.agg 3) t0 s70) fun t71 s72 =>
  bindO (pcall O 21 [t71, a1, a2] s72) fun t73 =>
  bindP (extractK t73 0 s72) fun t74 s75 =>
  bindP (extractK t73 1 s75) fun t76 s77 =>
  bindO (pcall O 18 [] s77) fun t78 =>
  bindP (guarded (isBool t78 true) (.ok t69 s77) s77) fun t79 s80 =>
  bindP (guarded (isBool t78 true) (reO (binK .eql .no t79 (.int .i64 (0))) s80) s80) fun t81 s82 =>
  bindP (pickK t78 t81 (.bool false) s82) fun t83 s84 =>
  bindP (guarded (isBool t83 true) (.ok t67 s84) s84) fun t85 s86 =>
  bindP (guarded (isBool t83 true) (reO (movP t42 1) s86) s86) fun t87 s88 =>
  bindP (guarded (isBool t83 true) (loadA .one t87 s88) s88) fun t89 s90 =>
  bindP (guarded (isBool t83 true) (reO (binK .eql .no t85 t89) s90) s90) fun t91 s92 =>
  bindP (pickK t83 t91 (.bool false) s92) fun t93 s94 =>
  bindP (guarded (isBool t93 true) (loadA (.agg 3) t0 s94) s94) fun t95 s96 =>
  bindP (guarded (isBool t93 true) (.ok a1 s96) s96) fun t97 s98 =>
  bindP (guarded (isBool t93 true) (loadA (.agg 3) t42 s98) s98) fun t99 s100 =>
  bindO (guardO (isBool t93 true) (pcall O 20 [t95, t97, t99] s100)) fun t101 =>
  bindP (guarded (isBool t93 true) (reO (binK .eql .no t101 (.int .i64 (0))) s100) s100) fun t102 s103 =>
  bindP (pickK t93 t102 (.bool false) s103) fun t104 s105 =>
  bindP (guarded (isBool t104 true) (.ok t76 s105) s105) fun t106 s107 =>
  bindP (guarded (isBool t104 true) (reO (binK .neq .no t106 (.int .i64 (0))) s107) s107) fun t108 s109 =>
  bindP (guarded (isBool t104 true) (.ok t108 s109) s109) fun t110 s111 =>
  bindP (guarded (isBool t110 false) (.ok t74 s111) s111) fun t112 s113 =>
  bindP (guarded (isBool t110 false) (.ok t67 s113) s113) fun t114 s115 =>
  bindP (guarded (isBool t110 false) (reO (binK .geq .no t112 t114) s115) s115) fun t116 s117 =>
  bindP (guarded (isBool t104 true) (pickK t110 (.bool true) t116 s117) s117) fun t118 s119 =>
  bindP (pickK t104 t118 (.bool false) s119) fun t120 s121 =>
  bindP (guarded (isBool t120 true) (loadA (.agg 3) t0 s121) s121) fun t122 s123 =>
  bindP (guarded (isBool t120 true) (.ok a1 s123) s123) fun t124 s125 =>
  bindP (guarded (isBool t120 true) (loadA (.agg 3) t2 s125) s125) fun t126 s127 =>
  bindO (guardO (isBool t120 true) (pcall O 20 [t122, t124, t126] s127)) fun t128 =>
  bindP (guarded (isBool t120 true) (reO (binK .neq .no t128 (.int .i64 (0))) s127) s127) fun t129 s130 =>
  bindP (guarded (isBool t120 true) (.ok t129 s130) s130) fun t131 s132 =>
  bindP (guarded (isBool t131 false) (reO (movP t2 1) s132) s132) fun t133 s134 =>
  bindP (guarded (isBool t131 false) (loadA .one t133 s134) s134) fun t135 s136 =>
  bindP (guarded (isBool t131 false) (.ok t67 s136) s136) fun t137 s138 =>
  bindP (guarded (isBool t131 false) (reO (binK .eql .no t135 t137) s138) s138) fun t139 s140 =>
  bindP (guarded (isBool t120 true) (pickK t131 (.bool true) t139 s140) s140) fun t141 s142 =>
  bindP (pickK t120 t141 (.bool false) s142) fun t143 s144 =>
  wp Tryz.prog O isP none (cZ (cZ (cZ (cZ (cZ (cZ (cZ (cOf Tryz.prog 3)))))))) ⟨107, (fs (setArgs [a0, a1, a2, a3] 0 regs0) [(4, t0), (7, t2), (8, t143), (15, t4), (16, t6), (17, t7), (18, t7), (19, t9), (20, t11), (21, t12), (22, t14), (23, t14), (24, t16), (25, t18), (26, t20), (27, t21), (28, t23), (29, t23), (30, t25), (31, t27), (32, t29), (33, t30), (34, t32), (37, t35), (38, a1), (39, t37), (36, t37), (40, t38), (41, t40), (9, t42), (10, t40), (42, t40), (43, t46), (53, t60), (54, a1), (55, t62), (56, t64), (57, t66), (52, t66), (58, t67), (59, t69), (11, t67), (12, t69), (61, t71), (62, a1), (63, a2), (64, t73), (60, t73), (65, t74), (66, t76), (13, t74), (14, t76), (67, t78), (68, t78), (69, t79), (70, t81), (71, t83), (72, t83), (73, t85), (74, t87), (75, t89), (76, t91), (77, t93), (78, t93), (79, t95), (80, t97), (81, t99), (82, t101), (83, t102), (84, t104), (85, t104), (86, t106), (87, t108), (88, t110), (89, t112), (90, t114), (91, t116), (92, t118), (93, t120), (94, t120), (95, t122), (96, t124), (97, t126), (98, t128), (99, t129), (100, t131), (101, t133), (102, t135), (103, t137), (104, t139), (105, t141), (106, t143)]), []⟩ s144 (outK Tryz.prog Tryz.f3 F)))) := by kernel_rfl
theorem e3_c0 (O : Orc) (ro : Option Nat) (t : Regs) (ds : List Nat) (s : St) (Q : Kt) : wp Tryz.prog O isP ro (cZ (cZ (cZ (cZ (cZ (cZ (cZ (cOf Tryz.prog 3)))))))) ⟨107, t, ds⟩ s Q =
  (Q .ret ⟨107, t, ds⟩ s) := by kernel_rfl

/- 16 potence/potencelaw08.few: 1 in, 19 slots, 0 hard -/
theorem e16 (O : Orc) (a0 : Value) (s : St) (F : Value → St → Prop) : wpF Tryz.prog O isP 16 [a0] s F =
  (bindP (boxN a0 s) fun t0 s1 =>
  bindP (reO (movP t0 2) s1) fun t2 s3 =>
  bindP (loadA .one t2 s3) fun t4 s5 =>
  bindP (reO (lenK .sl t4 s5) s5) fun t6 s7 =>
  bindP (reO (binK .leq .no t6 (.int .i64 (8))) s7) fun t8 s9 =>
  bindP (guarded (isBool t8 false) (reO (movP t0 2) s9) s9) fun t10 s11 =>
  bindP (guarded (isBool t8 false) (loadA .one t10 s11) s11) fun t12 s13 =>
  bindP (guarded (isBool t8 false) (reO (lenK .sl t12 s13) s13) s13) fun t14 s15 =>
  bindP (guarded (isBool t8 false) (reO (binK .gtr .no t14 (.int .i64 (60))) s15) s15) fun t16 s17 =>
  bindP (guarded (isBool t8 false) (.ok t16 s17) s17) fun t18 s19 =>
  bindP (guarded (isBool t18 true) (reO (movP t0 2) s19) s19) fun t20 s21 =>
  bindP (guarded (isBool t18 true) (loadA .one t20 s21) s21) fun t22 s23 =>
  bindP (guarded (isBool t18 true) (reO (lenK .sl t22 s23) s23) s23) fun t24 s25 =>
  bindP (guarded (isBool t18 true) (reO (binK .leq .no t24 (.int .i64 (80))) s25) s25) fun t26 s27 =>
  bindP (guarded (isBool t8 false) (pickK t18 t26 (.bool false) s27) s27) fun t28 s29 =>
  bindP (pickK t8 (.bool true) t28 s29) fun t30 s31 =>
  bindP (.ok t30 s31) F) := by kernel_rfl

/- 17 potence/potencelaw08.short: 1 in, 6 slots, 0 hard -/
theorem e17 (O : Orc) (a0 : Value) (s : St) (F : Value → St → Prop) : wpF Tryz.prog O isP 17 [a0] s F =
  (bindP (reO (lenK .sl a0 s) s) fun t0 s1 =>
  bindP (reO (binK .leq .no t0 (.int .i64 (80))) s1) fun t2 s3 =>
  bindP (.ok t2 s3) F) := by kernel_rfl

/- 19 potence/grain.Best: 2 in, 60 slots, 0 hard -/
theorem e19 (O : Orc) (a0 a1 : Value) (s : St) (F : Value → St → Prop) : wpF Tryz.prog O isP 19 [a0, a1] s F =
  (bindP (boxN a0 s) fun t0 s1 =>
  bindP (boxK [(.slice none 0 0), (.int .i64 (0)), (.slice none 0 0)] s1) fun t2 s3 =>
  bindP (loadA (.agg 3) t0 s3) fun t4 s5 =>
  bindO (pcall O 70 [t4, a1] s5) fun t6 =>
  bindP (extractK t6 0 s5) fun t7 s8 =>
  bindP (extractK t6 1 s8) fun t9 s10 =>
  bindP (extractK t6 2 s10) fun t11 s12 =>
  bindP (boxK [(.int .i64 (0)), (.int .i64 (0)), (.slice none 0 0), (.bool false)] s12) fun t13 s14 =>
  bindP (storeN (.agg 4) t13 t7 s14) fun t15 s16 =>
  bindP (reO (binK .neq .no t11 (.int .i64 (0))) s16) fun t17 s18 =>
  condP t17
  (bindP (reO (buildA (.str [(.slice none 0 0), (.int .i64 (0)), (.slice none 0 0)] [(0, 1), (1, 1), (2, 1)]) []) s18) fun t19 s20 =>
  bindP (storeN (.agg 3) t2 t19 s20) fun t21 s22 =>
  bindP (resE [(cellR (.agg 3) t2 s22), (some t11)] s22) F)
  (bindP (loadA (.agg 4) t13 s18) fun t23 s24 =>
  andP (belL [t13] s18) <|
  bindO (pcall O 71 [t23, t9] s24) fun t25 =>
  andP (belL [(.func (.func 71) #[] #[]), t23, t9] s24) <|
  bindP (reO (movP t13 0) s24) fun t26 s27 =>
  bindP (reO (movP t26 2) s27) fun t28 s29 =>
  bindP (loadA .one t28 s29) fun t30 s31 =>
  andP (belL [t28] s29) <|
  bindP (reO (lenK .sl t30 s31) s31) fun t32 s33 =>
  andP (belL [t30] s31) <|
  bindP (reO (idxK (.sl 3) t9 t32) s33) fun t34 s35 =>
  bindP (reO (movP t34 0) s35) fun t36 s37 =>
  bindP (loadA .one t36 s37) fun t38 s39 =>
  andP (belL [t36] s37) <|
  bindP (reO (buildA (.str [(.slice none 0 0), (.int .i64 (0)), (.slice none 0 0)] [(0, 1), (1, 1), (2, 1)]) [(0, t25), (1, t38)]) s39) fun t40 s41 =>
  bindP (boxK [(.slice none 0 0), (.int .i64 (0)), (.slice none 0 0)] s41) fun t42 s43 =>
  andP (bsel (belL [] s41) (nextLe s41 s43) false) <|
  bindP (storeN (.agg 3) t42 t40 s43) fun t44 s45 =>
  andP (bsel (belL [t42, t40] s43) (nextLe s43 s45) false) <|
  bindP (reO (movP t13 0) s45) fun t46 s47 =>
  bindP (reO (movP t46 2) s47) fun t48 s49 =>
  bindP (loadA .one t48 s49) fun t50 s51 =>
  bindP (reO (lenK .sl t50 s51) s51) fun t52 s53 =>
  RunsC Tryz.prog O (.loop (cA (cA (cZ (cA (cZ (cZ (cZ (cZ (cOf Tryz.prog 19)))))))))) none ⟨60, (fs (setArgs [a0, a1] 0 regs0) [(2, t0), (4, t2), (5, (.int .i64 (0))), (12, t4), (13, a1), (14, t6), (11, t6), (15, t7), (16, t9), (17, t11), (6, t13), (7, t9), (8, t11), (18, t11), (19, t17), (22, t23), (23, t9), (24, t25), (25, t9), (26, t26), (27, t28), (28, t30), (29, t32), (30, t34), (31, t36), (32, t38), (33, t40), (9, t42), (34, t46), (35, t48), (36, t50), (37, t52), (38, (.int .i64 (0)))]), []⟩ s53 (blockK 0 (seqK Tryz.prog O isP none (cZ (cZ (cZ (cZ (cZ (cOf Tryz.prog 19)))))) (outK Tryz.prog Tryz.f19 F))))) := by kernel_rfl
theorem o19 (F : Value → St → Prop) (t : Regs) (s : St) : outK Tryz.prog Tryz.f19 F .ret ⟨60, t, []⟩ s =
  (bindP (resE [(cellR (.agg 3) (gt t 4) s), (some (gt t 5))] s) F) := by kernel_rfl
theorem od19 (F : Value → St → Prop) (t : Regs) (ds : List Nat) (s : St) : outK Tryz.prog Tryz.f19 F .ret ⟨60, t, ds⟩ s =
  (leaveK ds s fun s => bindP (resE [(cellR (.agg 3) (gt t 4) s), (some (gt t 5))] s) F) := by kernel_rfl
theorem on19 (F : Value → St → Prop) (t : Regs) (ds : List Nat) (s : St) : outK Tryz.prog Tryz.f19 F .normal ⟨60, t, ds⟩ s =
  (leaveK ds s fun s => bindP (resE [(cellR (.agg 3) (gt t 4) s), (some (gt t 5))] s) F) := by kernel_rfl
theorem e19_b0 (O : Orc) (ro : Option Nat) (t : Regs) (ds : List Nat) (s : St) (Q : Kt) : wp Tryz.prog O isP ro (cA (cA (cZ (cA (cZ (cZ (cZ (cZ (cOf Tryz.prog 19))))))))) ⟨60, t, ds⟩ s Q =
  (bindP (reO (binK .lss .no (gt t 38) (gt t 37)) s) fun t0 s1 =>
  condP t0
  (bindP (reO (movP (gt t 9) 2) s1) fun t2 s3 =>
  bindP (loadA .one t2 s3) fun t4 s5 =>
  andP (belL [t2] s3) <|
  bindP (reO (binK .add .no (gt t 38) (.int .i64 (1))) s5) fun t6 s7 =>
  bindP (reO (idxK (.sl 3) (gt t 7) t6) s7) fun t8 s9 =>
  bindP (reO (movP t8 0) s9) fun t10 s11 =>
  bindP (loadA .one t10 s11) fun t12 s13 =>
  andP (belL [t10] s11) <|
  bindP (reO (idxK (.sl 3) (gt t 7) (gt t 38)) s13) fun t14 s15 =>
  bindP (reO (movP t14 0) s15) fun t16 s17 =>
  bindP (loadA .one t16 s17) fun t18 s19 =>
  andP (belL [t16] s17) <|
  bindP (reO (binK .sub .no t12 t18) s19) fun t20 s21 =>
  bindP (buildSliceA (.mk 1 [(.int .i64 (0))] true) 1 [(0, t20)] s21) fun t22 s23 =>
  andP (bsel (belL [t20] s21) (nextLe s21 s23) false) <|
  bindP (appendN (.list 1) t4 t22 s23) fun t24 s25 =>
  andP (bsel (belL [t4, t22] s23) (nextLe s23 s25) false) <|
  bindP (reO (movP (gt t 9) 2) s25) fun t26 s27 =>
  bindP (storeN .one t26 t24 s27) fun t28 s29 =>
  andP (bsel (belL [t26, t24] s27) (nextLe s27 s29) false) <|
  bindP (reO (binK .add .no (gt t 38) (.int .i64 (1))) s29) fun t30 s31 =>
  Q .normal ⟨60, (fs t [(39, t0), (40, (gt t 38)), (10, (gt t 38)), (41, t2), (42, t4), (43, (gt t 7)), (44, (gt t 38)), (45, t6), (46, t8), (47, t10), (48, t12), (49, (gt t 7)), (50, (gt t 38)), (51, t14), (52, t16), (53, t18), (54, t20), (55, t22), (56, t24), (57, t26), (58, t30), (38, t30)]), ds⟩ s31)
  (Q (.exit 0) ⟨60, (fs t [(39, t0)]), ds⟩ s1)) := by kernel_rfl
theorem e19_r0 (O : Orc) (ro : Option Nat) (t : Regs) (ds : List Nat) (s : St) (Q : Kt) : wp Tryz.prog O isP ro (cZ (cZ (cZ (cZ (cZ (cOf Tryz.prog 19)))))) ⟨60, t, ds⟩ s Q =
  (bindP (loadA (.agg 3) (gt t 9) s) fun t0 s1 =>
  bindP (storeN (.agg 3) (gt t 4) t0 s1) fun t2 s3 =>
  Q .ret ⟨60, (fs t [(59, t0), (5, (.int .i64 (0)))]), ds⟩ s3) := by kernel_rfl

/- 20 potence/grain.CheckBest: 3 in, 40 slots, 0 hard -/
theorem e20 (O : Orc) (a0 a1 a2 : Value) (s : St) (F : Value → St → Prop) : wpF Tryz.prog O isP 20 [a0, a1, a2] s F =
  (bindP (boxN a0 s) fun t0 s1 =>
  bindP (boxN a2 s1) fun t2 s3 =>
  bindP (loadA (.agg 3) t0 s3) fun t4 s5 =>
  bindO (pcall O 46 [t4] s5) fun t6 =>
  bindP (reO (binK .neq .no t6 (.int .i64 (0))) s5) fun t7 s8 =>
  condP t7
  (bindP (.ok t6 s8) F)
  (bindP (loadA (.agg 3) t0 s8) fun t9 s10 =>
  bindP (reO (buildA (.str [(.int .i64 (0)), (.int .i64 (0)), (.slice none 0 0), (.bool false)] [(0, 3), (3, 1)]) [(0, t9), (1, a1)]) s10) fun t11 s12 =>
  bindP (boxK [(.int .i64 (0)), (.int .i64 (0)), (.slice none 0 0), (.bool false)] s12) fun t13 s14 =>
  bindP (storeN (.agg 4) t13 t11 s14) fun t15 s16 =>
  bindP (loadA (.agg 4) t13 s16) fun t17 s18 =>
  andP (belL [t13] s16) <|
  bindP (reO (movP t2 0) s18) fun t19 s20 =>
  bindP (loadA .one t19 s20) fun t21 s22 =>
  andP (belL [t19] s20) <|
  bindO (pcall O 72 [t17, t21] s22) fun t23 =>
  andP (belL [(.func (.func 72) #[] #[]), t17, t21] s22) <|
  bindP (reO (unA .not t23) s22) fun t24 s25 =>
  bindP (guarded (isBool t24 false) (reO (movP t2 1) s25) s25) fun t26 s27 =>
  bindP (guarded (isBool t24 false) (loadA .one t26 s27) s27) fun t28 s29 =>
  andP (orN (isBool t24 false) (belL [t26] s27)) <|
  bindP (guarded (isBool t24 false) (loadA (.agg 4) t13 s29) s29) fun t30 s31 =>
  andP (orN (isBool t24 false) (belL [t13] s29)) <|
  bindP (guarded (isBool t24 false) (reO (movP t2 0) s31) s31) fun t32 s33 =>
  bindP (guarded (isBool t24 false) (loadA .one t32 s33) s33) fun t34 s35 =>
  andP (orN (isBool t24 false) (belL [t32] s33)) <|
  bindO (guardO (isBool t24 false) (pcall O 73 [t30, t34] s35)) fun t36 =>
  andP (orN (isBool t24 false) (belL [(.func (.func 73) #[] #[]), t30, t34] s35)) <|
  bindP (guarded (isBool t24 false) (reO (binK .neq .no t28 t36) s35) s35) fun t37 s38 =>
  bindP (pickK t24 (.bool true) t37 s38) fun t39 s40 =>
  bindP (guarded (isBool t39 false) (loadA (.agg 4) t13 s40) s40) fun t41 s42 =>
  andP (orN (isBool t39 false) (belL [t13] s40)) <|
  bindP (guarded (isBool t39 false) (reO (movP t2 2) s42) s42) fun t43 s44 =>
  bindP (guarded (isBool t39 false) (loadA .one t43 s44) s44) fun t45 s46 =>
  andP (orN (isBool t39 false) (belL [t43] s44)) <|
  bindP (guarded (isBool t39 false) (reO (movP t2 1) s46) s46) fun t47 s48 =>
  bindP (guarded (isBool t39 false) (loadA .one t47 s48) s48) fun t49 s50 =>
  andP (orN (isBool t39 false) (belL [t47] s48)) <|
  bindO (guardO (isBool t39 false) (pcall O 74 [t41, t45, t49] s50)) fun t51 =>
  andP (orN (isBool t39 false) (belL [(.func (.func 74) #[] #[]), t41, t45, t49] s50)) <|
  bindP (guarded (isBool t39 false) (reO (unA .not t51) s50) s50) fun t52 s53 =>
  bindP (pickK t39 (.bool true) t52 s53) fun t54 s55 =>
  condP t54
  (bindP (.ok (.int .i64 (8)) s55) F)
  (bindP (.ok (.int .i64 (0)) s55) F))) := by kernel_rfl

/- 21 potence/grain.Cost: 3 in, 25 slots, 0 hard -/
theorem e21 (O : Orc) (a0 a1 a2 : Value) (s : St) (F : Value → St → Prop) : wpF Tryz.prog O isP 21 [a0, a1, a2] s F =
  (bindP (boxN a0 s) fun t0 s1 =>
  bindP (loadA (.agg 3) t0 s1) fun t2 s3 =>
  bindO (pcall O 46 [t2] s3) fun t4 =>
  bindP (reO (binK .neq .no t4 (.int .i64 (0))) s3) fun t5 s6 =>
  condP t5
  (bindP (.ok (.tuple ⟨[(.int .i64 (0)), t4]⟩) s6) F)
  (bindP (loadA (.agg 3) t0 s6) fun t7 s8 =>
  bindP (reO (buildA (.str [(.int .i64 (0)), (.int .i64 (0)), (.slice none 0 0), (.bool false)] [(0, 3), (3, 1)]) [(0, t7), (1, a1)]) s8) fun t9 s10 =>
  bindP (boxK [(.int .i64 (0)), (.int .i64 (0)), (.slice none 0 0), (.bool false)] s10) fun t11 s12 =>
  bindP (storeN (.agg 4) t11 t9 s12) fun t13 s14 =>
  bindP (loadA (.agg 4) t11 s14) fun t15 s16 =>
  bindO (pcall O 72 [t15, a2] s16) fun t17 =>
  bindP (reO (unA .not t17) s16) fun t18 s19 =>
  condP t18
  (bindP (.ok (.tuple ⟨[(.int .i64 (0)), (.int .i64 (1))]⟩) s19) F)
  (bindP (loadA (.agg 4) t11 s19) fun t20 s21 =>
  bindO (pcall O 73 [t20, a2] s21) fun t22 =>
  bindP (.ok (.tuple ⟨[t22, (.int .i64 (0))]⟩) s21) F))) := by kernel_rfl

/- 46 potence/grain.Check: 1 in, 34 slots, 0 hard -/
theorem e46 (O : Orc) (a0 : Value) (s : St) (F : Value → St → Prop) : wpF Tryz.prog O isP 46 [a0] s F =
  (bindP (boxN a0 s) fun t0 s1 =>
  bindP (reO (movP t0 0) s1) fun t2 s3 =>
  bindP (loadA .one t2 s3) fun t4 s5 =>
  bindO (pcall O 82 [(.int .i64 (0)), t4, (.int .i64 (1000))] s5) fun t6 =>
  bindP (reO (unA .not t6) s5) fun t7 s8 =>
  bindP (guarded (isBool t7 false) (reO (movP t0 1) s8) s8) fun t9 s10 =>
  bindP (guarded (isBool t7 false) (loadA .one t9 s10) s10) fun t11 s12 =>
  bindO (guardO (isBool t7 false) (pcall O 82 [(.int .i64 (0)), t11, (.int .i64 (60))] s12)) fun t13 =>
  bindP (guarded (isBool t7 false) (reO (unA .not t13) s12) s12) fun t14 s15 =>
  bindP (pickK t7 (.bool true) t14 s15) fun t16 s17 =>
  condP t16
  (bindP (.ok (.int .i64 (1)) s17) F)
  (bindP (reO (movP t0 2) s17) fun t18 s19 =>
  bindP (loadA .one t18 s19) fun t20 s21 =>
  bindP (reO (lenK .sl t20 s21) s21) fun t22 s23 =>
  bindP (reO (binK .gtr .no t22 (.int .i64 (60))) s23) fun t24 s25 =>
  condP t24
  (bindP (.ok (.int .i64 (2)) s25) F)
  (bindP (reO (movP t0 2) s25) fun t26 s27 =>
  bindP (loadA .one t26 s27) fun t28 s29 =>
  bindP (reO (lenK .sl t28 s29) s29) fun t30 s31 =>
  bindP (reO (binK .eql .no t30 (.int .i64 (0))) s31) fun t32 s33 =>
  condP t32
  (bindP (.ok (.int .i64 (1)) s33) F)
  (bindP (reO (movP t0 2) s33) fun t34 s35 =>
  bindP (loadA .one t34 s35) fun t36 s37 =>
  bindP (reO (lenK .sl t36 s37) s37) fun t38 s39 =>
  RunsC Tryz.prog O (.loop (cA (cA (cZ (cA (cZ (cZ (cZ (cZ (cOf Tryz.prog 46)))))))))) none ⟨34, (fs (setArgs [a0] 0 regs0) [(1, t0), (2, (.int .i64 (0))), (5, t2), (6, t4), (7, t6), (8, t7), (9, t7), (10, t9), (11, t11), (12, t13), (13, t14), (14, t16), (15, t18), (16, t20), (17, t22), (18, t24), (19, t26), (20, t28), (21, t30), (22, t32), (23, t34), (24, t36), (25, t38), (26, (.int .i64 (0)))]), []⟩ s39 (blockK 0 (seqK Tryz.prog O isP none (cZ (cZ (cZ (cZ (cZ (cOf Tryz.prog 46)))))) (outK Tryz.prog Tryz.f46 F))))))) := by kernel_rfl
theorem o46 (F : Value → St → Prop) (t : Regs) (s : St) : outK Tryz.prog Tryz.f46 F .ret ⟨34, t, []⟩ s =
  (bindP (.ok (gt t 2) s) F) := by kernel_rfl
theorem od46 (F : Value → St → Prop) (t : Regs) (ds : List Nat) (s : St) : outK Tryz.prog Tryz.f46 F .ret ⟨34, t, ds⟩ s =
  (leaveK ds s fun s => bindP (.ok (gt t 2) s) F) := by kernel_rfl
theorem on46 (F : Value → St → Prop) (t : Regs) (ds : List Nat) (s : St) : outK Tryz.prog Tryz.f46 F .normal ⟨34, t, ds⟩ s =
  (leaveK ds s fun s => bindP (.ok (gt t 2) s) F) := by kernel_rfl
theorem e46_b0 (O : Orc) (ro : Option Nat) (t : Regs) (ds : List Nat) (s : St) (Q : Kt) : wp Tryz.prog O isP ro (cA (cA (cZ (cA (cZ (cZ (cZ (cZ (cOf Tryz.prog 46))))))))) ⟨34, t, ds⟩ s Q =
  (bindP (reO (binK .lss .no (gt t 26) (gt t 25)) s) fun t0 s1 =>
  condP t0
  (bindP (reO (idxK (.sl 5) (gt t 24) (gt t 26)) s1) fun t2 s3 =>
  bindP (loadA (.agg 5) t2 s3) fun t4 s5 =>
  bindP (boxK [(.int .i64 (0)), (.int .i64 (0)), (.bool false), (.int .i64 (0)), (.int .i64 (0))] s5) fun t6 s7 =>
  bindP (storeN (.agg 5) t6 t4 s7) fun t8 s9 =>
  bindP (loadA (.agg 5) t6 s9) fun t10 s11 =>
  bindO (pcall O 101 [t10] s11) fun t12 =>
  bindP (reO (unA .not t12) s11) fun t13 s14 =>
  condP t13
  (Q .ret ⟨34, (fs t [(27, t0), (28, t2), (29, t4), (4, t6), (30, t10), (31, t12), (32, t13), (2, (.int .i64 (1)))]), ds⟩ s14)
  (bindP (reO (binK .add .no (gt t 26) (.int .i64 (1))) s14) fun t15 s16 =>
  Q .normal ⟨34, (fs t [(27, t0), (28, t2), (29, t4), (4, t6), (30, t10), (31, t12), (32, t13), (33, t15), (26, t15)]), ds⟩ s16))
  (Q (.exit 0) ⟨34, (fs t [(27, t0)]), ds⟩ s1)) := by kernel_rfl
theorem e46_r0 (O : Orc) (ro : Option Nat) (t : Regs) (ds : List Nat) (s : St) (Q : Kt) : wp Tryz.prog O isP ro (cZ (cZ (cZ (cZ (cZ (cOf Tryz.prog 46)))))) ⟨34, t, ds⟩ s Q =
  (Q .ret ⟨34, (fs t [(2, (.int .i64 (0)))]), ds⟩ s) := by kernel_rfl

/- 70 potence/grain.found: 2 in, 30 slots, 0 hard -/
theorem e70 (O : Orc) (a0 a1 : Value) (s : St) (F : Value → St → Prop) : wpF Tryz.prog O isP 70 [a0, a1] s F =
  (bindP (boxN a0 s) fun t0 s1 =>
  bindP (boxK [(.int .i64 (0)), (.int .i64 (0)), (.slice none 0 0), (.bool false)] s1) fun t2 s3 =>
  bindP (loadA (.agg 3) t0 s3) fun t4 s5 =>
  bindO (pcall O 46 [t4] s5) fun t6 =>
  bindP (reO (binK .neq .no t6 (.int .i64 (0))) s5) fun t7 s8 =>
  condP t7
  (bindP (reO (buildA (.str [(.int .i64 (0)), (.int .i64 (0)), (.slice none 0 0), (.bool false)] [(0, 3), (3, 1)]) []) s8) fun t9 s10 =>
  bindP (storeN (.agg 4) t2 t9 s10) fun t11 s12 =>
  bindP (resE [(cellR (.agg 4) t2 s12), (some (.slice none 0 0)), (some t6)] s12) F)
  (bindP (loadA (.agg 3) t0 s8) fun t13 s14 =>
  bindP (reO (buildA (.str [(.int .i64 (0)), (.int .i64 (0)), (.slice none 0 0), (.bool false)] [(0, 3), (3, 1)]) [(0, t13), (1, a1)]) s14) fun t15 s16 =>
  bindP (boxK [(.int .i64 (0)), (.int .i64 (0)), (.slice none 0 0), (.bool false)] s16) fun t17 s18 =>
  bindP (storeN (.agg 4) t17 t15 s18) fun t19 s20 =>
  bindP (loadA (.agg 4) t17 s20) fun t21 s22 =>
  bindO (pcall O 116 [t21] s22) fun t23 =>
  bindP (extractK t23 0 s22) fun t24 s25 =>
  bindP (extractK t23 1 s25) fun t26 s27 =>
  bindP (reO (unA .not t26) s27) fun t28 s29 =>
  condP t28
  (bindP (reO (buildA (.str [(.int .i64 (0)), (.int .i64 (0)), (.slice none 0 0), (.bool false)] [(0, 3), (3, 1)]) []) s29) fun t30 s31 =>
  bindP (storeN (.agg 4) t2 t30 s31) fun t32 s33 =>
  bindP (resE [(cellR (.agg 4) t2 s33), (some (.slice none 0 0)), (some (.int .i64 (5)))] s33) F)
  (bindP (loadA (.agg 4) t17 s29) fun t34 s35 =>
  bindP (storeN (.agg 4) t2 t34 s35) fun t36 s37 =>
  bindP (resE [(cellR (.agg 4) t2 s37), (some t24), (some (.int .i64 (0)))] s37) F))) := by kernel_rfl

/- 71 (potence/grain.plan).way: 2 in, 48 slots, 0 hard -/
theorem e71 (O : Orc) (a0 a1 : Value) (s : St) (F : Value → St → Prop) : wpF Tryz.prog O isP 71 [a0, a1] s F =
  (bindP (boxN a0 s) fun t0 s1 =>
  bindP (buildSliceA (.mk 1 [(.int .i64 (0))] true) 1 [(0, (.int .i64 (-1)))] s1) fun t2 s3 =>
  bindP (reO (movP t0 0) s3) fun t4 s5 =>
  bindP (reO (movP t4 2) s5) fun t6 s7 =>
  bindP (loadA .one t6 s7) fun t8 s9 =>
  bindP (reO (lenK .sl t8 s9) s9) fun t10 s11 =>
  CallP Tryz.prog O (.func (.func 117) #[] #[]) [t2, t10] s11 fun t12 s13 =>
  bindP (reO (movP t0 0) s13) fun t14 s15 =>
  bindP (reO (movP t14 2) s15) fun t16 s17 =>
  bindP (loadA .one t16 s17) fun t18 s19 =>
  bindP (reO (lenK .sl t18 s19) s19) fun t20 s21 =>
  RunsC Tryz.prog O (.loop (cA (cA (cZ (cA (cZ (cZ (cOf Tryz.prog 71)))))))) none ⟨48, (fs (setArgs [a0, a1] 0 regs0) [(2, t0), (4, (.slice none 0 0)), (8, t2), (9, t4), (10, t6), (11, t8), (12, t10), (13, t12), (5, t12), (14, t14), (15, t16), (16, t18), (17, t20), (6, t20)]), []⟩ s21 (blockK 0 (seqK Tryz.prog O isP none (cZ (cZ (cZ (cOf Tryz.prog 71)))) (outK Tryz.prog Tryz.f71 F)))) := by kernel_rfl
theorem o71 (F : Value → St → Prop) (t : Regs) (s : St) : outK Tryz.prog Tryz.f71 F .ret ⟨48, t, []⟩ s =
  (bindP (.ok (gt t 4) s) F) := by kernel_rfl
theorem od71 (F : Value → St → Prop) (t : Regs) (ds : List Nat) (s : St) : outK Tryz.prog Tryz.f71 F .ret ⟨48, t, ds⟩ s =
  (leaveK ds s fun s => bindP (.ok (gt t 4) s) F) := by kernel_rfl
theorem on71 (F : Value → St → Prop) (t : Regs) (ds : List Nat) (s : St) : outK Tryz.prog Tryz.f71 F .normal ⟨48, t, ds⟩ s =
  (leaveK ds s fun s => bindP (.ok (gt t 4) s) F) := by kernel_rfl
theorem e71_b0 (O : Orc) (ro : Option Nat) (t : Regs) (ds : List Nat) (s : St) (Q : Kt) : wp Tryz.prog O isP ro (cA (cA (cZ (cA (cZ (cZ (cOf Tryz.prog 71))))))) ⟨48, t, ds⟩ s Q =
  (bindP (reO (binK .gtr .no (gt t 6) (.int .i64 (0))) s) fun t0 s1 =>
  condP t0
  (bindP (reO (idxK (.sl 3) (gt t 1) (gt t 6)) s1) fun t2 s3 =>
  bindP (reO (movP t2 2) s3) fun t4 s5 =>
  bindP (loadA .one t4 s5) fun t6 s7 =>
  RunsC Tryz.prog O (.loop (cA (cA (cZ (cA (cA (cZ (cA (cA (cZ (cA (cZ (cZ (cOf Tryz.prog 71)))))))))))))) ro ⟨48, (fs t [(18, (gt t 6)), (19, t0), (25, (gt t 1)), (26, (gt t 6)), (27, t2), (28, t4), (29, t6), (7, t6)]), ds⟩ s7 (blockK 2 (blockK 1 (seqK Tryz.prog O isP ro (cZ (cZ (cA (cA (cZ (cA (cZ (cZ (cOf Tryz.prog 71))))))))) Q))))
  (Q (.exit 0) ⟨48, (fs t [(18, (gt t 6)), (19, t0)]), ds⟩ s1)) := by kernel_rfl
theorem e71_b1 (O : Orc) (ro : Option Nat) (t : Regs) (ds : List Nat) (s : St) (Q : Kt) : wp Tryz.prog O isP ro (cA (cA (cZ (cA (cA (cZ (cA (cA (cZ (cA (cZ (cZ (cOf Tryz.prog 71))))))))))))) ⟨48, t, ds⟩ s Q =
  (bindP (reO (binK .lss .no (gt t 7) (gt t 6)) s) fun t0 s1 =>
  condP t0
  (bindP (loadA (.agg 4) (gt t 2) s1) fun t2 s3 =>
  bindO (pcall O 80 [t2, (gt t 7)] s3) fun t4 =>
  bindP (reO (binK .gtr .no t4 (.int .i64 (0))) s3) fun t5 s6 =>
  condP t5
  (bindP (reO (idxK (.sl 3) (gt t 1) (gt t 6)) s6) fun t7 s8 =>
  bindP (reO (movP t7 1) s8) fun t9 s10 =>
  bindP (loadA .one t9 s10) fun t11 s12 =>
  bindP (reO (idxK (.sl 1) (gt t 5) (gt t 7)) s12) fun t13 s14 =>
  bindP (storeN .one t13 t11 s14) fun t15 s16 =>
  bindP (reO (binK .add .no (gt t 7) (.int .i64 (1))) s16) fun t17 s18 =>
  Q .normal ⟨48, (fs t [(30, (gt t 7)), (31, (gt t 6)), (32, t0), (35, t2), (36, (gt t 7)), (37, t4), (38, t5), (39, (gt t 5)), (40, (gt t 7)), (41, (gt t 1)), (42, (gt t 6)), (43, t7), (44, t9), (45, t11), (46, t13), (33, (gt t 7)), (34, t17), (7, t17)]), ds⟩ s18)
  (bindP (reO (binK .add .no (gt t 7) (.int .i64 (1))) s6) fun t19 s20 =>
  Q .normal ⟨48, (fs t [(30, (gt t 7)), (31, (gt t 6)), (32, t0), (35, t2), (36, (gt t 7)), (37, t4), (38, t5), (33, (gt t 7)), (34, t19), (7, t19)]), ds⟩ s20))
  (Q (.exit 2) ⟨48, (fs t [(30, (gt t 7)), (31, (gt t 6)), (32, t0)]), ds⟩ s1)) := by kernel_rfl
theorem e71_r0 (O : Orc) (ro : Option Nat) (t : Regs) (ds : List Nat) (s : St) (Q : Kt) : wp Tryz.prog O isP ro (cZ (cZ (cZ (cOf Tryz.prog 71)))) ⟨48, t, ds⟩ s Q =
  (Q .ret ⟨48, (fs t [(47, (gt t 5)), (4, (gt t 5))]), ds⟩ s) := by kernel_rfl
theorem e71_r1 (O : Orc) (ro : Option Nat) (t : Regs) (ds : List Nat) (s : St) (Q : Kt) : wp Tryz.prog O isP ro (cZ (cZ (cA (cA (cZ (cA (cZ (cZ (cOf Tryz.prog 71))))))))) ⟨48, t, ds⟩ s Q =
  (bindP (reO (idxK (.sl 3) (gt t 1) (gt t 6)) s) fun t0 s1 =>
  bindP (reO (movP t0 2) s1) fun t2 s3 =>
  bindP (loadA .one t2 s3) fun t4 s5 =>
  Q .normal ⟨48, (fs t [(20, (gt t 1)), (21, (gt t 6)), (22, t0), (23, t2), (24, t4), (6, t4)]), ds⟩ s5) := by kernel_rfl

/- 72 (potence/grain.plan).isWay: 2 in, 43 slots, 0 hard -/
theorem e72 (O : Orc) (a0 a1 : Value) (s : St) (F : Value → St → Prop) : wpF Tryz.prog O isP 72 [a0, a1] s F =
  (bindP (boxN a0 s) fun t0 s1 =>
  bindP (reO (lenK .sl a1 s1) s1) fun t2 s3 =>
  bindP (reO (movP t0 0) s3) fun t4 s5 =>
  bindP (reO (movP t4 2) s5) fun t6 s7 =>
  bindP (loadA .one t6 s7) fun t8 s9 =>
  bindP (reO (lenK .sl t8 s9) s9) fun t10 s11 =>
  bindP (reO (binK .neq .no t2 t10) s11) fun t12 s13 =>
  condP t12
  (bindP (.ok (.bool false) s13) F)
  (bindP (reO (lenK .sl a1 s13) s13) fun t14 s15 =>
  RunsC Tryz.prog O (.loop (cA (cA (cZ (cA (cZ (cZ (cOf Tryz.prog 72)))))))) none ⟨43, (fs (setArgs [a0, a1] 0 regs0) [(2, t0), (4, (.bool false)), (7, a1), (8, t2), (9, t4), (10, t6), (11, t8), (12, t10), (13, t12), (14, a1), (15, t14), (16, (.int .i64 (0)))]), []⟩ s15 (blockK 0 (seqK Tryz.prog O isP none (cZ (cZ (cZ (cOf Tryz.prog 72)))) (outK Tryz.prog Tryz.f72 F))))) := by kernel_rfl
theorem o72 (F : Value → St → Prop) (t : Regs) (s : St) : outK Tryz.prog Tryz.f72 F .ret ⟨43, t, []⟩ s =
  (bindP (.ok (gt t 4) s) F) := by kernel_rfl
theorem od72 (F : Value → St → Prop) (t : Regs) (ds : List Nat) (s : St) : outK Tryz.prog Tryz.f72 F .ret ⟨43, t, ds⟩ s =
  (leaveK ds s fun s => bindP (.ok (gt t 4) s) F) := by kernel_rfl
theorem on72 (F : Value → St → Prop) (t : Regs) (ds : List Nat) (s : St) : outK Tryz.prog Tryz.f72 F .normal ⟨43, t, ds⟩ s =
  (leaveK ds s fun s => bindP (.ok (gt t 4) s) F) := by kernel_rfl
theorem e72_b0 (O : Orc) (ro : Option Nat) (t : Regs) (ds : List Nat) (s : St) (Q : Kt) : wp Tryz.prog O isP ro (cA (cA (cZ (cA (cZ (cZ (cOf Tryz.prog 72))))))) ⟨43, t, ds⟩ s Q =
  (bindP (reO (binK .lss .no (gt t 16) (gt t 15)) s) fun t0 s1 =>
  condP t0
  (bindP (reO (idxK (.sl 1) (gt t 14) (gt t 16)) s1) fun t2 s3 =>
  bindP (loadA .one t2 s3) fun t4 s5 =>
  bindP (loadA (.agg 4) (gt t 2) s5) fun t6 s7 =>
  bindO (pcall O 80 [t6, (gt t 16)] s7) fun t8 =>
  bindP (reO (binK .eql .no t8 (.int .i64 (0))) s7) fun t9 s10 =>
  bindP (guarded (isBool t9 true) (.ok t4 s10) s10) fun t11 s12 =>
  bindP (guarded (isBool t9 true) (reO (binK .neq .no t11 (.int .i64 (-1))) s12) s12) fun t13 s14 =>
  bindP (pickK t9 t13 (.bool false) s14) fun t15 s16 =>
  bindP (guarded (isBool t15 false) (loadA (.agg 4) (gt t 2) s16) s16) fun t17 s18 =>
  bindP (guarded (isBool t15 false) (.ok (gt t 16) s18) s18) fun t19 s20 =>
  bindO (guardO (isBool t15 false) (pcall O 80 [t17, t19] s20)) fun t21 =>
  bindP (guarded (isBool t15 false) (reO (binK .gtr .no t21 (.int .i64 (0))) s20) s20) fun t22 s23 =>
  bindP (guarded (isBool t15 false) (.ok t22 s23) s23) fun t24 s25 =>
  bindP (guarded (isBool t24 true) (loadA (.agg 4) (gt t 2) s25) s25) fun t26 s27 =>
  bindP (guarded (isBool t24 true) (.ok t4 s27) s27) fun t28 s29 =>
  bindP (guarded (isBool t24 true) (.ok (gt t 16) s29) s29) fun t30 s31 =>
  bindO (guardO (isBool t24 true) (pcall O 118 [t26, t28, t30] s31)) fun t32 =>
  bindP (guarded (isBool t24 true) (reO (unA .not t32) s31) s31) fun t33 s34 =>
  bindP (guarded (isBool t15 false) (pickK t24 t33 (.bool false) s34) s34) fun t35 s36 =>
  bindP (pickK t15 (.bool true) t35 s36) fun t37 s38 =>
  condP t37
  (Q .ret ⟨43, (fs t [(17, t0), (18, (gt t 16)), (19, t2), (20, t4), (5, (gt t 16)), (6, t4), (21, t6), (22, (gt t 16)), (23, t8), (24, t9), (25, t9), (26, t11), (27, t13), (28, t15), (29, t15), (30, t17), (31, t19), (32, t21), (33, t22), (34, t24), (35, t26), (36, t28), (37, t30), (38, t32), (39, t33), (40, t35), (41, t37), (4, (.bool false))]), ds⟩ s38)
  (bindP (reO (binK .add .no (gt t 16) (.int .i64 (1))) s38) fun t39 s40 =>
  Q .normal ⟨43, (fs t [(17, t0), (18, (gt t 16)), (19, t2), (20, t4), (5, (gt t 16)), (6, t4), (21, t6), (22, (gt t 16)), (23, t8), (24, t9), (25, t9), (26, t11), (27, t13), (28, t15), (29, t15), (30, t17), (31, t19), (32, t21), (33, t22), (34, t24), (35, t26), (36, t28), (37, t30), (38, t32), (39, t33), (40, t35), (41, t37), (42, t39), (16, t39)]), ds⟩ s40))
  (Q (.exit 0) ⟨43, (fs t [(17, t0)]), ds⟩ s1)) := by kernel_rfl
theorem e72_r0 (O : Orc) (ro : Option Nat) (t : Regs) (ds : List Nat) (s : St) (Q : Kt) : wp Tryz.prog O isP ro (cZ (cZ (cZ (cOf Tryz.prog 72)))) ⟨43, t, ds⟩ s Q =
  (Q .ret ⟨43, (fs t [(4, (.bool true))]), ds⟩ s) := by kernel_rfl

/- 73 (potence/grain.plan).cost: 2 in, 42 slots, 0 hard -/
theorem e73 (O : Orc) (a0 a1 : Value) (s : St) (F : Value → St → Prop) : wpF Tryz.prog O isP 73 [a0, a1] s F =
  (bindP (boxN a0 s) fun t0 s1 =>
  bindP (newMap s1) fun t2 s3 =>
  bindP (reO (lenK .sl a1 s3) s3) fun t4 s5 =>
  RunsC Tryz.prog O (.loop (cA (cA (cZ (cA (cZ (cZ (cZ (cOf Tryz.prog 73))))))))) none ⟨42, (fs (setArgs [a0, a1] 0 regs0) [(2, t0), (4, (.int .i64 (0))), (5, (.int .i64 (0))), (9, t2), (6, t2), (10, a1), (11, t4), (12, (.int .i64 (0)))]), []⟩ s5 (blockK 0 (seqK Tryz.prog O isP none (cZ (cZ (cZ (cZ (cOf Tryz.prog 73))))) (outK Tryz.prog Tryz.f73 F)))) := by kernel_rfl
theorem o73 (F : Value → St → Prop) (t : Regs) (s : St) : outK Tryz.prog Tryz.f73 F .ret ⟨42, t, []⟩ s =
  (bindP (.ok (gt t 4) s) F) := by kernel_rfl
theorem od73 (F : Value → St → Prop) (t : Regs) (ds : List Nat) (s : St) : outK Tryz.prog Tryz.f73 F .ret ⟨42, t, ds⟩ s =
  (leaveK ds s fun s => bindP (.ok (gt t 4) s) F) := by kernel_rfl
theorem on73 (F : Value → St → Prop) (t : Regs) (ds : List Nat) (s : St) : outK Tryz.prog Tryz.f73 F .normal ⟨42, t, ds⟩ s =
  (leaveK ds s fun s => bindP (.ok (gt t 4) s) F) := by kernel_rfl
theorem e73_b0 (O : Orc) (ro : Option Nat) (t : Regs) (ds : List Nat) (s : St) (Q : Kt) : wp Tryz.prog O isP ro (cA (cA (cZ (cA (cZ (cZ (cZ (cOf Tryz.prog 73)))))))) ⟨42, t, ds⟩ s Q =
  (bindP (reO (binK .lss .no (gt t 12) (gt t 11)) s) fun t0 s1 =>
  condP t0
  (bindP (reO (idxK (.sl 1) (gt t 10) (gt t 12)) s1) fun t2 s3 =>
  bindP (loadA .one t2 s3) fun t4 s5 =>
  bindP (reO (binK .lss .no t4 (.int .i64 (0))) s5) fun t6 s7 =>
  condP t6
  (bindP (reO (binK .add .no (gt t 12) (.int .i64 (1))) s7) fun t8 s9 =>
  Q .normal ⟨42, (fs t [(13, t0), (14, (gt t 12)), (15, t2), (16, t4), (7, (gt t 12)), (8, t4), (17, t4), (18, t6), (40, t8), (12, t8)]), ds⟩ s9)
  (bindP (loadA (.agg 4) (gt t 2) s7) fun t10 s11 =>
  bindO (pcall O 119 [t10, t4, (gt t 12)] s11) fun t12 =>
  bindP (reO (binK .add .no (gt t 5) t12) s11) fun t13 s14 =>
  bindP (reO (lookupK (.mk false [1] (.bool false)) (gt t 6) t4 false s14) s14) fun t15 s16 =>
  bindP (reO (unA .not t15) s16) fun t17 s18 =>
  condP t17
  (bindP (reS (mapSetK (.mk false [1] (.bool false)) (gt t 6) t4 (.bool true) s18)) fun t19 s20 =>
  bindP (reO (movP (gt t 2) 0) s20) fun t21 s22 =>
  bindP (reO (movP t21 2) s22) fun t23 s24 =>
  bindP (loadA .one t23 s24) fun t25 s26 =>
  bindP (reO (idxK (.sl 5) t25 t4) s26) fun t27 s28 =>
  bindP (reO (movP t27 1) s28) fun t29 s30 =>
  bindP (loadA .one t29 s30) fun t31 s32 =>
  bindP (reO (binK .add .no t13 t31) s32) fun t33 s34 =>
  bindP (reO (binK .add .no (gt t 12) (.int .i64 (1))) s34) fun t35 s36 =>
  Q .normal ⟨42, (fs t [(13, t0), (14, (gt t 12)), (15, t2), (16, t4), (7, (gt t 12)), (8, t4), (17, t4), (18, t6), (19, (gt t 5)), (20, t10), (21, t4), (22, (gt t 12)), (23, t12), (24, t13), (5, t33), (25, (gt t 6)), (26, t4), (27, t15), (28, t17), (29, (gt t 6)), (30, t4), (31, t13), (32, t21), (33, t23), (34, t25), (35, t4), (36, t27), (37, t29), (38, t31), (39, t33), (40, t35), (12, t35)]), ds⟩ s36)
  (bindP (reO (binK .add .no (gt t 12) (.int .i64 (1))) s18) fun t37 s38 =>
  Q .normal ⟨42, (fs t [(13, t0), (14, (gt t 12)), (15, t2), (16, t4), (7, (gt t 12)), (8, t4), (17, t4), (18, t6), (19, (gt t 5)), (20, t10), (21, t4), (22, (gt t 12)), (23, t12), (24, t13), (5, t13), (25, (gt t 6)), (26, t4), (27, t15), (28, t17), (40, t37), (12, t37)]), ds⟩ s38)))
  (Q (.exit 0) ⟨42, (fs t [(13, t0)]), ds⟩ s1)) := by kernel_rfl
theorem e73_r0 (O : Orc) (ro : Option Nat) (t : Regs) (ds : List Nat) (s : St) (Q : Kt) : wp Tryz.prog O isP ro (cZ (cZ (cZ (cZ (cOf Tryz.prog 73))))) ⟨42, t, ds⟩ s Q =
  (Q .ret ⟨42, (fs t [(41, (gt t 5)), (4, (gt t 5))]), ds⟩ s) := by kernel_rfl

/- 74 (potence/grain.plan).isProof: 3 in, 25 slots, 0 hard -/
theorem e74 (O : Orc) (a0 a1 a2 : Value) (s : St) (F : Value → St → Prop) : wpF Tryz.prog O isP 74 [a0, a1, a2] s F =
  (bindP (boxN a0 s) fun t0 s1 =>
  bindP (loadA (.agg 4) t0 s1) fun t2 s3 =>
  bindO (pcall O 120 [t2, a1, a2] s3) fun t4 =>
  bindP (reO (unA .not t4) s3) fun t5 s6 =>
  condP t5
  (bindP (.ok (.bool false) s6) F)
  (bindP (reO (movP t0 0) s6) fun t7 s8 =>
  bindP (reO (movP t7 2) s8) fun t9 s10 =>
  bindP (loadA .one t9 s10) fun t11 s12 =>
  bindP (reO (lenK .sl t11 s12) s12) fun t13 s14 =>
  RunsC Tryz.prog O (.loop (cA (cA (cZ (cA (cZ (cZ (cOf Tryz.prog 74)))))))) none ⟨25, (fs (setArgs [a0, a1, a2] 0 regs0) [(3, t0), (6, (.bool false)), (8, t2), (9, a1), (10, a2), (11, t4), (12, t5), (13, t7), (14, t9), (15, t11), (16, t13), (17, (.int .i64 (0)))]), []⟩ s14 (blockK 0 (seqK Tryz.prog O isP none (cZ (cZ (cZ (cOf Tryz.prog 74)))) (outK Tryz.prog Tryz.f74 F))))) := by kernel_rfl
theorem o74 (F : Value → St → Prop) (t : Regs) (s : St) : outK Tryz.prog Tryz.f74 F .ret ⟨25, t, []⟩ s =
  (bindP (.ok (gt t 6) s) F) := by kernel_rfl
theorem od74 (F : Value → St → Prop) (t : Regs) (ds : List Nat) (s : St) : outK Tryz.prog Tryz.f74 F .ret ⟨25, t, ds⟩ s =
  (leaveK ds s fun s => bindP (.ok (gt t 6) s) F) := by kernel_rfl
theorem on74 (F : Value → St → Prop) (t : Regs) (ds : List Nat) (s : St) : outK Tryz.prog Tryz.f74 F .normal ⟨25, t, ds⟩ s =
  (leaveK ds s fun s => bindP (.ok (gt t 6) s) F) := by kernel_rfl
theorem e74_b0 (O : Orc) (ro : Option Nat) (t : Regs) (ds : List Nat) (s : St) (Q : Kt) : wp Tryz.prog O isP ro (cA (cA (cZ (cA (cZ (cZ (cOf Tryz.prog 74))))))) ⟨25, t, ds⟩ s Q =
  (bindP (reO (binK .lss .no (gt t 17) (gt t 16)) s) fun t0 s1 =>
  condP t0
  (bindP (loadA (.agg 4) (gt t 3) s1) fun t2 s3 =>
  bindO (pcall O 121 [t2, (gt t 17), (gt t 1)] s3) fun t4 =>
  condP t4
  (Q .ret ⟨25, (fs t [(18, t0), (19, (gt t 17)), (7, (gt t 17)), (20, t2), (21, (gt t 17)), (22, (gt t 1)), (23, t4), (6, (.bool false))]), ds⟩ s3)
  (bindP (reO (binK .add .no (gt t 17) (.int .i64 (1))) s3) fun t5 s6 =>
  Q .normal ⟨25, (fs t [(18, t0), (19, (gt t 17)), (7, (gt t 17)), (20, t2), (21, (gt t 17)), (22, (gt t 1)), (23, t4), (24, t5), (17, t5)]), ds⟩ s6))
  (Q (.exit 0) ⟨25, (fs t [(18, t0)]), ds⟩ s1)) := by kernel_rfl
theorem e74_r0 (O : Orc) (ro : Option Nat) (t : Regs) (ds : List Nat) (s : St) (Q : Kt) : wp Tryz.prog O isP ro (cZ (cZ (cZ (cOf Tryz.prog 74)))) ⟨25, t, ds⟩ s Q =
  (Q .ret ⟨25, (fs t [(6, (.bool true))]), ds⟩ s) := by kernel_rfl

/- 80 (potence/grain.plan).need: 2 in, 23 slots, 0 hard -/
theorem e80 (O : Orc) (a0 a1 : Value) (s : St) (F : Value → St → Prop) : wpF Tryz.prog O isP 80 [a0, a1] s F =
  (bindP (boxN a0 s) fun t0 s1 =>
  bindP (reO (movP t0 3) s1) fun t2 s3 =>
  bindP (loadA .one t2 s3) fun t4 s5 =>
  condP t4
  (bindP (reO (movP t0 0) s5) fun t6 s7 =>
  bindP (reO (movP t6 2) s7) fun t8 s9 =>
  bindP (loadA .one t8 s9) fun t10 s11 =>
  bindP (reO (idxK (.sl 5) t10 a1) s11) fun t12 s13 =>
  bindP (reO (movP t12 3) s13) fun t14 s15 =>
  bindP (reO (movP t14 1) s15) fun t16 s17 =>
  bindP (loadA .one t16 s17) fun t18 s19 =>
  bindP (.ok t18 s19) F)
  (bindP (reO (movP t0 0) s5) fun t20 s21 =>
  bindP (reO (movP t20 2) s21) fun t22 s23 =>
  bindP (loadA .one t22 s23) fun t24 s25 =>
  bindP (reO (idxK (.sl 5) t24 a1) s25) fun t26 s27 =>
  bindP (reO (movP t26 3) s27) fun t28 s29 =>
  bindP (reO (movP t28 0) s29) fun t30 s31 =>
  bindP (loadA .one t30 s31) fun t32 s33 =>
  bindP (.ok t32 s33) F)) := by kernel_rfl

/- 82 potence/grain.isFrom: 3 in, 15 slots, 0 hard -/
theorem e82 (O : Orc) (a0 a1 a2 : Value) (s : St) (F : Value → St → Prop) : wpF Tryz.prog O isP 82 [a0, a1, a2] s F =
  (bindP (reO (binK .leq .no a0 a1) s) fun t0 s1 =>
  bindP (guarded (isBool t0 true) (.ok a1 s1) s1) fun t2 s3 =>
  bindP (guarded (isBool t0 true) (.ok a2 s3) s3) fun t4 s5 =>
  bindP (guarded (isBool t0 true) (reO (binK .leq .no t2 t4) s5) s5) fun t6 s7 =>
  bindP (pickK t0 t6 (.bool false) s7) fun t8 s9 =>
  bindP (.ok t8 s9) F) := by kernel_rfl

/- 101 potence/grain.isRight: 1 in, 26 slots, 0 hard -/
theorem e101 (O : Orc) (a0 : Value) (s : St) (F : Value → St → Prop) : wpF Tryz.prog O isP 101 [a0] s F =
  (bindP (boxN a0 s) fun t0 s1 =>
  bindP (reO (movP t0 0) s1) fun t2 s3 =>
  bindP (loadA .one t2 s3) fun t4 s5 =>
  bindO (pcall O 82 [(.int .i64 (0)), t4, (.int .i64 (1000))] s5) fun t6 =>
  bindP (guarded (isBool t6 true) (reO (movP t0 1) s5) s5) fun t7 s8 =>
  bindP (guarded (isBool t6 true) (loadA .one t7 s8) s8) fun t9 s10 =>
  bindO (guardO (isBool t6 true) (pcall O 82 [(.int .i64 (0)), t9, (.int .i64 (100000))] s10)) fun t11 =>
  bindP (pickK t6 t11 (.bool false) s10) fun t12 s13 =>
  bindP (guarded (isBool t12 true) (reO (movP t0 3) s13) s13) fun t14 s15 =>
  bindP (guarded (isBool t12 true) (reO (movP t14 0) s15) s15) fun t16 s17 =>
  bindP (guarded (isBool t12 true) (loadA .one t16 s17) s17) fun t18 s19 =>
  bindP (guarded (isBool t12 true) (reO (movP t0 3) s19) s19) fun t20 s21 =>
  bindP (guarded (isBool t12 true) (reO (movP t20 1) s21) s21) fun t22 s23 =>
  bindP (guarded (isBool t12 true) (loadA .one t22 s23) s23) fun t24 s25 =>
  bindO (guardO (isBool t12 true) (pcall O 82 [(.int .i64 (0)), t18, t24] s25)) fun t26 =>
  bindP (pickK t12 t26 (.bool false) s25) fun t27 s28 =>
  bindP (guarded (isBool t27 true) (reO (movP t0 3) s28) s28) fun t29 s30 =>
  bindP (guarded (isBool t27 true) (reO (movP t29 1) s30) s30) fun t31 s32 =>
  bindP (guarded (isBool t27 true) (loadA .one t31 s32) s32) fun t33 s34 =>
  bindP (guarded (isBool t27 true) (reO (binK .leq .no t33 (.int .i64 (1000))) s34) s34) fun t35 s36 =>
  bindP (pickK t27 t35 (.bool false) s36) fun t37 s38 =>
  bindP (.ok t37 s38) F) := by kernel_rfl

/- 116 (potence/grain.plan).courses: 1 in, 103 slots, 0 hard -/
theorem e116 (O : Orc) (a0 : Value) (s : St) (F : Value → St → Prop) : wpF Tryz.prog O isP 116 [a0] s F =
  (bindP (boxN a0 s) fun t0 s1 =>
  bindP (reO (buildA (.str [(.int .i64 (0)), (.int .i64 (0)), (.int .i64 (0))] [(0, 1), (1, 1), (2, 1)]) []) s1) fun t2 s3 =>
  bindP (buildSliceA (.mk 3 [(.int .i64 (0)), (.int .i64 (0)), (.int .i64 (0))] true) 1 [(0, t2)] s3) fun t4 s5 =>
  bindP (boxK [(.slice none 0 0)] s5) fun t6 s7 =>
  bindP (storeN .one t6 t4 s7) fun t8 s9 =>
  bindP (reO (buildA (.str [(.int .i64 (0)), (.int .i64 (0)), (.int .i64 (0))] [(0, 1), (1, 1), (2, 1)]) [(0, (.int .i64 (1099511627776)))]) s9) fun t10 s11 =>
  bindP (buildSliceA (.mk 3 [(.int .i64 (0)), (.int .i64 (0)), (.int .i64 (0))] true) 1 [(0, t10)] s11) fun t12 s13 =>
  bindP (reO (movP t0 0) s13) fun t14 s15 =>
  bindP (reO (movP t14 2) s15) fun t16 s17 =>
  bindP (loadA .one t16 s17) fun t18 s19 =>
  bindP (reO (lenK .sl t18 s19) s19) fun t20 s21 =>
  CallP Tryz.prog O (.func (.func 143) #[] #[]) [t12, t20] s21 fun t22 s23 =>
  bindP (boxK [(.slice none 0 0)] s23) fun t24 s25 =>
  bindP (storeN .one t24 t22 s25) fun t26 s27 =>
  bindP (reO (movP t0 0) s27) fun t28 s29 =>
  bindP (reO (movP t28 2) s29) fun t30 s31 =>
  bindP (loadA .one t30 s31) fun t32 s33 =>
  bindP (reO (lenK .sl t32 s33) s33) fun t34 s35 =>
  RunsC Tryz.prog O (.loop (cA (cA (cZ (cA (cZ (cZ (cZ (cOf Tryz.prog 116))))))))) none ⟨103, (fs (setArgs [a0] 0 regs0) [(1, t0), (2, (.slice none 0 0)), (3, (.bool false)), (11, t2), (12, t4), (4, t6), (13, t10), (14, t12), (15, t14), (16, t16), (17, t18), (18, t20), (19, t22), (5, t24), (20, t28), (21, t30), (22, t32), (23, t34), (24, (.int .i64 (0)))]), []⟩ s35 (blockK 0 (seqK Tryz.prog O isP none (cZ (cZ (cZ (cZ (cOf Tryz.prog 116))))) (outK Tryz.prog Tryz.f116 F)))) := by kernel_rfl
theorem o116 (F : Value → St → Prop) (t : Regs) (s : St) : outK Tryz.prog Tryz.f116 F .ret ⟨103, t, []⟩ s =
  (bindP (.ok (.tuple ⟨[(gt t 2), (gt t 3)]⟩) s) F) := by kernel_rfl
theorem od116 (F : Value → St → Prop) (t : Regs) (ds : List Nat) (s : St) : outK Tryz.prog Tryz.f116 F .ret ⟨103, t, ds⟩ s =
  (leaveK ds s fun s => bindP (.ok (.tuple ⟨[(gt t 2), (gt t 3)]⟩) s) F) := by kernel_rfl
theorem on116 (F : Value → St → Prop) (t : Regs) (ds : List Nat) (s : St) : outK Tryz.prog Tryz.f116 F .normal ⟨103, t, ds⟩ s =
  (leaveK ds s fun s => bindP (.ok (.tuple ⟨[(gt t 2), (gt t 3)]⟩) s) F) := by kernel_rfl
theorem e116_b0 (O : Orc) (ro : Option Nat) (t : Regs) (ds : List Nat) (s : St) (Q : Kt) : wp Tryz.prog O isP ro (cA (cA (cZ (cA (cZ (cZ (cZ (cOf Tryz.prog 116)))))))) ⟨103, t, ds⟩ s Q =
  (bindP (reO (binK .lss .no (gt t 24) (gt t 23)) s) fun t0 s1 =>
  condP t0
  (bindP (boxK [(.int .i64 (0))] s1) fun t2 s3 =>
  bindP (storeN .one t2 (gt t 24) s3) fun t4 s5 =>
  bindP (loadA (.agg 4) (gt t 1) s5) fun t6 s7 =>
  bindP (loadA .one t2 s7) fun t8 s9 =>
  bindO (pcall O 80 [t6, t8] s9) fun t10 =>
  bindP (reO (binK .eql .no t10 (.int .i64 (0))) s9) fun t11 s12 =>
  condP t11
  (bindP (loadA .one (gt t 4) s12) fun t13 s14 =>
  andP (belL [(gt t 4)] s12) <|
  bindP (loadA .one (gt t 4) s14) fun t15 s16 =>
  andP (belL [(gt t 4)] s14) <|
  bindP (loadA .one t2 s16) fun t17 s18 =>
  andP (belL [t2] s16) <|
  bindP (reO (idxK (.sl 3) t15 t17) s18) fun t19 s20 =>
  bindP (reO (movP t19 0) s20) fun t21 s22 =>
  bindP (loadA .one t21 s22) fun t23 s24 =>
  andP (belL [t21] s22) <|
  bindP (loadA .one t2 s24) fun t25 s26 =>
  andP (belL [t2] s24) <|
  bindP (reO (buildA (.str [(.int .i64 (0)), (.int .i64 (0)), (.int .i64 (0))] [(0, 1), (1, 1), (2, 1)]) [(0, t23), (2, t25)]) s26) fun t27 s28 =>
  bindP (buildSliceA (.mk 3 [(.int .i64 (0)), (.int .i64 (0)), (.int .i64 (0))] true) 1 [(0, t27)] s28) fun t29 s30 =>
  andP (bsel (belL [t27] s28) (nextLe s28 s30) false) <|
  bindP (appendN (.list 3) t13 t29 s30) fun t31 s32 =>
  andP (bsel (belL [t13, t29] s30) (nextLe s30 s32) false) <|
  bindP (storeN .one (gt t 4) t31 s32) fun t33 s34 =>
  andP (bsel (belL [(gt t 4), t31] s32) (nextLe s32 s34) false) <|
  bindP (reO (binK .add .no (gt t 24) (.int .i64 (1))) s34) fun t35 s36 =>
  Q .normal ⟨103, (fs t [(25, t0), (26, (gt t 24)), (6, t2), (27, t6), (28, t8), (29, t10), (30, t11), (31, t13), (32, t15), (33, t17), (34, t19), (35, t21), (36, t23), (37, t25), (38, t27), (39, t29), (40, t31), (101, t35), (24, t35)]), ds⟩ s36)
  (bindP (loadA (.agg 4) (gt t 1) s12) fun t37 s38 =>
  bindP (loadA .one t2 s38) fun t39 s40 =>
  bindO (pcall O 144 [t37, t39] s40) fun t41 =>
  RunsC Tryz.prog O (.rangeFunc (.tmp 43) ⟨[44]⟩ (cA (cA (cZ (cA (cZ (cZ (cA (cA (cZ (cZ (cA (cA (cZ (cA (cZ (cZ (cZ (cOf Tryz.prog 116)))))))))))))))))) (cZ (cA (cZ (cA (cZ (cZ (cA (cA (cZ (cZ (cA (cA (cZ (cA (cZ (cZ (cZ (cOf Tryz.prog 116))))))))))))))))))) ro ⟨103, (fs t [(25, t0), (26, (gt t 24)), (6, t2), (27, t6), (28, t8), (29, t10), (30, t11), (41, t37), (42, t39), (43, t41)]), ds⟩ s40 (blockK 2 (seqK Tryz.prog O isP ro (cZ (cZ (cZ (cA (cA (cZ (cZ (cA (cA (cZ (cA (cZ (cZ (cZ (cOf Tryz.prog 116))))))))))))))) (blockK 1 (seqK Tryz.prog O isP ro (cZ (cZ (cZ (cA (cA (cZ (cA (cZ (cZ (cZ (cOf Tryz.prog 116))))))))))) Q))))))
  (Q (.exit 0) ⟨103, (fs t [(25, t0)]), ds⟩ s1)) := by kernel_rfl
theorem e116_b1 (O : Orc) (ro : Option Nat) (t : Regs) (ds : List Nat) (s : St) (Q : Kt) : wp Tryz.prog O isP ro (cA (cA (cZ (cA (cZ (cZ (cA (cA (cZ (cZ (cA (cA (cZ (cA (cZ (cZ (cZ (cOf Tryz.prog 116)))))))))))))))))) ⟨103, t, ds⟩ s Q =
  (Q .normal ⟨103, (fs t [(7, (gt t 44))]), ds⟩ s) := by kernel_rfl
theorem e116_b2 (O : Orc) (ro : Option Nat) (t : Regs) (ds : List Nat) (s : St) (Q : Kt) : wp Tryz.prog O isP ro (cZ (cA (cZ (cA (cZ (cZ (cA (cA (cZ (cZ (cA (cA (cZ (cA (cZ (cZ (cZ (cOf Tryz.prog 116)))))))))))))))))) ⟨103, t, ds⟩ s Q =
  (bindP (loadA .one (gt t 4) s) fun t0 s1 =>
  andP (belL [(gt t 4)] s) <|
  bindP (loadA .one (gt t 6) s1) fun t2 s3 =>
  andP (belL [(gt t 6)] s1) <|
  bindP (reO (idxK (.sl 3) t0 t2) s3) fun t4 s5 =>
  bindP (reO (movP t4 0) s5) fun t6 s7 =>
  bindP (loadA .one t6 s7) fun t8 s9 =>
  andP (belL [t6] s7) <|
  bindP (reO (movP (gt t 1) 0) s9) fun t10 s11 =>
  bindP (reO (movP t10 2) s11) fun t12 s13 =>
  bindP (loadA .one t12 s13) fun t14 s15 =>
  andP (belL [t12] s13) <|
  bindP (reO (idxK (.sl 5) t14 (gt t 7)) s15) fun t16 s17 =>
  bindP (reO (movP t16 1) s17) fun t18 s19 =>
  bindP (loadA .one t18 s19) fun t20 s21 =>
  andP (belL [t18] s19) <|
  bindP (reO (binK .add .no t8 t20) s21) fun t22 s23 =>
  bindP (loadA .one (gt t 5) s23) fun t24 s25 =>
  bindP (reO (idxK (.sl 3) t24 (gt t 7)) s25) fun t26 s27 =>
  bindP (reO (movP t26 0) s27) fun t28 s29 =>
  bindP (loadA .one t28 s29) fun t30 s31 =>
  bindP (reO (binK .lss .no t22 t30) s31) fun t32 s33 =>
  condP t32
  (bindP (loadA .one (gt t 5) s33) fun t34 s35 =>
  bindP (loadA .one (gt t 6) s35) fun t36 s37 =>
  bindP (reO (buildA (.str [(.int .i64 (0)), (.int .i64 (0)), (.int .i64 (0))] [(0, 1), (1, 1), (2, 1)]) [(0, t22), (1, (gt t 7)), (2, t36)]) s37) fun t38 s39 =>
  bindP (reO (idxK (.sl 3) t34 (gt t 7)) s39) fun t40 s41 =>
  bindP (storeN (.agg 3) t40 t38 s41) fun t42 s43 =>
  bindP (loadA .one (gt t 5) s43) fun t44 s45 =>
  andP (belL [(gt t 5)] s43) <|
  bindP (reO (idxK (.sl 3) t44 (gt t 7)) s45) fun t46 s47 =>
  bindP (reO (movP t46 0) s47) fun t48 s49 =>
  bindP (loadA .one t48 s49) fun t50 s51 =>
  andP (belL [t48] s49) <|
  bindP (loadA (.agg 4) (gt t 1) s51) fun t52 s53 =>
  andP (belL [(gt t 1)] s51) <|
  bindP (loadA .one (gt t 6) s53) fun t54 s55 =>
  andP (belL [(gt t 6)] s53) <|
  bindO (pcall O 119 [t52, (gt t 7), t54] s55) fun t56 =>
  andP (belL [(.func (.func 119) #[] #[]), t52, (gt t 7), t54] s55) <|
  bindP (reO (binK .add .no t50 t56) s55) fun t57 s58 =>
  bindP (reO (idxK (.sl 3) t44 (gt t 7)) s58) fun t59 s60 =>
  bindP (reO (movP t59 0) s60) fun t61 s62 =>
  bindP (storeN .one t61 t57 s62) fun t63 s64 =>
  andP (bsel (belL [t61, t57] s62) (nextLe s62 s64) false) <|
  Q .normal ⟨103, (fs t [(45, t0), (46, t2), (47, t4), (48, t6), (49, t8), (50, t10), (51, t12), (52, t14), (53, (gt t 7)), (54, t16), (55, t18), (56, t20), (57, t22), (8, t22), (58, t22), (59, t24), (60, (gt t 7)), (61, t26), (62, t28), (63, t30), (64, t32), (65, t34), (66, (gt t 7)), (67, t22), (68, (gt t 7)), (69, t36), (70, t38), (71, t40), (72, t44), (73, (gt t 7)), (74, t46), (75, t48), (76, t50), (77, t52), (78, (gt t 7)), (79, t54), (80, t56), (81, t57), (82, t59), (83, t61)]), ds⟩ s64)
  (bindP (loadA .one (gt t 5) s33) fun t65 s66 =>
  andP (belL [(gt t 5)] s33) <|
  bindP (reO (idxK (.sl 3) t65 (gt t 7)) s66) fun t67 s68 =>
  bindP (reO (movP t67 0) s68) fun t69 s70 =>
  bindP (loadA .one t69 s70) fun t71 s72 =>
  andP (belL [t69] s70) <|
  bindP (loadA (.agg 4) (gt t 1) s72) fun t73 s74 =>
  andP (belL [(gt t 1)] s72) <|
  bindP (loadA .one (gt t 6) s74) fun t75 s76 =>
  andP (belL [(gt t 6)] s74) <|
  bindO (pcall O 119 [t73, (gt t 7), t75] s76) fun t77 =>
  andP (belL [(.func (.func 119) #[] #[]), t73, (gt t 7), t75] s76) <|
  bindP (reO (binK .add .no t71 t77) s76) fun t78 s79 =>
  bindP (reO (idxK (.sl 3) t65 (gt t 7)) s79) fun t80 s81 =>
  bindP (reO (movP t80 0) s81) fun t82 s83 =>
  bindP (storeN .one t82 t78 s83) fun t84 s85 =>
  andP (bsel (belL [t82, t78] s83) (nextLe s83 s85) false) <|
  Q .normal ⟨103, (fs t [(45, t0), (46, t2), (47, t4), (48, t6), (49, t8), (50, t10), (51, t12), (52, t14), (53, (gt t 7)), (54, t16), (55, t18), (56, t20), (57, t22), (8, t22), (58, t22), (59, t24), (60, (gt t 7)), (61, t26), (62, t28), (63, t30), (64, t32), (72, t65), (73, (gt t 7)), (74, t67), (75, t69), (76, t71), (77, t73), (78, (gt t 7)), (79, t75), (80, t77), (81, t78), (82, t80), (83, t82)]), ds⟩ s85)) := by kernel_rfl
theorem e116_r0 (O : Orc) (ro : Option Nat) (t : Regs) (ds : List Nat) (s : St) (Q : Kt) : wp Tryz.prog O isP ro (cZ (cZ (cZ (cZ (cOf Tryz.prog 116))))) ⟨103, t, ds⟩ s Q =
  (bindP (loadA .one (gt t 4) s) fun t0 s1 =>
  Q .ret ⟨103, (fs t [(102, t0), (2, t0), (3, (.bool true))]), ds⟩ s1) := by kernel_rfl
theorem e116_r1 (O : Orc) (ro : Option Nat) (t : Regs) (ds : List Nat) (s : St) (Q : Kt) : wp Tryz.prog O isP ro (cZ (cZ (cZ (cA (cA (cZ (cA (cZ (cZ (cZ (cOf Tryz.prog 116))))))))))) ⟨103, t, ds⟩ s Q =
  (bindP (reO (binK .add .no (gt t 24) (.int .i64 (1))) s) fun t0 s1 =>
  Q .normal ⟨103, (fs t [(101, t0), (24, t0)]), ds⟩ s1) := by kernel_rfl
theorem e116_r2 (O : Orc) (ro : Option Nat) (t : Regs) (ds : List Nat) (s : St) (Q : Kt) : wp Tryz.prog O isP ro (cZ (cZ (cZ (cA (cA (cZ (cZ (cA (cA (cZ (cA (cZ (cZ (cZ (cOf Tryz.prog 116))))))))))))))) ⟨103, t, ds⟩ s Q =
  (bindP (loadA (.agg 4) (gt t 1) s) fun t0 s1 =>
  bindP (loadA .one (gt t 6) s1) fun t2 s3 =>
  bindO (pcall O 144 [t0, t2] s3) fun t4 =>
  bindP (.ok (.func (.func 145) ⟨[]⟩ ⟨[(gt t 5)]⟩) s3) fun t5 s6 =>
  bindO (pcall O 128 [t4, t5] s6) fun t7 =>
  bindP (extractK t7 0 s6) fun t8 s9 =>
  bindP (extractK t7 1 s9) fun t10 s11 =>
  bindP (reO (unA .not t10) s11) fun t12 s13 =>
  condP t12
  (Q .ret ⟨103, (fs t [(85, t0), (86, t2), (87, t4), (88, t5), (89, t7), (84, t7), (90, t8), (91, t10), (9, t8), (10, t10), (92, t10), (93, t12), (2, (.slice none 0 0)), (3, (.bool false))]), ds⟩ s13)
  (bindP (loadA .one (gt t 4) s13) fun t14 s15 =>
  andP (belL [(gt t 4)] s13) <|
  bindP (loadA .one (gt t 5) s15) fun t16 s17 =>
  andP (belL [(gt t 5)] s15) <|
  bindP (reO (idxK (.sl 3) t16 t8) s17) fun t18 s19 =>
  bindP (loadA (.agg 3) t18 s19) fun t20 s21 =>
  andP (belL [t18] s19) <|
  bindP (buildSliceA (.mk 3 [(.int .i64 (0)), (.int .i64 (0)), (.int .i64 (0))] true) 1 [(0, t20)] s21) fun t22 s23 =>
  andP (bsel (belL [t20] s21) (nextLe s21 s23) false) <|
  bindP (appendN (.list 3) t14 t22 s23) fun t24 s25 =>
  andP (bsel (belL [t14, t22] s23) (nextLe s23 s25) false) <|
  bindP (storeN .one (gt t 4) t24 s25) fun t26 s27 =>
  andP (bsel (belL [(gt t 4), t24] s25) (nextLe s25 s27) false) <|
  Q .normal ⟨103, (fs t [(85, t0), (86, t2), (87, t4), (88, t5), (89, t7), (84, t7), (90, t8), (91, t10), (9, t8), (10, t10), (92, t10), (93, t12), (94, t14), (95, t16), (96, t8), (97, t18), (98, t20), (99, t22), (100, t24)]), ds⟩ s27)) := by kernel_rfl

/- 118 (potence/grain.plan).canBuy: 3 in, 29 slots, 0 hard -/
theorem e118 (O : Orc) (a0 a1 a2 : Value) (s : St) (F : Value → St → Prop) : wpF Tryz.prog O isP 118 [a0, a1, a2] s F =
  (bindP (boxN a0 s) fun t0 s1 =>
  bindO (pcall O 82 [(.int .i64 (0)), a1, a2] s1) fun t2 =>
  bindP (guarded (isBool t2 true) (.ok a2 s1) s1) fun t3 s4 =>
  bindP (guarded (isBool t2 true) (.ok a1 s4) s4) fun t5 s6 =>
  bindP (guarded (isBool t2 true) (reO (binK .sub .no t3 t5) s6) s6) fun t7 s8 =>
  bindP (guarded (isBool t2 true) (reO (movP t0 0) s8) s8) fun t9 s10 =>
  bindP (guarded (isBool t2 true) (reO (movP t9 1) s10) s10) fun t11 s12 =>
  bindP (guarded (isBool t2 true) (loadA .one t11 s12) s12) fun t13 s14 =>
  bindP (guarded (isBool t2 true) (reO (binK .leq .no t7 t13) s14) s14) fun t15 s16 =>
  bindP (pickK t2 t15 (.bool false) s16) fun t17 s18 =>
  bindP (guarded (isBool t17 true) (reO (movP t0 0) s18) s18) fun t19 s20 =>
  bindP (guarded (isBool t17 true) (reO (movP t19 2) s20) s20) fun t21 s22 =>
  bindP (guarded (isBool t17 true) (loadA .one t21 s22) s22) fun t23 s24 =>
  bindP (guarded (isBool t17 true) (.ok a1 s24) s24) fun t25 s26 =>
  bindP (guarded (isBool t17 true) (reO (idxK (.sl 5) t23 t25) s26) s26) fun t27 s28 =>
  bindP (guarded (isBool t17 true) (reO (movP t27 2) s28) s28) fun t29 s30 =>
  bindP (guarded (isBool t17 true) (loadA .one t29 s30) s30) fun t31 s32 =>
  bindP (guarded (isBool t17 true) (reO (unA .not t31) s32) s32) fun t33 s34 =>
  bindP (pickK t17 t33 (.bool false) s34) fun t35 s36 =>
  bindP (.ok t35 s36) F) := by kernel_rfl

/- 119 (potence/grain.plan).grain: 3 in, 26 slots, 0 hard -/
theorem e119 (O : Orc) (a0 a1 a2 : Value) (s : St) (F : Value → St → Prop) : wpF Tryz.prog O isP 119 [a0, a1, a2] s F =
  (bindP (boxN a0 s) fun t0 s1 =>
  bindP (loadA (.agg 4) t0 s1) fun t2 s3 =>
  andP (belL [t0] s1) <|
  bindO (pcall O 80 [t2, a2] s3) fun t4 =>
  andP (belL [(.func (.func 80) #[] #[]), t2, a2] s3) <|
  bindP (reO (movP t0 0) s3) fun t5 s6 =>
  bindP (reO (movP t5 2) s6) fun t7 s8 =>
  bindP (loadA .one t7 s8) fun t9 s10 =>
  andP (belL [t7] s8) <|
  bindP (reO (idxK (.sl 5) t9 a1) s10) fun t11 s12 =>
  bindP (reO (movP t11 0) s12) fun t13 s14 =>
  bindP (loadA .one t13 s14) fun t15 s16 =>
  andP (belL [t13] s14) <|
  bindP (reO (movP t0 0) s16) fun t17 s18 =>
  bindP (reO (movP t17 0) s18) fun t19 s20 =>
  bindP (loadA .one t19 s20) fun t21 s22 =>
  andP (belL [t19] s20) <|
  bindP (reO (binK .sub .no a2 a1) s22) fun t23 s24 =>
  bindP (reO (binK .mul .no t21 t23) s24) fun t25 s26 =>
  bindP (reO (binK .add .no t15 t25) s26) fun t27 s28 =>
  bindP (reO (binK .mul .no t4 t27) s28) fun t29 s30 =>
  bindP (.ok t29 s30) F) := by kernel_rfl

/- 120 (potence/grain.plan).arePrices: 3 in, 44 slots, 0 hard -/
theorem e120 (O : Orc) (a0 a1 a2 : Value) (s : St) (F : Value → St → Prop) : wpF Tryz.prog O isP 120 [a0, a1, a2] s F =
  (bindP (boxN a0 s) fun t0 s1 =>
  bindP (reO (lenK .sl a1 s1) s1) fun t2 s3 =>
  bindP (reO (movP t0 0) s3) fun t4 s5 =>
  bindP (reO (movP t4 2) s5) fun t6 s7 =>
  bindP (loadA .one t6 s7) fun t8 s9 =>
  bindP (reO (lenK .sl t8 s9) s9) fun t10 s11 =>
  bindP (reO (binK .neq .no t2 t10) s11) fun t12 s13 =>
  condP t12
  (bindP (.ok (.bool false) s13) F)
  (bindP (reO (lenK .sl a1 s13) s13) fun t14 s15 =>
  RunsC Tryz.prog O (.loop (cA (cA (cZ (cA (cZ (cZ (cZ (cOf Tryz.prog 120))))))))) none ⟨44, (fs (setArgs [a0, a1, a2] 0 regs0) [(3, t0), (6, (.bool false)), (10, a1), (11, t2), (12, t4), (13, t6), (14, t8), (15, t10), (16, t12), (7, (.int .i64 (0))), (17, a1), (18, t14), (19, (.int .i64 (0)))]), []⟩ s15 (blockK 0 (seqK Tryz.prog O isP none (cZ (cZ (cZ (cZ (cOf Tryz.prog 120))))) (outK Tryz.prog Tryz.f120 F))))) := by kernel_rfl
theorem o120 (F : Value → St → Prop) (t : Regs) (s : St) : outK Tryz.prog Tryz.f120 F .ret ⟨44, t, []⟩ s =
  (bindP (.ok (gt t 6) s) F) := by kernel_rfl
theorem od120 (F : Value → St → Prop) (t : Regs) (ds : List Nat) (s : St) : outK Tryz.prog Tryz.f120 F .ret ⟨44, t, ds⟩ s =
  (leaveK ds s fun s => bindP (.ok (gt t 6) s) F) := by kernel_rfl
theorem on120 (F : Value → St → Prop) (t : Regs) (ds : List Nat) (s : St) : outK Tryz.prog Tryz.f120 F .normal ⟨44, t, ds⟩ s =
  (leaveK ds s fun s => bindP (.ok (gt t 6) s) F) := by kernel_rfl
theorem e120_b0 (O : Orc) (ro : Option Nat) (t : Regs) (ds : List Nat) (s : St) (Q : Kt) : wp Tryz.prog O isP ro (cA (cA (cZ (cA (cZ (cZ (cZ (cOf Tryz.prog 120)))))))) ⟨44, t, ds⟩ s Q =
  (bindP (reO (binK .lss .no (gt t 19) (gt t 18)) s) fun t0 s1 =>
  condP t0
  (bindP (reO (idxK (.sl 1) (gt t 17) (gt t 19)) s1) fun t2 s3 =>
  bindP (loadA .one t2 s3) fun t4 s5 =>
  bindO (pcall O 82 [(.int .i64 (-1099511627776)), t4, (.int .i64 (1099511627776))] s5) fun t6 =>
  bindP (reO (unA .not t6) s5) fun t7 s8 =>
  bindP (guarded (isBool t7 false) (loadA (.agg 4) (gt t 3) s8) s8) fun t9 s10 =>
  bindP (guarded (isBool t7 false) (.ok (gt t 19) s10) s10) fun t11 s12 =>
  bindO (guardO (isBool t7 false) (pcall O 80 [t9, t11] s12)) fun t13 =>
  bindP (guarded (isBool t7 false) (reO (binK .eql .no t13 (.int .i64 (0))) s12) s12) fun t14 s15 =>
  bindP (guarded (isBool t7 false) (.ok t14 s15) s15) fun t16 s17 =>
  bindP (guarded (isBool t16 true) (.ok t4 s17) s17) fun t18 s19 =>
  bindP (guarded (isBool t16 true) (reO (binK .neq .no t18 (.int .i64 (0))) s19) s19) fun t20 s21 =>
  bindP (guarded (isBool t7 false) (pickK t16 t20 (.bool false) s21) s21) fun t22 s23 =>
  bindP (pickK t7 (.bool true) t22 s23) fun t24 s25 =>
  condP t24
  (Q .ret ⟨44, (fs t [(20, t0), (21, (gt t 19)), (22, t2), (23, t4), (8, (gt t 19)), (9, t4), (24, t4), (25, t6), (26, t7), (27, t7), (28, t9), (29, t11), (30, t13), (31, t14), (32, t16), (33, t18), (34, t20), (35, t22), (36, t24), (6, (.bool false))]), ds⟩ s25)
  (bindP (reO (binK .add .no (gt t 7) t4) s25) fun t26 s27 =>
  bindP (reO (binK .add .no (gt t 19) (.int .i64 (1))) s27) fun t28 s29 =>
  Q .normal ⟨44, (fs t [(20, t0), (21, (gt t 19)), (22, t2), (23, t4), (8, (gt t 19)), (9, t4), (24, t4), (25, t6), (26, t7), (27, t7), (28, t9), (29, t11), (30, t13), (31, t14), (32, t16), (33, t18), (34, t20), (35, t22), (36, t24), (37, (gt t 7)), (38, t4), (39, t26), (7, t26), (40, t28), (19, t28)]), ds⟩ s29))
  (Q (.exit 0) ⟨44, (fs t [(20, t0)]), ds⟩ s1)) := by kernel_rfl
theorem e120_r0 (O : Orc) (ro : Option Nat) (t : Regs) (ds : List Nat) (s : St) (Q : Kt) : wp Tryz.prog O isP ro (cZ (cZ (cZ (cZ (cOf Tryz.prog 120))))) ⟨44, t, ds⟩ s Q =
  (bindP (reO (binK .eql .no (gt t 7) (gt t 2)) s) fun t0 s1 =>
  Q .ret ⟨44, (fs t [(41, (gt t 7)), (42, (gt t 2)), (43, t0), (6, t0)]), ds⟩ s1) := by kernel_rfl

/- 121 (potence/grain.plan).isUndercut: 3 in, 34 slots, 0 hard -/
theorem e121 (O : Orc) (a0 a1 a2 : Value) (s : St) (F : Value → St → Prop) : wpF Tryz.prog O isP 121 [a0, a1, a2] s F =
  (bindP (boxN a0 s) fun t0 s1 =>
  bindP (boxN a1 s1) fun t2 s3 =>
  bindP (boxN a2 s3) fun t4 s5 =>
  bindP (boxK [(.bool false)] s5) fun t6 s7 =>
  bindP (boxK [(.int .i64 (0))] s7) fun t8 s9 =>
  bindP (storeN .one t8 (.int .i64 (0)) s9) fun t10 s11 =>
  bindP (loadA (.agg 4) t0 s11) fun t12 s13 =>
  bindP (loadA .one t2 s13) fun t14 s15 =>
  bindO (pcall O 124 [t12, t14] s15) fun t16 =>
  RunsC Tryz.prog O (.rangeFunc (.tmp 11) ⟨[12]⟩ (cA (cA (cZ (cA (cZ (cZ (cOf Tryz.prog 121))))))) (cZ (cA (cZ (cA (cZ (cZ (cOf Tryz.prog 121)))))))) none ⟨34, (fs (setArgs [a0, a1, a2] 0 regs0) [(3, t0), (4, t2), (5, t4), (6, t6), (7, t8), (9, t12), (10, t14), (11, t16)]), []⟩ s15 (blockK 0 (seqK Tryz.prog O isP none (cZ (cZ (cZ (cOf Tryz.prog 121)))) (outK Tryz.prog Tryz.f121 F)))) := by kernel_rfl
theorem o121 (F : Value → St → Prop) (t : Regs) (s : St) : outK Tryz.prog Tryz.f121 F .ret ⟨34, t, []⟩ s =
  (bindP (resE [(cellR .one (gt t 6) s)] s) F) := by kernel_rfl
theorem od121 (F : Value → St → Prop) (t : Regs) (ds : List Nat) (s : St) : outK Tryz.prog Tryz.f121 F .ret ⟨34, t, ds⟩ s =
  (leaveK ds s fun s => bindP (resE [(cellR .one (gt t 6) s)] s) F) := by kernel_rfl
theorem on121 (F : Value → St → Prop) (t : Regs) (ds : List Nat) (s : St) : outK Tryz.prog Tryz.f121 F .normal ⟨34, t, ds⟩ s =
  (leaveK ds s fun s => bindP (resE [(cellR .one (gt t 6) s)] s) F) := by kernel_rfl
theorem e121_b0 (O : Orc) (ro : Option Nat) (t : Regs) (ds : List Nat) (s : St) (Q : Kt) : wp Tryz.prog O isP ro (cA (cA (cZ (cA (cZ (cZ (cOf Tryz.prog 121))))))) ⟨34, t, ds⟩ s Q =
  (Q .normal ⟨34, (fs t [(8, (gt t 12))]), ds⟩ s) := by kernel_rfl
theorem e121_b1 (O : Orc) (ro : Option Nat) (t : Regs) (ds : List Nat) (s : St) (Q : Kt) : wp Tryz.prog O isP ro (cZ (cA (cZ (cA (cZ (cZ (cOf Tryz.prog 121))))))) ⟨34, t, ds⟩ s Q =
  (bindP (loadA .one (gt t 7) s) fun t0 s1 =>
  andP (belL [(gt t 7)] s) <|
  bindP (reO (minMaxA false [t0, (.int .i64 (0))]) s1) fun t2 s3 =>
  andP (belL [t0, (.int .i64 (0))] s1) <|
  bindP (loadA .one (gt t 5) s3) fun t4 s5 =>
  andP (belL [(gt t 5)] s3) <|
  bindP (reO (idxK (.sl 1) t4 (gt t 8)) s5) fun t6 s7 =>
  bindP (loadA .one t6 s7) fun t8 s9 =>
  andP (belL [t6] s7) <|
  bindP (reO (binK .add .no t2 t8) s9) fun t10 s11 =>
  bindP (loadA (.agg 4) (gt t 3) s11) fun t12 s13 =>
  andP (belL [(gt t 3)] s11) <|
  bindP (loadA .one (gt t 4) s13) fun t14 s15 =>
  andP (belL [(gt t 4)] s13) <|
  bindO (pcall O 119 [t12, t14, (gt t 8)] s15) fun t16 =>
  andP (belL [(.func (.func 119) #[] #[]), t12, t14, (gt t 8)] s15) <|
  bindP (reO (binK .sub .no t10 t16) s15) fun t17 s18 =>
  bindP (storeN .one (gt t 7) t17 s18) fun t19 s20 =>
  andP (bsel (belL [(gt t 7), t17] s18) (nextLe s18 s20) false) <|
  bindP (loadA .one (gt t 7) s20) fun t21 s22 =>
  andP (belL [(gt t 7)] s20) <|
  bindP (reO (movP (gt t 3) 0) s22) fun t23 s24 =>
  bindP (reO (movP t23 2) s24) fun t25 s26 =>
  bindP (loadA .one t25 s26) fun t27 s28 =>
  andP (belL [t25] s26) <|
  bindP (loadA .one (gt t 4) s28) fun t29 s30 =>
  andP (belL [(gt t 4)] s28) <|
  bindP (reO (idxK (.sl 5) t27 t29) s30) fun t31 s32 =>
  bindP (reO (movP t31 1) s32) fun t33 s34 =>
  bindP (loadA .one t33 s34) fun t35 s36 =>
  andP (belL [t33] s34) <|
  bindP (reO (binK .gtr .no t21 t35) s36) fun t37 s38 =>
  condP t37
  (bindP (storeN .one (gt t 6) (.bool true) s38) fun t39 s40 =>
  Q .ret ⟨34, (fs t [(13, t0), (14, t2), (15, t4), (16, (gt t 8)), (17, t6), (18, t8), (19, t10), (20, t12), (21, t14), (22, (gt t 8)), (23, t16), (24, t17), (25, t21), (26, t23), (27, t25), (28, t27), (29, t29), (30, t31), (31, t33), (32, t35), (33, t37)]), ds⟩ s40)
  (Q .normal ⟨34, (fs t [(13, t0), (14, t2), (15, t4), (16, (gt t 8)), (17, t6), (18, t8), (19, t10), (20, t12), (21, t14), (22, (gt t 8)), (23, t16), (24, t17), (25, t21), (26, t23), (27, t25), (28, t27), (29, t29), (30, t31), (31, t33), (32, t35), (33, t37)]), ds⟩ s38)) := by kernel_rfl
theorem e121_r0 (O : Orc) (ro : Option Nat) (t : Regs) (ds : List Nat) (s : St) (Q : Kt) : wp Tryz.prog O isP ro (cZ (cZ (cZ (cOf Tryz.prog 121)))) ⟨34, t, ds⟩ s Q =
  (bindP (storeN .one (gt t 6) (.bool false) s) fun t0 s1 =>
  Q .ret ⟨34, t, ds⟩ s1) := by kernel_rfl

/- 124 (potence/grain.plan).targets: 2 in, 6 slots, 0 hard -/
theorem e124 (O : Orc) (a0 a1 : Value) (s : St) (F : Value → St → Prop) : wpF Tryz.prog O isP 124 [a0, a1] s F =
  (bindP (boxN a0 s) fun t0 s1 =>
  bindP (boxN a1 s1) fun t2 s3 =>
  bindP (.ok (.func (.func 147) ⟨[]⟩ ⟨[t2, t0]⟩) s3) fun t4 s5 =>
  bindP (.ok t4 s5) F) := by kernel_rfl

/- 147 (potence/grain.plan).targets$1: 3 in, 24 slots, 0 hard -/
theorem e147 (O : Orc) (a0 a1 a2 : Value) (s : St) (F : Value → St → Prop) : wpF Tryz.prog O isP 147 [a0, a1, a2] s F =
  (bindP (loadA .one a1 s) fun t0 s1 =>
  RunsC Tryz.prog O (.loop (cA (cA (cZ (cOf Tryz.prog 147))))) none ⟨24, (fs (setArgs [a0, a1, a2] 0 regs0) [(5, t0), (4, t0)]), []⟩ s1 (blockK 0 (outK Tryz.prog Tryz.f147 F))) := by kernel_rfl
theorem o147 (F : Value → St → Prop) (t : Regs) (s : St) : outK Tryz.prog Tryz.f147 F .ret ⟨24, t, []⟩ s =
  (bindP (.ok (.tuple ⟨[]⟩) s) F) := by kernel_rfl
theorem od147 (F : Value → St → Prop) (t : Regs) (ds : List Nat) (s : St) : outK Tryz.prog Tryz.f147 F .ret ⟨24, t, ds⟩ s =
  (leaveK ds s fun s => bindP (.ok (.tuple ⟨[]⟩) s) F) := by kernel_rfl
theorem on147 (F : Value → St → Prop) (t : Regs) (ds : List Nat) (s : St) : outK Tryz.prog Tryz.f147 F .normal ⟨24, t, ds⟩ s =
  (leaveK ds s fun s => bindP (.ok (.tuple ⟨[]⟩) s) F) := by kernel_rfl
theorem e147_b0 (O : Orc) (ro : Option Nat) (t : Regs) (ds : List Nat) (s : St) (Q : Kt) : wp Tryz.prog O isP ro (cA (cA (cZ (cOf Tryz.prog 147)))) ⟨24, t, ds⟩ s Q =
  (bindP (reO (movP (gt t 2) 0) s) fun t0 s1 =>
  bindP (reO (movP t0 2) s1) fun t2 s3 =>
  bindP (loadA .one t2 s3) fun t4 s5 =>
  bindP (reO (lenK .sl t4 s5) s5) fun t6 s7 =>
  bindP (reO (binK .lss .no (gt t 4) t6) s7) fun t8 s9 =>
  bindP (guarded (isBool t8 true) (loadA (.agg 4) (gt t 2) s9) s9) fun t10 s11 =>
  bindP (guarded (isBool t8 true) (loadA .one (gt t 1) s11) s11) fun t12 s13 =>
  bindP (guarded (isBool t8 true) (.ok (gt t 4) s13) s13) fun t14 s15 =>
  bindO (guardO (isBool t8 true) (pcall O 118 [t10, t12, t14] s15)) fun t16 =>
  bindP (pickK t8 t16 (.bool false) s15) fun t17 s18 =>
  condP t17
  (CallP Tryz.prog O (gt t 0) [(gt t 4)] s18 fun t19 s20 =>
  bindP (reO (unA .not t19) s20) fun t21 s22 =>
  condP t21
  (Q .ret ⟨24, (fs t [(6, (gt t 4)), (7, t0), (8, t2), (9, t4), (10, t6), (11, t8), (12, t8), (13, t10), (14, t12), (15, t14), (16, t16), (17, t17), (20, (gt t 0)), (21, (gt t 4)), (22, t19), (23, t21)]), ds⟩ s22)
  (bindP (reO (binK .add .no (gt t 4) (.int .i64 (1))) s22) fun t23 s24 =>
  Q .normal ⟨24, (fs t [(6, (gt t 4)), (7, t0), (8, t2), (9, t4), (10, t6), (11, t8), (12, t8), (13, t10), (14, t12), (15, t14), (16, t16), (17, t17), (20, (gt t 0)), (21, (gt t 4)), (22, t19), (23, t21), (18, (gt t 4)), (19, t23), (4, t23)]), ds⟩ s24))
  (Q (.exit 0) ⟨24, (fs t [(6, (gt t 4)), (7, t0), (8, t2), (9, t4), (10, t6), (11, t8), (12, t8), (13, t10), (14, t12), (15, t14), (16, t16), (17, t17)]), ds⟩ s18)) := by kernel_rfl

/- 144 (potence/grain.plan).sources: 2 in, 6 slots, 0 hard -/
theorem e144 (O : Orc) (a0 a1 : Value) (s : St) (F : Value → St → Prop) : wpF Tryz.prog O isP 144 [a0, a1] s F =
  (bindP (boxN a0 s) fun t0 s1 =>
  bindP (boxN a1 s1) fun t2 s3 =>
  bindP (.ok (.func (.func 163) ⟨[]⟩ ⟨[t2, t0]⟩) s3) fun t4 s5 =>
  bindP (.ok t4 s5) F) := by kernel_rfl

/- 128 potence/grain.least[int]: 2 in, 23 slots, 0 hard -/
theorem e128 (O : Orc) (a0 a1 : Value) (s : St) (F : Value → St → Prop) : wpF Tryz.prog O isP 128 [a0, a1] s F =
  (bindP (boxN a1 s) fun t0 s1 =>
  bindP (boxK [(.int .i64 (0))] s1) fun t2 s3 =>
  bindP (boxK [(.bool false)] s3) fun t4 s5 =>
  bindP (storeN .one t4 (.bool false) s5) fun t6 s7 =>
  RunsC Tryz.prog O (.rangeFunc (.tmp 9) ⟨[10]⟩ (cA (cA (cZ (cA (cZ (cZ (cZ (cOf Tryz.prog 128)))))))) (cZ (cA (cZ (cA (cZ (cZ (cZ (cOf Tryz.prog 128))))))))) none ⟨23, (fs (setArgs [a0, a1] 0 regs0) [(3, t0), (4, (.int .i64 (0))), (5, (.bool false)), (6, t2), (7, t4), (9, a0)]), []⟩ s7 (blockK 0 (seqK Tryz.prog O isP none (cZ (cZ (cZ (cZ (cOf Tryz.prog 128))))) (outK Tryz.prog Tryz.f128 F)))) := by kernel_rfl
theorem o128 (F : Value → St → Prop) (t : Regs) (s : St) : outK Tryz.prog Tryz.f128 F .ret ⟨23, t, []⟩ s =
  (bindP (.ok (.tuple ⟨[(gt t 4), (gt t 5)]⟩) s) F) := by kernel_rfl
theorem od128 (F : Value → St → Prop) (t : Regs) (ds : List Nat) (s : St) : outK Tryz.prog Tryz.f128 F .ret ⟨23, t, ds⟩ s =
  (leaveK ds s fun s => bindP (.ok (.tuple ⟨[(gt t 4), (gt t 5)]⟩) s) F) := by kernel_rfl
theorem on128 (F : Value → St → Prop) (t : Regs) (ds : List Nat) (s : St) : outK Tryz.prog Tryz.f128 F .normal ⟨23, t, ds⟩ s =
  (leaveK ds s fun s => bindP (.ok (.tuple ⟨[(gt t 4), (gt t 5)]⟩) s) F) := by kernel_rfl
theorem e128_b0 (O : Orc) (ro : Option Nat) (t : Regs) (ds : List Nat) (s : St) (Q : Kt) : wp Tryz.prog O isP ro (cA (cA (cZ (cA (cZ (cZ (cZ (cOf Tryz.prog 128)))))))) ⟨23, t, ds⟩ s Q =
  (Q .normal ⟨23, (fs t [(8, (gt t 10))]), ds⟩ s) := by kernel_rfl
theorem e128_b1 (O : Orc) (ro : Option Nat) (t : Regs) (ds : List Nat) (s : St) (Q : Kt) : wp Tryz.prog O isP ro (cZ (cA (cZ (cA (cZ (cZ (cZ (cOf Tryz.prog 128)))))))) ⟨23, t, ds⟩ s Q =
  (bindP (loadA .one (gt t 7) s) fun t0 s1 =>
  bindP (reO (unA .not t0) s1) fun t2 s3 =>
  bindP (guarded (isBool t2 false) (loadA .one (gt t 3) s3) s3) fun t4 s5 =>
  bindP (guarded (isBool t2 false) (.ok (gt t 8) s5) s5) fun t6 s7 =>
  bindP (guarded (isBool t2 false) (loadA .one (gt t 6) s7) s7) fun t8 s9 =>
  callG (isBool t2 false) Tryz.prog O t4 [t6, t8] s9 fun t10 s11 =>
  bindP (guarded (isBool t2 false) (reO (binK .lss .no t10 (.int .i64 (0))) s11) s11) fun t12 s13 =>
  bindP (pickK t2 (.bool true) t12 s13) fun t14 s15 =>
  condP t14
  (bindP (storeN .one (gt t 6) (gt t 8) s15) fun t16 s17 =>
  bindP (storeN .one (gt t 7) (.bool true) s17) fun t18 s19 =>
  Q .normal ⟨23, (fs t [(11, t0), (12, t2), (13, t2), (14, t4), (15, t6), (16, t8), (17, t10), (18, t12), (19, t14), (20, (gt t 8))]), ds⟩ s19)
  (Q .normal ⟨23, (fs t [(11, t0), (12, t2), (13, t2), (14, t4), (15, t6), (16, t8), (17, t10), (18, t12), (19, t14)]), ds⟩ s15)) := by kernel_rfl
theorem e128_r0 (O : Orc) (ro : Option Nat) (t : Regs) (ds : List Nat) (s : St) (Q : Kt) : wp Tryz.prog O isP ro (cZ (cZ (cZ (cZ (cOf Tryz.prog 128))))) ⟨23, t, ds⟩ s Q =
  (bindP (loadA .one (gt t 6) s) fun t0 s1 =>
  andP (belL [(gt t 6)] s) <|
  bindP (loadA .one (gt t 7) s1) fun t2 s3 =>
  andP (belL [(gt t 7)] s1) <|
  Q .ret ⟨23, (fs t [(21, t0), (22, t2), (4, t0), (5, t2)]), ds⟩ s3) := by kernel_rfl

/- 145 (potence/grain.plan).courses$1: 3 in, 17 slots, 0 hard -/
theorem e145 (O : Orc) (a0 a1 a2 : Value) (s : St) (F : Value → St → Prop) : wpF Tryz.prog O isP 145 [a0, a1, a2] s F =
  (bindP (loadA .one a2 s) fun t0 s1 =>
  andP (belL [a2] s) <|
  bindP (reO (idxK (.sl 3) t0 a0) s1) fun t2 s3 =>
  bindP (reO (movP t2 0) s3) fun t4 s5 =>
  bindP (loadA .one t4 s5) fun t6 s7 =>
  andP (belL [t4] s5) <|
  bindP (loadA .one a2 s7) fun t8 s9 =>
  andP (belL [a2] s7) <|
  bindP (reO (idxK (.sl 3) t8 a1) s9) fun t10 s11 =>
  bindP (reO (movP t10 0) s11) fun t12 s13 =>
  bindP (loadA .one t12 s13) fun t14 s15 =>
  andP (belL [t12] s13) <|
  bindO (pcall O 129 [t6, t14] s15) fun t16 =>
  andP (belL [(.func (.func 129) #[] #[]), t6, t14] s15) <|
  bindP (.ok t16 s15) F) := by kernel_rfl

/- 129 cmp.Compare[int]: 2 in, 20 slots, 0 hard -/
theorem e129 (O : Orc) (a0 a1 : Value) (s : St) (F : Value → St → Prop) : wpF Tryz.prog O isP 129 [a0, a1] s F =
  (bindO (pcall O 149 [a0] s) fun t0 =>
  bindO (pcall O 149 [a1] s) fun t1 =>
  condP t0
  (condP t1
  (bindP (.ok (.int .i64 (0)) s) F)
  (bindP (.ok (.int .i64 (-1)) s) F))
  (condP t1
  (bindP (.ok (.int .i64 (1)) s) F)
  (bindP (reO (binK .lss .no a0 a1) s) fun t2 s3 =>
  condP t2
  (bindP (.ok (.int .i64 (-1)) s3) F)
  (bindP (reO (binK .gtr .no a0 a1) s3) fun t4 s5 =>
  condP t4
  (bindP (.ok (.int .i64 (1)) s5) F)
  (bindP (.ok (.int .i64 (0)) s5) F))))) := by kernel_rfl

/- 149 cmp.isNaN[int]: 1 in, 6 slots, 0 hard -/
theorem e149 (O : Orc) (a0 : Value) (s : St) (F : Value → St → Prop) : wpF Tryz.prog O isP 149 [a0] s F =
  (bindP (reO (binK .neq .no a0 a0) s) fun t0 s1 =>
  bindP (.ok t0 s1) F) := by kernel_rfl

end Go.Proofs.YtolgomkmilbkgaaGreat

set_option autoImplicit false
set_option linter.unusedVariables false
set_option maxRecDepth 1000000
namespace Go.Proofs.YtolgomkmilbkgaaGreat
open Go.Proofs.YtolgomkmilbkgaaGreat.Ev
/- 117 slices.Repeat[[]int,int]: 2 in, 48 slots, 0 hard -/
theorem e117 (O : Orc) (a0 a1 : Value) (s : St) (F : Value → St → Prop) : wpF Tryz.prog O isP 117 [a0, a1] s F =
  (bindP (reO (binK .lss .no a1 (.int .i64 (0))) s) fun t0 s1 =>
  condP t0
  (bindP (.ok (.iface 9 (.string ⟨#[99, 97, 110, 110, 111, 116, 32, 98, 101, 32, 110, 101, 103, 97, 116, 105, 118, 101]⟩)) s1) fun t2 s3 =>
  False)
  (bindP (reO (lenK .sl a0 s1) s1) fun t4 s5 =>
  bindP (reO (convK (.int .u64) t4 s5) s5) fun t6 s7 =>
  bindP (reO (convK (.int .u64) a1 s7) s7) fun t8 s9 =>
  bindO (pcall O 146 [t6, t8] s9) fun t10 =>
  bindP (extractK t10 0 s9) fun t11 s12 =>
  bindP (extractK t10 1 s12) fun t13 s14 =>
  bindP (reO (binK .gtr .no t11 (.int .u64 (0))) s14) fun t15 s16 =>
  bindP (guarded (isBool t15 false) (.ok t13 s16) s16) fun t17 s18 =>
  bindP (guarded (isBool t15 false) (reO (binK .gtr .no t17 (.int .u64 (9223372036854775807))) s18) s18) fun t19 s20 =>
  bindP (pickK t15 (.bool true) t19 s20) fun t21 s22 =>
  condP t21
  (bindP (.ok (.iface 9 (.string ⟨#[116, 104, 101, 32, 114, 101, 115, 117, 108, 116, 32, 111, 102, 32, 40, 108, 101, 110, 40, 120, 41, 32, 42, 32, 99, 111, 117, 110, 116, 41, 32, 111, 118, 101, 114, 102, 108, 111, 119, 115]⟩)) s22) fun t23 s24 =>
  False)
  (bindP (reO (convK (.int .i64) t13 s22) s22) fun t25 s26 =>
  bindP (makeSliceA (.mk 1 [(.int .i64 (0))] true) t25 t25 s26) fun t27 s28 =>
  bindP (copyN 1 t27 a0 s28) fun t29 s30 =>
  RunsC Tryz.prog O (.loop (cA (cA (cA (cZ (cZ (cZ (cZ (cZ (cZ (cOf Tryz.prog 117))))))))))) none ⟨48, (fs (setArgs [a0, a1] 0 regs0) [(4, (.slice none 0 0)), (9, a1), (10, t0), (13, a0), (14, t4), (15, t6), (16, a1), (17, t8), (18, t10), (12, t10), (19, t11), (20, t13), (5, t11), (6, t13), (21, t11), (22, t15), (23, t15), (24, t17), (25, t19), (26, t21), (28, t13), (29, t25), (30, t27), (7, t27), (31, t27), (32, a0), (33, t29), (8, t29)]), []⟩ s30 (blockK 0 (seqK Tryz.prog O isP none (cZ (cZ (cZ (cZ (cZ (cZ (cZ (cOf Tryz.prog 117)))))))) (outK Tryz.prog Tryz.f117 F)))))) := by kernel_rfl
theorem o117 (F : Value → St → Prop) (t : Regs) (s : St) : outK Tryz.prog Tryz.f117 F .ret ⟨48, t, []⟩ s =
  (bindP (.ok (gt t 4) s) F) := by kernel_rfl
theorem od117 (F : Value → St → Prop) (t : Regs) (ds : List Nat) (s : St) : outK Tryz.prog Tryz.f117 F .ret ⟨48, t, ds⟩ s =
  (leaveK ds s fun s => bindP (.ok (gt t 4) s) F) := by kernel_rfl
theorem on117 (F : Value → St → Prop) (t : Regs) (ds : List Nat) (s : St) : outK Tryz.prog Tryz.f117 F .normal ⟨48, t, ds⟩ s =
  (leaveK ds s fun s => bindP (.ok (gt t 4) s) F) := by kernel_rfl
theorem e117_b0 (O : Orc) (ro : Option Nat) (t : Regs) (ds : List Nat) (s : St) (Q : Kt) : wp Tryz.prog O isP ro (cA (cA (cA (cZ (cZ (cZ (cZ (cZ (cZ (cOf Tryz.prog 117)))))))))) ⟨48, t, ds⟩ s Q =
  (bindP (reO (lenK .sl (gt t 7) s) s) fun t0 s1 =>
  bindP (reO (binK .lss .no (gt t 8) t0) s1) fun t2 s3 =>
  condP t2
  (bindP (reO (sliceK (.sl 1) (gt t 7) (some (gt t 8)) none s3) s3) fun t4 s5 =>
  andP (belL [(gt t 7), (gt t 8)] s3) <|
  bindP (reO (sliceK (.sl 1) (gt t 7) none (some (gt t 8)) s5) s5) fun t6 s7 =>
  andP (belL [(gt t 7), (gt t 8)] s5) <|
  bindP (copyN 1 t4 t6 s7) fun t8 s9 =>
  andP (bsel (belL [t4, t6] s7) (nextLe s7 s9) false) <|
  bindP (reO (binK .add .no (gt t 8) t8) s9) fun t10 s11 =>
  Q .normal ⟨48, (fs t [(34, (gt t 8)), (35, (gt t 7)), (36, t0), (37, t2), (38, (gt t 8)), (39, (gt t 7)), (40, (gt t 8)), (41, t4), (42, (gt t 7)), (43, (gt t 8)), (44, t6), (45, t8), (46, t10), (8, t10)]), ds⟩ s11)
  (Q (.exit 0) ⟨48, (fs t [(34, (gt t 8)), (35, (gt t 7)), (36, t0), (37, t2)]), ds⟩ s3)) := by kernel_rfl
theorem e117_r0 (O : Orc) (ro : Option Nat) (t : Regs) (ds : List Nat) (s : St) (Q : Kt) : wp Tryz.prog O isP ro (cZ (cZ (cZ (cZ (cZ (cZ (cZ (cOf Tryz.prog 117)))))))) ⟨48, t, ds⟩ s Q =
  (Q .ret ⟨48, (fs t [(47, (gt t 7)), (4, (gt t 7))]), ds⟩ s) := by kernel_rfl

/- 143 slices.Repeat[[]potence/grain.course,potence/grain.course]: 2 in, 48 slots, 0 hard -/
theorem e143 (O : Orc) (a0 a1 : Value) (s : St) (F : Value → St → Prop) : wpF Tryz.prog O isP 143 [a0, a1] s F =
  (bindP (reO (binK .lss .no a1 (.int .i64 (0))) s) fun t0 s1 =>
  condP t0
  (bindP (.ok (.iface 9 (.string ⟨#[99, 97, 110, 110, 111, 116, 32, 98, 101, 32, 110, 101, 103, 97, 116, 105, 118, 101]⟩)) s1) fun t2 s3 =>
  False)
  (bindP (reO (lenK .sl a0 s1) s1) fun t4 s5 =>
  bindP (reO (convK (.int .u64) t4 s5) s5) fun t6 s7 =>
  bindP (reO (convK (.int .u64) a1 s7) s7) fun t8 s9 =>
  bindO (pcall O 146 [t6, t8] s9) fun t10 =>
  bindP (extractK t10 0 s9) fun t11 s12 =>
  bindP (extractK t10 1 s12) fun t13 s14 =>
  bindP (reO (binK .gtr .no t11 (.int .u64 (0))) s14) fun t15 s16 =>
  bindP (guarded (isBool t15 false) (.ok t13 s16) s16) fun t17 s18 =>
  bindP (guarded (isBool t15 false) (reO (binK .gtr .no t17 (.int .u64 (9223372036854775807))) s18) s18) fun t19 s20 =>
  bindP (pickK t15 (.bool true) t19 s20) fun t21 s22 =>
  condP t21
  (bindP (.ok (.iface 9 (.string ⟨#[116, 104, 101, 32, 114, 101, 115, 117, 108, 116, 32, 111, 102, 32, 40, 108, 101, 110, 40, 120, 41, 32, 42, 32, 99, 111, 117, 110, 116, 41, 32, 111, 118, 101, 114, 102, 108, 111, 119, 115]⟩)) s22) fun t23 s24 =>
  False)
  (bindP (reO (convK (.int .i64) t13 s22) s22) fun t25 s26 =>
  bindP (makeSliceA (.mk 3 [(.int .i64 (0)), (.int .i64 (0)), (.int .i64 (0))] true) t25 t25 s26) fun t27 s28 =>
  bindP (copyN 3 t27 a0 s28) fun t29 s30 =>
  RunsC Tryz.prog O (.loop (cA (cA (cA (cZ (cZ (cZ (cZ (cZ (cZ (cOf Tryz.prog 143))))))))))) none ⟨48, (fs (setArgs [a0, a1] 0 regs0) [(4, (.slice none 0 0)), (9, a1), (10, t0), (13, a0), (14, t4), (15, t6), (16, a1), (17, t8), (18, t10), (12, t10), (19, t11), (20, t13), (5, t11), (6, t13), (21, t11), (22, t15), (23, t15), (24, t17), (25, t19), (26, t21), (28, t13), (29, t25), (30, t27), (7, t27), (31, t27), (32, a0), (33, t29), (8, t29)]), []⟩ s30 (blockK 0 (seqK Tryz.prog O isP none (cZ (cZ (cZ (cZ (cZ (cZ (cZ (cOf Tryz.prog 143)))))))) (outK Tryz.prog Tryz.f143 F)))))) := by kernel_rfl
theorem o143 (F : Value → St → Prop) (t : Regs) (s : St) : outK Tryz.prog Tryz.f143 F .ret ⟨48, t, []⟩ s =
  (bindP (.ok (gt t 4) s) F) := by kernel_rfl
theorem od143 (F : Value → St → Prop) (t : Regs) (ds : List Nat) (s : St) : outK Tryz.prog Tryz.f143 F .ret ⟨48, t, ds⟩ s =
  (leaveK ds s fun s => bindP (.ok (gt t 4) s) F) := by kernel_rfl
theorem on143 (F : Value → St → Prop) (t : Regs) (ds : List Nat) (s : St) : outK Tryz.prog Tryz.f143 F .normal ⟨48, t, ds⟩ s =
  (leaveK ds s fun s => bindP (.ok (gt t 4) s) F) := by kernel_rfl
theorem e143_b0 (O : Orc) (ro : Option Nat) (t : Regs) (ds : List Nat) (s : St) (Q : Kt) : wp Tryz.prog O isP ro (cA (cA (cA (cZ (cZ (cZ (cZ (cZ (cZ (cOf Tryz.prog 143)))))))))) ⟨48, t, ds⟩ s Q =
  (bindP (reO (lenK .sl (gt t 7) s) s) fun t0 s1 =>
  bindP (reO (binK .lss .no (gt t 8) t0) s1) fun t2 s3 =>
  condP t2
  (bindP (reO (sliceK (.sl 3) (gt t 7) (some (gt t 8)) none s3) s3) fun t4 s5 =>
  andP (belL [(gt t 7), (gt t 8)] s3) <|
  bindP (reO (sliceK (.sl 3) (gt t 7) none (some (gt t 8)) s5) s5) fun t6 s7 =>
  andP (belL [(gt t 7), (gt t 8)] s5) <|
  bindP (copyN 3 t4 t6 s7) fun t8 s9 =>
  andP (bsel (belL [t4, t6] s7) (nextLe s7 s9) false) <|
  bindP (reO (binK .add .no (gt t 8) t8) s9) fun t10 s11 =>
  Q .normal ⟨48, (fs t [(34, (gt t 8)), (35, (gt t 7)), (36, t0), (37, t2), (38, (gt t 8)), (39, (gt t 7)), (40, (gt t 8)), (41, t4), (42, (gt t 7)), (43, (gt t 8)), (44, t6), (45, t8), (46, t10), (8, t10)]), ds⟩ s11)
  (Q (.exit 0) ⟨48, (fs t [(34, (gt t 8)), (35, (gt t 7)), (36, t0), (37, t2)]), ds⟩ s3)) := by kernel_rfl
theorem e143_r0 (O : Orc) (ro : Option Nat) (t : Regs) (ds : List Nat) (s : St) (Q : Kt) : wp Tryz.prog O isP ro (cZ (cZ (cZ (cZ (cZ (cZ (cZ (cOf Tryz.prog 143)))))))) ⟨48, t, ds⟩ s Q =
  (Q .ret ⟨48, (fs t [(47, (gt t 7)), (4, (gt t 7))]), ds⟩ s) := by kernel_rfl

/- 163 (potence/grain.plan).sources$1: 3 in, 21 slots, 0 hard -/
theorem e163 (O : Orc) (a0 a1 a2 : Value) (s : St) (F : Value → St → Prop) : wpF Tryz.prog O isP 163 [a0, a1, a2] s F =
  (bindP (loadA .one a1 s) fun t0 s1 =>
  bindP (reO (binK .add .no t0 (.int .i64 (1))) s1) fun t2 s3 =>
  RunsC Tryz.prog O (.loop (cA (cA (cZ (cOf Tryz.prog 163))))) none ⟨21, (fs (setArgs [a0, a1, a2] 0 regs0) [(5, t0), (6, t2), (7, (.int .i64 (0)))]), []⟩ s3 (blockK 0 (outK Tryz.prog Tryz.f163 F))) := by kernel_rfl
theorem o163 (F : Value → St → Prop) (t : Regs) (s : St) : outK Tryz.prog Tryz.f163 F .ret ⟨21, t, []⟩ s =
  (bindP (.ok (.tuple ⟨[]⟩) s) F) := by kernel_rfl
theorem od163 (F : Value → St → Prop) (t : Regs) (ds : List Nat) (s : St) : outK Tryz.prog Tryz.f163 F .ret ⟨21, t, ds⟩ s =
  (leaveK ds s fun s => bindP (.ok (.tuple ⟨[]⟩) s) F) := by kernel_rfl
theorem on163 (F : Value → St → Prop) (t : Regs) (ds : List Nat) (s : St) : outK Tryz.prog Tryz.f163 F .normal ⟨21, t, ds⟩ s =
  (leaveK ds s fun s => bindP (.ok (.tuple ⟨[]⟩) s) F) := by kernel_rfl
theorem e163_b0 (O : Orc) (ro : Option Nat) (t : Regs) (ds : List Nat) (s : St) (Q : Kt) : wp Tryz.prog O isP ro (cA (cA (cZ (cOf Tryz.prog 163)))) ⟨21, t, ds⟩ s Q =
  (bindP (reO (binK .lss .no (gt t 7) (gt t 6)) s) fun t0 s1 =>
  condP t0
  (bindP (loadA (.agg 4) (gt t 2) s1) fun t2 s3 =>
  bindP (loadA .one (gt t 1) s3) fun t4 s5 =>
  bindO (pcall O 118 [t2, (gt t 7), t4] s5) fun t6 =>
  bindP (guarded (isBool t6 true) (.ok (gt t 0) s5) s5) fun t7 s8 =>
  bindP (guarded (isBool t6 true) (.ok (gt t 7) s8) s8) fun t9 s10 =>
  callG (isBool t6 true) Tryz.prog O t7 [t9] s10 fun t11 s12 =>
  bindP (guarded (isBool t6 true) (reO (unA .not t11) s12) s12) fun t13 s14 =>
  bindP (pickK t6 t13 (.bool false) s14) fun t15 s16 =>
  condP t15
  (Q .ret ⟨21, (fs t [(8, t0), (9, (gt t 7)), (4, (gt t 7)), (10, t2), (11, (gt t 7)), (12, t4), (13, t6), (14, t6), (15, t7), (16, t9), (17, t11), (18, t13), (19, t15)]), ds⟩ s16)
  (bindP (reO (binK .add .no (gt t 7) (.int .i64 (1))) s16) fun t17 s18 =>
  Q .normal ⟨21, (fs t [(8, t0), (9, (gt t 7)), (4, (gt t 7)), (10, t2), (11, (gt t 7)), (12, t4), (13, t6), (14, t6), (15, t7), (16, t9), (17, t11), (18, t13), (19, t15), (20, t17), (7, t17)]), ds⟩ s18))
  (Q (.exit 0) ⟨21, (fs t [(8, t0)]), ds⟩ s1)) := by kernel_rfl

end Go.Proofs.YtolgomkmilbkgaaGreat

