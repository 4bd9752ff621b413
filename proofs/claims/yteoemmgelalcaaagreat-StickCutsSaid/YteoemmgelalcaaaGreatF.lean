import Derived.Test.YteoemmgelalcaaaGreatVI
set_option autoImplicit false
set_option linter.unusedVariables false
set_option maxRecDepth 1000000
namespace Go.Proofs.YteoemmgelalcaaaGreat
open Go.Proofs.YteoemmgelalcaaaGreat.Ev
/- 3 potence/potencelaw09.StickCuts: 2 in, 57 slots, 0 hard -/
theorem e3 (O : Orc) (a0 a1 : Value) (s : St) (F : Value → St → Prop) : wpF Tryz.prog O isP 3 [a0, a1] s F =
  (bindO (pcall O 4 [] s) fun t0 =>
  bindP (reO (lenK .sl a0 s) s) fun t1 s2 =>
  bindP (reO (binK .gtr .no t1 (.int .i64 (60))) s2) fun t3 s4 =>
  bindP (guarded (isBool t3 false) (.ok a1 s4) s4) fun t5 s6 =>
  bindP (guarded (isBool t3 false) (reO (lenK .sl t5 s6) s6) s6) fun t7 s8 =>
  bindP (guarded (isBool t3 false) (reO (binK .gtr .no t7 (.int .i64 (70))) s8) s8) fun t9 s10 =>
  bindP (pickK t3 (.bool true) t9 s10) fun t11 s12 =>
  condP t11
  (bindP (.ok t0 s12) F)
  (RunsC Tryz.prog O (.loop (cA (cA (cZ (cA (cZ (cZ (cZ (cOf Tryz.prog 3))))))))) none ⟨57, (fs (setArgs [a0, a1] 0 regs0) [(4, (.bool false)), (11, t0), (5, t0), (12, a0), (13, t1), (14, t3), (15, t3), (16, t5), (17, t7), (18, t9), (19, t11), (6, (.int .i64 (0)))]), []⟩ s12 (blockK 0 (seqK Tryz.prog O isP none (cZ (cZ (cZ (cZ (cOf Tryz.prog 3))))) (outK Tryz.prog Tryz.f3 F))))) := by kernel_rfl
theorem o3 (F : Value → St → Prop) (t : Regs) (s : St) : outK Tryz.prog Tryz.f3 F .ret ⟨57, t, []⟩ s =
  (bindP (.ok (gt t 4) s) F) := by kernel_rfl
theorem e3_b0 (O : Orc) (ro : Option Nat) (t : Regs) (ds : List Nat) (s : St) (Q : Kt) : wp Tryz.prog O isP ro (cA (cA (cZ (cA (cZ (cZ (cZ (cOf Tryz.prog 3)))))))) ⟨57, t, ds⟩ s Q =
  (bindP (reO (lenK .sl (gt t 1) s) s) fun t0 s1 =>
  bindP (reO (binK .lss .no (gt t 6) t0) s1) fun t2 s3 =>
  condP t2
  (bindP (reO (idxK (.sl 1) (gt t 1) (gt t 6)) s3) fun t4 s5 =>
  bindP (loadA .one t4 s5) fun t6 s7 =>
  bindP (reO (lenK .sl t6 s7) s7) fun t8 s9 =>
  bindP (reO (binK .gtr .no t8 (.int .i64 (60))) s9) fun t10 s11 =>
  condP t10
  (Q .ret ⟨57, (fs t [(21, (gt t 6)), (22, (gt t 1)), (23, t0), (24, t2), (27, (gt t 1)), (28, (gt t 6)), (29, t4), (30, t6), (31, t8), (32, t10), (33, (gt t 5)), (4, (gt t 5))]), ds⟩ s11)
  (bindP (reO (binK .add .no (gt t 6) (.int .i64 (1))) s11) fun t12 s13 =>
  Q .normal ⟨57, (fs t [(21, (gt t 6)), (22, (gt t 1)), (23, t0), (24, t2), (27, (gt t 1)), (28, (gt t 6)), (29, t4), (30, t6), (31, t8), (32, t10), (25, (gt t 6)), (26, t12), (6, t12)]), ds⟩ s13))
  (Q (.exit 0) ⟨57, (fs t [(21, (gt t 6)), (22, (gt t 1)), (23, t0), (24, t2)]), ds⟩ s3)) := by kernel_rfl
theorem e3_r0 (O : Orc) (ro : Option Nat) (t : Regs) (ds : List Nat) (s : St) (Q : Kt) : wp Tryz.prog O isP ro (cZ (cZ (cZ (cZ (cOf Tryz.prog 3))))) ⟨57, t, ds⟩ s Q =
  (bindO (pcall O 5 [(gt t 0), (gt t 1)] s) fun t0 =>
  bindP (extractK t0 0 s) fun t1 s2 =>
  bindP (extractK t0 1 s2) fun t3 s4 =>
  bindP (boxK [(.int .i64 (0)), (.slice none 0 0)] s4) fun t5 s6 =>
  bindP (storeN (.agg 2) t5 t1 s6) fun t7 s8 =>
  bindO (pcall O 6 [(gt t 0), (gt t 1)] s8) fun t9 =>
  bindP (boxK [(.int .i64 (0)), (.slice none 0 0), (.int .i64 (0))] s8) fun t10 s11 =>
  bindP (storeN (.agg 3) t10 t9 s11) fun t12 s13 =>
  bindP (loadA (.agg 2) t5 s13) fun t14 s15 =>
  bindP (reO (movP t10 0) s15) fun t16 s17 =>
  bindP (loadA (.agg 2) t16 s17) fun t18 s19 =>
  bindO (pcall O 7 [t14, t18] s19) fun t20 =>
  bindP (guarded (isBool (gt t 5) true) (.ok t20 s19) s19) fun t21 s22 =>
  bindP (pickK (gt t 5) t21 (.bool false) s22) fun t23 s24 =>
  bindP (guarded (isBool t23 true) (.ok t3 s24) s24) fun t25 s26 =>
  bindP (guarded (isBool t23 true) (reO (movP t10 2) s26) s26) fun t27 s28 =>
  bindP (guarded (isBool t23 true) (loadA .one t27 s28) s28) fun t29 s30 =>
  bindP (guarded (isBool t23 true) (reO (binK .eql .no t25 t29) s30) s30) fun t31 s32 =>
  bindP (pickK t23 t31 (.bool false) s32) fun t33 s34 =>
  Q .ret ⟨57, (fs t [(35, (gt t 0)), (36, (gt t 1)), (37, t0), (34, t0), (38, t1), (39, t3), (7, t5), (8, t3), (40, (gt t 0)), (41, (gt t 1)), (42, t9), (9, t10), (43, t14), (44, t16), (45, t18), (46, t20), (10, t20), (47, (gt t 5)), (48, (gt t 5)), (49, t21), (50, t23), (51, t23), (52, t25), (53, t27), (54, t29), (55, t31), (56, t33), (4, t33)]), ds⟩ s34) := by kernel_rfl

/- 4 potence/potencelaw09.head: 0 in, 177 slots, 0 hard -/
theorem e4 (O : Orc) (a0 : Value) (s : St) (F : Value → St → Prop) : wpF Tryz.prog O isP 4 [] s F =
  (bindO (pcall O 8 [] s) fun t0 =>
  bindP (boxK [(.int .i64 (0)), (.slice none 0 0)] s) fun t1 s2 =>
  bindP (storeN (.agg 2) t1 t0 s2) fun t3 s4 =>
  bindP (loadA (.agg 2) t1 s4) fun t5 s6 =>
  bindO (pcall O 9 [t5] s6) fun t7 =>
  bindP (extractK t7 0 s6) fun t8 s9 =>
  bindP (extractK t7 1 s9) fun t10 s11 =>
  bindP (loadA (.agg 2) t1 s11) fun t12 s13 =>
  bindO (pcall O 10 [t12] s13) fun t14 =>
  bindP (extractK t14 0 s13) fun t15 s16 =>
  bindP (extractK t14 1 s16) fun t17 s18 =>
  bindP (loadA (.agg 2) t1 s18) fun t19 s20 =>
  bindO (pcall O 11 [t19] s20) fun t21 =>
  bindP (extractK t21 0 s20) fun t22 s23 =>
  bindP (extractK t21 1 s23) fun t24 s25 =>
  bindP (loadA (.agg 2) t1 s25) fun t26 s27 =>
  bindO (pcall O 12 [t26, (.int .i64 (1))] s27) fun t28 =>
  bindP (extractK t28 0 s27) fun t29 s30 =>
  bindP (extractK t28 1 s30) fun t31 s32 =>
  bindP (extractK t28 2 s32) fun t33 s34 =>
  bindP (loadA (.agg 2) t1 s34) fun t35 s36 =>
  bindP (buildSliceA (.mk 1 [(.int .i64 (0))] true) 2 [(0, (.int .i64 (2))), (1, (.int .i64 (4)))] s36) fun t37 s38 =>
  bindO (pcall O 13 [t35, t37] s38) fun t39 =>
  bindP (extractK t39 0 s38) fun t40 s41 =>
  bindP (extractK t39 1 s41) fun t42 s43 =>
  bindP (extractK t39 2 s43) fun t44 s45 =>
  bindP (loadA (.agg 2) t1 s45) fun t46 s47 =>
  bindO (pcall O 14 [t46] s47) fun t48 =>
  bindP (extractK t48 0 s47) fun t49 s50 =>
  bindP (extractK t48 1 s50) fun t51 s52 =>
  bindP (loadA (.agg 2) t1 s52) fun t53 s54 =>
  bindP (buildSliceA (.mk 1 [(.bool false)] true) 5 [(0, (.bool false)), (1, (.bool false)), (2, (.bool true)), (3, (.bool true)), (4, (.bool false))] s54) fun t55 s56 =>
  bindO (pcall O 15 [t53, t55] s56) fun t57 =>
  bindP (extractK t57 0 s56) fun t58 s59 =>
  bindP (extractK t57 1 s59) fun t60 s61 =>
  bindP (extractK t57 2 s61) fun t62 s63 =>
  bindP (loadA (.agg 2) t1 s63) fun t64 s65 =>
  bindP (buildSliceA (.mk 1 [(.int .i64 (0))] true) 2 [(0, (.int .i64 (0))), (1, (.int .i64 (1)))] s65) fun t66 s67 =>
  bindP (reO (buildA (.str [(.int .i64 (0)), (.slice none 0 0), (.bool false)] [(0, 1), (1, 1), (2, 1)]) [(0, (.int .i64 (5))), (1, t66), (2, (.bool true))]) s67) fun t68 s69 =>
  bindO (pcall O 16 [t64, t68] s69) fun t70 =>
  bindP (extractK t70 0 s69) fun t71 s72 =>
  bindP (extractK t70 1 s72) fun t73 s74 =>
  bindP (boxK [(.int .i64 (0)), (.slice none 0 0)] s74) fun t75 s76 =>
  bindP (storeN (.agg 2) t75 t71 s76) fun t77 s78 =>
  bindP (loadA (.agg 2) t75 s78) fun t79 s80 =>
  bindO (pcall O 17 [t79] s80) fun t81 =>
  bindP (extractK t81 0 s80) fun t82 s83 =>
  bindP (extractK t81 1 s83) fun t84 s85 =>
  bindP (loadA (.agg 2) t75 s85) fun t86 s87 =>
  bindO (pcall O 18 [t86] s87) fun t88 =>
  bindP (extractK t88 0 s87) fun t89 s90 =>
  bindP (extractK t88 1 s90) fun t91 s92 =>
  bindP (reO (binK .neq .no t10 (.int .i64 (0))) s92) fun t93 s94 =>
  bindP (guarded (isBool t93 false) (.ok t17 s94) s94) fun t95 s96 =>
  bindP (guarded (isBool t93 false) (reO (binK .neq .no t95 (.int .i64 (0))) s96) s96) fun t97 s98 =>
  bindP (pickK t93 (.bool true) t97 s98) fun t99 s100 =>
  bindP (guarded (isBool t99 false) (.ok t24 s100) s100) fun t101 s102 =>
  bindP (guarded (isBool t99 false) (reO (binK .neq .no t101 (.int .i64 (0))) s102) s102) fun t103 s104 =>
  bindP (pickK t99 (.bool true) t103 s104) fun t105 s106 =>
  bindP (guarded (isBool t105 false) (.ok t33 s106) s106) fun t107 s108 =>
  bindP (guarded (isBool t105 false) (reO (binK .neq .no t107 (.int .i64 (0))) s108) s108) fun t109 s110 =>
  bindP (pickK t105 (.bool true) t109 s110) fun t111 s112 =>
  bindP (guarded (isBool t111 false) (.ok t44 s112) s112) fun t113 s114 =>
  bindP (guarded (isBool t111 false) (reO (binK .neq .no t113 (.int .i64 (0))) s114) s114) fun t115 s116 =>
  bindP (pickK t111 (.bool true) t115 s116) fun t117 s118 =>
  bindP (guarded (isBool t117 false) (.ok t51 s118) s118) fun t119 s120 =>
  bindP (guarded (isBool t117 false) (reO (binK .neq .no t119 (.int .i64 (0))) s120) s120) fun t121 s122 =>
  bindP (pickK t117 (.bool true) t121 s122) fun t123 s124 =>
  bindP (guarded (isBool t123 false) (.ok t62 s124) s124) fun t125 s126 =>
  bindP (guarded (isBool t123 false) (reO (binK .neq .no t125 (.int .i64 (0))) s126) s126) fun t127 s128 =>
  bindP (pickK t123 (.bool true) t127 s128) fun t129 s130 =>
  bindP (guarded (isBool t129 false) (.ok t73 s130) s130) fun t131 s132 =>
  bindP (guarded (isBool t129 false) (reO (binK .neq .no t131 (.int .i64 (0))) s132) s132) fun t133 s134 =>
  bindP (pickK t129 (.bool true) t133 s134) fun t135 s136 =>
  bindP (guarded (isBool t135 false) (.ok t84 s136) s136) fun t137 s138 =>
  bindP (guarded (isBool t135 false) (reO (binK .neq .no t137 (.int .i64 (0))) s138) s138) fun t139 s140 =>
  bindP (pickK t135 (.bool true) t139 s140) fun t141 s142 =>
  bindP (guarded (isBool t141 false) (.ok t91 s142) s142) fun t143 s144 =>
  bindP (guarded (isBool t141 false) (reO (binK .neq .no t143 (.int .i64 (0))) s144) s144) fun t145 s146 =>
  bindP (pickK t141 (.bool true) t145 s146) fun t147 s148 =>
  condP t147
  (bindP (.ok (.bool false) s148) F)
  (bindP (buildSliceA (.mk 1 [(.bool false)] true) 5 [(0, (.bool true)), (1, (.bool true)), (2, (.bool false)), (3, (.bool false)), (4, (.bool true))] s148) fun t149 s150 =>
  bindO (pcall O 19 [t8, t149] s150) fun t151 =>
  bindP (guarded (isBool t151 true) (.ok t22 s150) s150) fun t152 s153 =>
  bindP (guarded (isBool t151 true) (reO (buildA (.str [(.int .i64 (0)), (.bool false)] [(0, 1), (1, 1)]) [(0, (.int .i64 (0))), (1, (.bool true))]) s153) s153) fun t154 s155 =>
  bindP (guarded (isBool t151 true) (reO (buildA (.str [(.int .i64 (0)), (.bool false)] [(0, 1), (1, 1)]) [(0, (.int .i64 (1))), (1, (.bool true))]) s155) s155) fun t156 s157 =>
  bindP (guarded (isBool t151 true) (buildSliceA (.mk 2 [(.int .i64 (0)), (.bool false)] true) 2 [(0, t154), (1, t156)] s157) s157) fun t158 s159 =>
  bindO (guardO (isBool t151 true) (pcall O 20 [t152, t158] s159)) fun t160 =>
  bindP (pickK t151 t160 (.bool false) s159) fun t161 s162 =>
  bindP (guarded (isBool t161 true) (.ok t29 s162) s162) fun t163 s164 =>
  bindP (guarded (isBool t161 true) (buildSliceA (.mk 1 [(.int .i64 (0))] true) 2 [(0, (.int .i64 (1))), (1, (.int .i64 (2)))] s164) s164) fun t165 s166 =>
  bindO (guardO (isBool t161 true) (pcall O 21 [t163, t165] s166)) fun t167 =>
  bindP (pickK t161 t167 (.bool false) s166) fun t168 s169 =>
  bindP (buildSliceA (.mk 1 [(.int .i64 (0))] true) 1 [(0, (.int .i64 (2)))] s169) fun t170 s171 =>
  bindO (pcall O 21 [t49, t170] s171) fun t172 =>
  bindP (guarded (isBool t172 true) (.ok t58 s171) s171) fun t173 s174 =>
  bindP (guarded (isBool t172 true) (buildSliceA (.mk 1 [(.bool false)] true) 5 [(0, (.bool true)), (1, (.bool true)), (2, (.bool true)), (3, (.bool true)), (4, (.bool false))] s174) s174) fun t175 s176 =>
  bindO (guardO (isBool t172 true) (pcall O 19 [t173, t175] s176)) fun t177 =>
  bindP (pickK t172 t177 (.bool false) s176) fun t178 s179 =>
  bindP (guarded (isBool t178 true) (.ok t82 s179) s179) fun t180 s181 =>
  bindP (guarded (isBool t178 true) (buildSliceA (.mk 1 [(.int .i64 (0))] true) 2 [(0, (.int .i64 (2))), (1, (.int .i64 (5)))] s181) s181) fun t182 s183 =>
  bindO (guardO (isBool t178 true) (pcall O 21 [t180, t182] s183)) fun t184 =>
  bindP (pickK t178 t184 (.bool false) s183) fun t185 s186 =>
  bindP (guarded (isBool t185 true) (.ok t89 s186) s186) fun t187 s188 =>
  bindP (guarded (isBool t185 true) (buildSliceA (.mk 1 [(.int .i64 (0))] true) 1 [(0, (.int .i64 (2)))] s188) s188) fun t189 s190 =>
  bindO (guardO (isBool t185 true) (pcall O 21 [t187, t189] s190)) fun t191 =>
  bindP (pickK t185 t191 (.bool false) s190) fun t192 s193 =>
  bindP (guarded (isBool t168 true) (.ok t192 s193) s193) fun t194 s195 =>
  bindP (pickK t168 t194 (.bool false) s195) fun t196 s197 =>
  bindP (guarded (isBool t196 true) (.ok t15 s197) s197) fun t198 s199 =>
  bindP (guarded (isBool t196 true) (reO (binK .eql .no t198 (.int .i64 (1))) s199) s199) fun t200 s201 =>
  bindP (pickK t196 t200 (.bool false) s201) fun t202 s203 =>
  bindP (guarded (isBool t202 true) (.ok t31 s203) s203) fun t204 s205 =>
  bindP (pickK t202 t204 (.bool false) s205) fun t206 s207 =>
  bindP (guarded (isBool t206 true) (.ok t40 s207) s207) fun t208 s209 =>
  bindP (pickK t206 t208 (.bool false) s209) fun t210 s211 =>
  bindP (guarded (isBool t210 true) (.ok t42 s211) s211) fun t212 s213 =>
  bindP (pickK t210 t212 (.bool false) s213) fun t214 s215 =>
  bindP (guarded (isBool t214 true) (.ok t60 s215) s215) fun t216 s217 =>
  bindP (guarded (isBool t214 true) (reO (binK .eql .no t216 (.int .i64 (2))) s217) s217) fun t218 s219 =>
  bindP (pickK t214 t218 (.bool false) s219) fun t220 s221 =>
  bindP (.ok t220 s221) F)) := by kernel_rfl

/- 5 potence/stick.Cut: 2 in, 57 slots, 0 hard -/
theorem e5 (O : Orc) (a0 a1 : Value) (s : St) (F : Value → St → Prop) : wpF Tryz.prog O isP 5 [a0, a1] s F =
  (bindP (boxK [(.int .i64 (0)), (.slice none 0 0)] s) fun t0 s1 =>
  bindP (reO (lenK .sl a0 s1) s1) fun t2 s3 =>
  bindO (pcall O 22 [(.int .i64 (1)), t2, (.int .i64 (48))] s3) fun t4 =>
  bindP (reO (unA .not t4) s3) fun t5 s6 =>
  condP t5
  (bindP (reO (buildA (.str [(.int .i64 (0)), (.slice none 0 0)] [(0, 1), (1, 1)]) []) s6) fun t7 s8 =>
  bindP (storeN (.agg 2) t0 t7 s8) fun t9 s10 =>
  bindP (resE [(cellR (.agg 2) t0 s10), (some (.int .i64 (1)))] s10) F)
  (bindP (reO (lenK .sl a1 s6) s6) fun t11 s12 =>
  bindP (reO (binK .gtr .no t11 (.int .i64 (60))) s12) fun t13 s14 =>
  condP t13
  (bindP (reO (buildA (.str [(.int .i64 (0)), (.slice none 0 0)] [(0, 1), (1, 1)]) []) s14) fun t15 s16 =>
  bindP (storeN (.agg 2) t0 t15 s16) fun t17 s18 =>
  bindP (resE [(cellR (.agg 2) t0 s18), (some (.int .i64 (2)))] s18) F)
  (bindP (reO (lenK .sl a0 s14) s14) fun t19 s20 =>
  bindP (reO (buildA (.str [(.int .i64 (0)), (.slice none 0 0)] [(0, 1), (1, 1)]) [(0, t19)]) s20) fun t21 s22 =>
  bindO (pcall O 23 [a0] s22) fun t23 =>
  bindP (boxK [(.int .i64 (0)), (.slice none 0 0)] s22) fun t24 s25 =>
  bindP (storeN (.agg 2) t24 t21 s25) fun t26 s27 =>
  bindP (reO (lenK .sl a1 s27) s27) fun t28 s29 =>
  RunsC Tryz.prog O (.loop (cA (cA (cZ (cA (cZ (cZ (cZ (cZ (cOf Tryz.prog 5)))))))))) none ⟨57, (fs (setArgs [a0, a1] 0 regs0) [(4, t0), (5, (.int .i64 (0))), (11, a0), (12, t2), (13, t4), (14, t5), (16, a1), (17, t11), (18, t13), (20, a0), (21, t19), (22, t21), (23, a0), (24, t23), (6, t24), (7, t23), (25, a1), (26, t28), (27, (.int .i64 (0)))]), []⟩ s29 (blockK 0 (seqK Tryz.prog O isP none (cZ (cZ (cZ (cZ (cZ (cOf Tryz.prog 5)))))) (outK Tryz.prog Tryz.f5 F)))))) := by kernel_rfl
theorem o5 (F : Value → St → Prop) (t : Regs) (s : St) : outK Tryz.prog Tryz.f5 F .ret ⟨57, t, []⟩ s =
  (bindP (resE [(cellR (.agg 2) (gt t 4) s), (some (gt t 5))] s) F) := by kernel_rfl
theorem e5_b0 (O : Orc) (ro : Option Nat) (t : Regs) (ds : List Nat) (s : St) (Q : Kt) : wp Tryz.prog O isP ro (cA (cA (cZ (cA (cZ (cZ (cZ (cZ (cOf Tryz.prog 5))))))))) ⟨57, t, ds⟩ s Q =
  (bindP (reO (binK .lss .no (gt t 27) (gt t 26)) s) fun t0 s1 =>
  condP t0
  (bindP (reO (idxK (.sl 1) (gt t 25) (gt t 27)) s1) fun t2 s3 =>
  bindP (loadA .one t2 s3) fun t4 s5 =>
  bindP (reO (movP (gt t 6) 0) s5) fun t6 s7 =>
  bindP (loadA .one t6 s7) fun t8 s9 =>
  bindO (pcall O 24 [t4, t8] s9) fun t10 =>
  bindP (reO (unA .not t10) s9) fun t11 s12 =>
  condP t11
  (bindP (reO (buildA (.str [(.int .i64 (0)), (.slice none 0 0)] [(0, 1), (1, 1)]) []) s12) fun t13 s14 =>
  bindP (storeN (.agg 2) (gt t 4) t13 s14) fun t15 s16 =>
  Q .ret ⟨57, (fs t [(28, t0), (29, (gt t 27)), (30, t2), (31, t4), (8, (gt t 27)), (9, t4), (32, t4), (33, t6), (34, t8), (35, t10), (36, t11), (37, t13), (5, (.int .i64 (1)))]), ds⟩ s16)
  (bindP (reO (binK .add .no (gt t 27) (.int .i64 (1))) s12) fun t17 s18 =>
  bindO (pcall O 25 [t4] s18) fun t19 =>
  bindP (reO (buildA (.str [(.int .i64 (0)), (.slice none 0 0), (.bool false)] [(0, 1), (1, 1), (2, 1)]) [(0, t17), (1, t19)]) s18) fun t20 s21 =>
  bindP (boxK [(.int .i64 (0)), (.slice none 0 0), (.bool false)] s21) fun t22 s23 =>
  bindP (storeN (.agg 3) t22 t20 s23) fun t24 s25 =>
  bindP (loadA (.agg 3) t22 s25) fun t26 s27 =>
  bindO (pcall O 26 [t26] s27) fun t28 =>
  bindO (pcall O 27 [t28, (gt t 7)] s27) fun t29 =>
  bindP (reO (unA .not t29) s27) fun t30 s31 =>
  bindP (reO (movP t22 2) s31) fun t32 s33 =>
  bindP (storeN .one t32 t30 s33) fun t34 s35 =>
  bindP (reO (movP (gt t 6) 1) s35) fun t36 s37 =>
  bindP (loadA .one t36 s37) fun t38 s39 =>
  bindP (loadA (.agg 3) t22 s39) fun t40 s41 =>
  bindP (buildSliceA (.mk 3 [(.int .i64 (0)), (.slice none 0 0), (.bool false)] true) 1 [(0, t40)] s41) fun t42 s43 =>
  bindP (appendN (.list 3) t38 t42 s43) fun t44 s45 =>
  bindP (reO (movP (gt t 6) 1) s45) fun t46 s47 =>
  bindP (storeN .one t46 t44 s47) fun t48 s49 =>
  bindP (reO (binK .add .no (gt t 27) (.int .i64 (1))) s49) fun t50 s51 =>
  Q .normal ⟨57, (fs t [(28, t0), (29, (gt t 27)), (30, t2), (31, t4), (8, (gt t 27)), (9, t4), (32, t4), (33, t6), (34, t8), (35, t10), (36, t11), (38, (gt t 27)), (39, t17), (40, t4), (41, t19), (42, t20), (10, t22), (43, t26), (44, t28), (45, (gt t 7)), (46, t29), (47, t30), (48, t32), (49, t36), (50, t38), (51, t40), (52, t42), (53, t44), (54, t46), (55, t50), (27, t50)]), ds⟩ s51))
  (Q (.exit 0) ⟨57, (fs t [(28, t0)]), ds⟩ s1)) := by kernel_rfl
theorem e5_r0 (O : Orc) (ro : Option Nat) (t : Regs) (ds : List Nat) (s : St) (Q : Kt) : wp Tryz.prog O isP ro (cZ (cZ (cZ (cZ (cZ (cOf Tryz.prog 5)))))) ⟨57, t, ds⟩ s Q =
  (bindP (loadA (.agg 2) (gt t 6) s) fun t0 s1 =>
  bindP (storeN (.agg 2) (gt t 4) t0 s1) fun t2 s3 =>
  Q .ret ⟨57, (fs t [(56, t0), (5, (.int .i64 (0)))]), ds⟩ s3) := by kernel_rfl

/- 6 potence/potenceref09.Cut: 2 in, 55 slots, 0 hard -/
theorem e6 (O : Orc) (a0 a1 : Value) (s : St) (F : Value → St → Prop) : wpF Tryz.prog O isP 6 [a0, a1] s F =
  (bindP (boxK [(.int .i64 (0)), (.slice none 0 0), (.int .i64 (0))] s) fun t0 s1 =>
  bindP (reO (lenK .sl a0 s1) s1) fun t2 s3 =>
  bindO (pcall O 28 [t2, (.int .i64 (1)), (.int .i64 (48))] s3) fun t4 =>
  bindP (reO (unA .not t4) s3) fun t5 s6 =>
  condP t5
  (bindP (reO (buildA (.str [(.int .i64 (0)), (.slice none 0 0), (.int .i64 (0))] [(0, 2), (2, 1)]) [(1, (.int .i64 (1)))]) s6) fun t7 s8 =>
  bindP (storeN (.agg 3) t0 t7 s8) fun t9 s10 =>
  bindP (resE [(cellR (.agg 3) t0 s10)] s10) F)
  (bindP (reO (lenK .sl a1 s6) s6) fun t11 s12 =>
  bindP (reO (binK .gtr .no t11 (.int .i64 (60))) s12) fun t13 s14 =>
  condP t13
  (bindP (reO (buildA (.str [(.int .i64 (0)), (.slice none 0 0), (.int .i64 (0))] [(0, 2), (2, 1)]) [(1, (.int .i64 (2)))]) s14) fun t15 s16 =>
  bindP (storeN (.agg 3) t0 t15 s16) fun t17 s18 =>
  bindP (resE [(cellR (.agg 3) t0 s18)] s18) F)
  (bindP (reO (lenK .sl a0 s14) s14) fun t19 s20 =>
  bindP (reO (buildA (.str [(.int .i64 (0)), (.slice none 0 0)] [(0, 1), (1, 1)]) [(0, t19)]) s20) fun t21 s22 =>
  bindP (boxK [(.int .i64 (0)), (.slice none 0 0)] s22) fun t23 s24 =>
  bindP (storeN (.agg 2) t23 t21 s24) fun t25 s26 =>
  RunsC Tryz.prog O (.loop (cA (cA (cZ (cA (cZ (cZ (cZ (cZ (cOf Tryz.prog 6)))))))))) none ⟨55, (fs (setArgs [a0, a1] 0 regs0) [(4, t0), (8, a0), (9, t2), (10, t4), (11, t5), (13, a1), (14, t11), (15, t13), (17, a0), (18, t19), (19, t21), (5, t23), (6, (.int .i64 (0)))]), []⟩ s26 (blockK 0 (seqK Tryz.prog O isP none (cZ (cZ (cZ (cZ (cZ (cOf Tryz.prog 6)))))) (outK Tryz.prog Tryz.f6 F)))))) := by kernel_rfl
theorem o6 (F : Value → St → Prop) (t : Regs) (s : St) : outK Tryz.prog Tryz.f6 F .ret ⟨55, t, []⟩ s =
  (bindP (resE [(cellR (.agg 3) (gt t 4) s)] s) F) := by kernel_rfl
theorem e6_b0 (O : Orc) (ro : Option Nat) (t : Regs) (ds : List Nat) (s : St) (Q : Kt) : wp Tryz.prog O isP ro (cA (cA (cZ (cA (cZ (cZ (cZ (cZ (cOf Tryz.prog 6))))))))) ⟨55, t, ds⟩ s Q =
  (bindP (reO (lenK .sl (gt t 1) s) s) fun t0 s1 =>
  bindP (reO (binK .lss .no (gt t 6) t0) s1) fun t2 s3 =>
  condP t2
  (bindP (reO (lenK .sl (gt t 0) s3) s3) fun t4 s5 =>
  bindP (reO (idxK (.sl 1) (gt t 1) (gt t 6)) s5) fun t6 s7 =>
  bindP (loadA .one t6 s7) fun t8 s9 =>
  bindO (pcall O 29 [t4, t8] s9) fun t10 =>
  bindP (reO (unA .not t10) s9) fun t11 s12 =>
  condP t11
  (bindP (reO (buildA (.str [(.int .i64 (0)), (.slice none 0 0), (.int .i64 (0))] [(0, 2), (2, 1)]) [(1, (.int .i64 (1)))]) s12) fun t13 s14 =>
  bindP (storeN (.agg 3) (gt t 4) t13 s14) fun t15 s16 =>
  Q .ret ⟨55, (fs t [(20, (gt t 6)), (21, (gt t 1)), (22, t0), (23, t2), (26, (gt t 0)), (27, t4), (28, (gt t 1)), (29, (gt t 6)), (30, t6), (31, t8), (32, t10), (33, t11), (34, t13)]), ds⟩ s16)
  (bindP (reO (binK .add .no (gt t 6) (.int .i64 (1))) s12) fun t17 s18 =>
  bindP (reO (idxK (.sl 1) (gt t 1) (gt t 6)) s18) fun t19 s20 =>
  bindP (loadA .one t19 s20) fun t21 s22 =>
  bindP (reO (buildA (.str [(.int .i64 (0)), (.slice none 0 0), (.bool false)] [(0, 1), (1, 1), (2, 1)]) [(0, t17), (1, t21)]) s22) fun t23 s24 =>
  bindP (boxK [(.int .i64 (0)), (.slice none 0 0), (.bool false)] s24) fun t25 s26 =>
  bindP (storeN (.agg 3) t25 t23 s26) fun t27 s28 =>
  bindP (loadA (.agg 3) t25 s28) fun t29 s30 =>
  bindO (pcall O 30 [t29, (gt t 0)] s30) fun t31 =>
  bindP (reO (unA .not t31) s30) fun t32 s33 =>
  bindP (reO (movP t25 2) s33) fun t34 s35 =>
  bindP (storeN .one t34 t32 s35) fun t36 s37 =>
  bindP (reO (movP (gt t 5) 1) s37) fun t38 s39 =>
  bindP (loadA .one t38 s39) fun t40 s41 =>
  bindP (loadA (.agg 3) t25 s41) fun t42 s43 =>
  bindP (buildSliceA (.mk 3 [(.int .i64 (0)), (.slice none 0 0), (.bool false)] true) 1 [(0, t42)] s43) fun t44 s45 =>
  bindP (appendN (.list 3) t40 t44 s45) fun t46 s47 =>
  bindP (reO (movP (gt t 5) 1) s47) fun t48 s49 =>
  bindP (storeN .one t48 t46 s49) fun t50 s51 =>
  bindP (reO (binK .add .no (gt t 6) (.int .i64 (1))) s51) fun t52 s53 =>
  Q .normal ⟨55, (fs t [(20, (gt t 6)), (21, (gt t 1)), (22, t0), (23, t2), (26, (gt t 0)), (27, t4), (28, (gt t 1)), (29, (gt t 6)), (30, t6), (31, t8), (32, t10), (33, t11), (35, (gt t 6)), (36, t17), (37, (gt t 1)), (38, (gt t 6)), (39, t19), (40, t21), (41, t23), (7, t25), (42, t29), (43, (gt t 0)), (44, t31), (45, t32), (46, t34), (47, t38), (48, t40), (49, t42), (50, t44), (51, t46), (52, t48), (24, (gt t 6)), (25, t52), (6, t52)]), ds⟩ s53))
  (Q (.exit 0) ⟨55, (fs t [(20, (gt t 6)), (21, (gt t 1)), (22, t0), (23, t2)]), ds⟩ s3)) := by kernel_rfl
theorem e6_r0 (O : Orc) (ro : Option Nat) (t : Regs) (ds : List Nat) (s : St) (Q : Kt) : wp Tryz.prog O isP ro (cZ (cZ (cZ (cZ (cZ (cOf Tryz.prog 6)))))) ⟨55, t, ds⟩ s Q =
  (bindP (loadA (.agg 2) (gt t 5) s) fun t0 s1 =>
  bindP (reO (buildA (.str [(.int .i64 (0)), (.slice none 0 0), (.int .i64 (0))] [(0, 2), (2, 1)]) [(0, t0)]) s1) fun t2 s3 =>
  bindP (storeN (.agg 3) (gt t 4) t2 s3) fun t4 s5 =>
  Q .ret ⟨55, (fs t [(53, t0), (54, t2)]), ds⟩ s5) := by kernel_rfl

/- 7 potence/potenceref09.SameStick: 2 in, 39 slots, 0 hard -/
theorem e7 (O : Orc) (a0 a1 : Value) (s : St) (F : Value → St → Prop) : wpF Tryz.prog O isP 7 [a0, a1] s F =
  (bindP (boxN a0 s) fun t0 s1 =>
  bindP (boxN a1 s1) fun t2 s3 =>
  bindP (reO (movP t0 0) s3) fun t4 s5 =>
  bindP (loadA .one t4 s5) fun t6 s7 =>
  bindP (reO (movP t2 0) s7) fun t8 s9 =>
  bindP (loadA .one t8 s9) fun t10 s11 =>
  bindP (reO (binK .neq .no t6 t10) s11) fun t12 s13 =>
  bindP (guarded (isBool t12 false) (reO (movP t0 1) s13) s13) fun t14 s15 =>
  bindP (guarded (isBool t12 false) (loadA .one t14 s15) s15) fun t16 s17 =>
  bindP (guarded (isBool t12 false) (reO (lenK .sl t16 s17) s17) s17) fun t18 s19 =>
  bindP (guarded (isBool t12 false) (reO (movP t2 1) s19) s19) fun t20 s21 =>
  bindP (guarded (isBool t12 false) (loadA .one t20 s21) s21) fun t22 s23 =>
  bindP (guarded (isBool t12 false) (reO (lenK .sl t22 s23) s23) s23) fun t24 s25 =>
  bindP (guarded (isBool t12 false) (reO (binK .neq .no t18 t24) s25) s25) fun t26 s27 =>
  bindP (pickK t12 (.bool true) t26 s27) fun t28 s29 =>
  condP t28
  (bindP (.ok (.bool false) s29) F)
  (RunsC Tryz.prog O (.loop (cA (cA (cZ (cA (cZ (cZ (cOf Tryz.prog 7)))))))) none ⟨39, (fs (setArgs [a0, a1] 0 regs0) [(2, t0), (3, t2), (4, (.bool false)), (6, t4), (7, t6), (8, t8), (9, t10), (10, t12), (11, t12), (12, t14), (13, t16), (14, t18), (15, t20), (16, t22), (17, t24), (18, t26), (19, t28), (5, (.int .i64 (0)))]), []⟩ s29 (blockK 0 (seqK Tryz.prog O isP none (cZ (cZ (cZ (cOf Tryz.prog 7)))) (outK Tryz.prog Tryz.f7 F))))) := by kernel_rfl
theorem o7 (F : Value → St → Prop) (t : Regs) (s : St) : outK Tryz.prog Tryz.f7 F .ret ⟨39, t, []⟩ s =
  (bindP (.ok (gt t 4) s) F) := by kernel_rfl
theorem e7_b0 (O : Orc) (ro : Option Nat) (t : Regs) (ds : List Nat) (s : St) (Q : Kt) : wp Tryz.prog O isP ro (cA (cA (cZ (cA (cZ (cZ (cOf Tryz.prog 7))))))) ⟨39, t, ds⟩ s Q =
  (bindP (reO (movP (gt t 2) 1) s) fun t0 s1 =>
  bindP (loadA .one t0 s1) fun t2 s3 =>
  bindP (reO (lenK .sl t2 s3) s3) fun t4 s5 =>
  bindP (reO (binK .lss .no (gt t 5) t4) s5) fun t6 s7 =>
  condP t6
  (bindP (reO (movP (gt t 2) 1) s7) fun t8 s9 =>
  bindP (loadA .one t8 s9) fun t10 s11 =>
  andP (belL [t8] s9) <|
  bindP (reO (idxK (.sl 3) t10 (gt t 5)) s11) fun t12 s13 =>
  bindP (loadA (.agg 3) t12 s13) fun t14 s15 =>
  andP (belL [t12] s13) <|
  bindP (reO (movP (gt t 3) 1) s15) fun t16 s17 =>
  bindP (loadA .one t16 s17) fun t18 s19 =>
  andP (belL [t16] s17) <|
  bindP (reO (idxK (.sl 3) t18 (gt t 5)) s19) fun t20 s21 =>
  bindP (loadA (.agg 3) t20 s21) fun t22 s23 =>
  andP (belL [t20] s21) <|
  bindO (pcall O 31 [t14, t22] s23) fun t24 =>
  andP (belL [(.func (.func 31) #[] #[]), t14, t22] s23) <|
  bindP (reO (unA .not t24) s23) fun t25 s26 =>
  condP t25
  (Q .ret ⟨39, (fs t [(20, (gt t 5)), (21, t0), (22, t2), (23, t4), (24, t6), (27, t8), (28, t10), (29, (gt t 5)), (30, t12), (31, t14), (32, t16), (33, t18), (34, (gt t 5)), (35, t20), (36, t22), (37, t24), (38, t25), (4, (.bool false))]), ds⟩ s26)
  (bindP (reO (binK .add .no (gt t 5) (.int .i64 (1))) s26) fun t27 s28 =>
  Q .normal ⟨39, (fs t [(20, (gt t 5)), (21, t0), (22, t2), (23, t4), (24, t6), (27, t8), (28, t10), (29, (gt t 5)), (30, t12), (31, t14), (32, t16), (33, t18), (34, (gt t 5)), (35, t20), (36, t22), (37, t24), (38, t25), (25, (gt t 5)), (26, t27), (5, t27)]), ds⟩ s28))
  (Q (.exit 0) ⟨39, (fs t [(20, (gt t 5)), (21, t0), (22, t2), (23, t4), (24, t6)]), ds⟩ s7)) := by kernel_rfl
theorem e7_r0 (O : Orc) (ro : Option Nat) (t : Regs) (ds : List Nat) (s : St) (Q : Kt) : wp Tryz.prog O isP ro (cZ (cZ (cZ (cOf Tryz.prog 7)))) ⟨39, t, ds⟩ s Q =
  (Q .ret ⟨39, (fs t [(4, (.bool true))]), ds⟩ s) := by kernel_rfl

/- 8 potence/potencelaw09.Example: 0 in, 11 slots, 0 hard -/
theorem e8 (O : Orc) (a0 : Value) (s : St) (F : Value → St → Prop) : wpF Tryz.prog O isP 8 [] s F =
  (bindP (boxK [(.int .i64 (0)), (.slice none 0 0)] s) fun t0 s1 =>
  bindP (buildSliceA (.mk 1 [(.int .i64 (0))] true) 1 [(0, (.int .i64 (0)))] s1) fun t2 s3 =>
  bindP (reO (buildA (.str [(.int .i64 (0)), (.slice none 0 0), (.bool false)] [(0, 1), (1, 1), (2, 1)]) [(0, (.int .i64 (1))), (1, t2), (2, (.bool true))]) s3) fun t4 s5 =>
  bindP (buildSliceA (.mk 1 [(.int .i64 (0))] true) 2 [(0, (.int .i64 (0))), (1, (.int .i64 (1)))] s5) fun t6 s7 =>
  bindP (reO (buildA (.str [(.int .i64 (0)), (.slice none 0 0), (.bool false)] [(0, 1), (1, 1), (2, 1)]) [(0, (.int .i64 (2))), (1, t6)]) s7) fun t8 s9 =>
  bindP (buildSliceA (.mk 1 [(.int .i64 (0))] true) 3 [(0, (.int .i64 (1))), (1, (.int .i64 (2))), (2, (.int .i64 (3)))] s9) fun t10 s11 =>
  bindP (reO (buildA (.str [(.int .i64 (0)), (.slice none 0 0), (.bool false)] [(0, 1), (1, 1), (2, 1)]) [(0, (.int .i64 (3))), (1, t10), (2, (.bool true))]) s11) fun t12 s13 =>
  bindP (buildSliceA (.mk 1 [(.int .i64 (0))] true) 2 [(0, (.int .i64 (3))), (1, (.int .i64 (4)))] s13) fun t14 s15 =>
  bindP (reO (buildA (.str [(.int .i64 (0)), (.slice none 0 0), (.bool false)] [(0, 1), (1, 1), (2, 1)]) [(0, (.int .i64 (4))), (1, t14), (2, (.bool true))]) s15) fun t16 s17 =>
  bindP (buildSliceA (.mk 3 [(.int .i64 (0)), (.slice none 0 0), (.bool false)] true) 4 [(0, t4), (1, t8), (2, t12), (3, t16)] s17) fun t18 s19 =>
  bindP (reO (buildA (.str [(.int .i64 (0)), (.slice none 0 0)] [(0, 1), (1, 1)]) [(0, (.int .i64 (5))), (1, t18)]) s19) fun t20 s21 =>
  bindP (storeN (.agg 2) t0 t20 s21) fun t22 s23 =>
  bindP (resE [(cellR (.agg 2) t0 s23)] s23) F) := by kernel_rfl

/- 9 potence/stick.Find: 1 in, 19 slots, 0 hard -/
theorem e9 (O : Orc) (a0 : Value) (s : St) (F : Value → St → Prop) : wpF Tryz.prog O isP 9 [a0] s F =
  (bindP (boxN a0 s) fun t0 s1 =>
  bindP (loadA (.agg 2) t0 s1) fun t2 s3 =>
  bindO (pcall O 32 [t2] s3) fun t4 =>
  bindP (extractK t4 0 s3) fun t5 s6 =>
  bindP (extractK t4 1 s6) fun t7 s8 =>
  bindP (reO (binK .neq .no t7 (.int .i64 (0))) s8) fun t9 s10 =>
  condP t9
  (bindP (.ok (.tuple ⟨[(.slice none 0 0), t7]⟩) s10) F)
  (bindO (pcall O 34 [t5, (.int .u64 (0))] s10) fun t11 =>
  andP (belL [(.func (.func 34) #[] #[]), t5, (.int .u64 (0))] s10) <|
  bindP (reO (movP t0 0) s10) fun t12 s13 =>
  bindP (loadA .one t12 s13) fun t14 s15 =>
  andP (belL [t12] s13) <|
  bindO (pcall O 33 [t11, t14] s15) fun t16 =>
  andP (belL [(.func (.func 33) #[] #[]), t11, t14] s15) <|
  bindP (.ok (.tuple ⟨[t16, (.int .i64 (0))]⟩) s15) F)) := by kernel_rfl

/- 10 potence/stick.Free: 1 in, 17 slots, 0 hard -/
theorem e10 (O : Orc) (a0 : Value) (s : St) (F : Value → St → Prop) : wpF Tryz.prog O isP 10 [a0] s F =
  (bindP (boxN a0 s) fun t0 s1 =>
  bindP (loadA (.agg 2) t0 s1) fun t2 s3 =>
  bindO (pcall O 32 [t2] s3) fun t4 =>
  bindP (extractK t4 0 s3) fun t5 s6 =>
  bindP (extractK t4 1 s6) fun t7 s8 =>
  bindP (reO (binK .neq .no t7 (.int .i64 (0))) s8) fun t9 s10 =>
  condP t9
  (bindP (.ok (.tuple ⟨[(.int .i64 (0)), t7]⟩) s10) F)
  (bindO (pcall O 36 [t5] s10) fun t11 =>
  bindO (pcall O 35 [t11] s10) fun t12 =>
  bindP (.ok (.tuple ⟨[t12, (.int .i64 (0))]⟩) s10) F)) := by kernel_rfl

/- 11 potence/stick.Sure: 1 in, 40 slots, 0 hard -/
theorem e11 (O : Orc) (a0 : Value) (s : St) (F : Value → St → Prop) : wpF Tryz.prog O isP 11 [a0] s F =
  (bindP (boxN a0 s) fun t0 s1 =>
  bindP (loadA (.agg 2) t0 s1) fun t2 s3 =>
  bindO (pcall O 32 [t2] s3) fun t4 =>
  bindP (extractK t4 0 s3) fun t5 s6 =>
  bindP (extractK t4 1 s6) fun t7 s8 =>
  bindP (reO (binK .neq .no t7 (.int .i64 (0))) s8) fun t9 s10 =>
  condP t9
  (bindP (.ok (.tuple ⟨[(.slice none 0 0), t7]⟩) s10) F)
  (bindP (reO (movP t0 0) s10) fun t11 s12 =>
  bindP (loadA .one t11 s12) fun t13 s14 =>
  RunsC Tryz.prog O (.loop (cA (cA (cZ (cA (cZ (cZ (cZ (cZ (cOf Tryz.prog 11)))))))))) none ⟨40, (fs (setArgs [a0] 0 regs0) [(1, t0), (2, (.slice none 0 0)), (3, (.int .i64 (0))), (11, t2), (12, t4), (10, t4), (13, t5), (14, t7), (4, t5), (5, t7), (15, t7), (16, t9), (6, (.slice none 0 0)), (18, t11), (19, t13), (20, (.int .i64 (0)))]), []⟩ s14 (blockK 0 (seqK Tryz.prog O isP none (cZ (cZ (cZ (cZ (cZ (cOf Tryz.prog 11)))))) (outK Tryz.prog Tryz.f11 F))))) := by kernel_rfl
theorem o11 (F : Value → St → Prop) (t : Regs) (s : St) : outK Tryz.prog Tryz.f11 F .ret ⟨40, t, []⟩ s =
  (bindP (.ok (.tuple ⟨[(gt t 2), (gt t 3)]⟩) s) F) := by kernel_rfl
theorem e11_b0 (O : Orc) (ro : Option Nat) (t : Regs) (ds : List Nat) (s : St) (Q : Kt) : wp Tryz.prog O isP ro (cA (cA (cZ (cA (cZ (cZ (cZ (cZ (cOf Tryz.prog 11))))))))) ⟨40, t, ds⟩ s Q =
  (bindP (reO (binK .lss .no (gt t 20) (gt t 19)) s) fun t0 s1 =>
  condP t0
  (bindP (buildSliceA (.mk 1 [(.int .i64 (0))] true) 1 [(0, (gt t 20))] s1) fun t2 s3 =>
  bindO (pcall O 37 [(gt t 4), t2] s3) fun t4 =>
  bindP (extractK t4 0 s3) fun t5 s6 =>
  bindP (extractK t4 1 s6) fun t7 s8 =>
  bindP (boxK [(.int .u64 (0)), (.int .u64 (0)), (.int .u64 (0))] s8) fun t9 s10 =>
  bindP (storeN (.agg 3) t9 t5 s10) fun t11 s12 =>
  condP t7
  (bindP (loadA (.agg 3) t9 s12) fun t13 s14 =>
  bindO (pcall O 38 [t13] s14) fun t15 =>
  bindP (reO (buildA (.str [(.int .i64 (0)), (.bool false)] [(0, 1), (1, 1)]) [(0, (gt t 20)), (1, t15)]) s14) fun t16 s17 =>
  bindP (buildSliceA (.mk 2 [(.int .i64 (0)), (.bool false)] true) 1 [(0, t16)] s17) fun t18 s19 =>
  bindP (appendN (.list 2) (gt t 6) t18 s19) fun t20 s21 =>
  bindP (reO (binK .add .no (gt t 20) (.int .i64 (1))) s21) fun t22 s23 =>
  Q .normal ⟨40, (fs t [(21, t0), (22, (gt t 20)), (7, (gt t 20)), (24, (gt t 4)), (25, (gt t 20)), (26, t2), (27, t4), (23, t4), (28, t5), (29, t7), (8, t9), (9, t7), (30, t7), (31, (gt t 6)), (32, (gt t 20)), (33, t13), (34, t15), (35, t16), (36, t18), (37, t20), (6, t20), (38, t22), (20, t22)]), ds⟩ s23)
  (bindP (reO (binK .add .no (gt t 20) (.int .i64 (1))) s12) fun t24 s25 =>
  Q .normal ⟨40, (fs t [(21, t0), (22, (gt t 20)), (7, (gt t 20)), (24, (gt t 4)), (25, (gt t 20)), (26, t2), (27, t4), (23, t4), (28, t5), (29, t7), (8, t9), (9, t7), (30, t7), (38, t24), (20, t24)]), ds⟩ s25))
  (Q (.exit 0) ⟨40, (fs t [(21, t0)]), ds⟩ s1)) := by kernel_rfl
theorem e11_r0 (O : Orc) (ro : Option Nat) (t : Regs) (ds : List Nat) (s : St) (Q : Kt) : wp Tryz.prog O isP ro (cZ (cZ (cZ (cZ (cZ (cOf Tryz.prog 11)))))) ⟨40, t, ds⟩ s Q =
  (Q .ret ⟨40, (fs t [(39, (gt t 6)), (2, (gt t 6)), (3, (.int .i64 (0)))]), ds⟩ s) := by kernel_rfl

/- 12 potence/stick.Shows: 2 in, 41 slots, 0 hard -/
theorem e12 (O : Orc) (a0 a1 : Value) (s : St) (F : Value → St → Prop) : wpF Tryz.prog O isP 12 [a0, a1] s F =
  (bindP (boxN a0 s) fun t0 s1 =>
  bindP (loadA (.agg 2) t0 s1) fun t2 s3 =>
  bindP (buildSliceA (.mk 1 [(.int .i64 (0))] true) 1 [(0, a1)] s3) fun t4 s5 =>
  bindO (pcall O 39 [t2, t4] s5) fun t6 =>
  bindP (reO (binK .neq .no t6 (.int .i64 (0))) s5) fun t7 s8 =>
  condP t7
  (bindP (.ok (.tuple ⟨[(.slice none 0 0), (.bool false), t6]⟩) s8) F)
  (bindP (loadA (.agg 2) t0 s8) fun t9 s10 =>
  bindO (pcall O 32 [t9] s10) fun t11 =>
  bindP (extractK t11 0 s10) fun t12 s13 =>
  bindP (extractK t11 1 s13) fun t14 s15 =>
  bindP (reO (binK .neq .no t14 (.int .i64 (0))) s15) fun t16 s17 =>
  condP t16
  (bindP (.ok (.tuple ⟨[(.slice none 0 0), (.bool false), t14]⟩) s17) F)
  (bindP (buildSliceA (.mk 1 [(.int .i64 (0))] true) 1 [(0, a1)] s17) fun t18 s19 =>
  bindO (pcall O 37 [t12, t18] s19) fun t20 =>
  bindP (extractK t20 0 s19) fun t21 s22 =>
  bindP (extractK t20 1 s22) fun t23 s24 =>
  bindP (boxK [(.int .u64 (0)), (.int .u64 (0)), (.int .u64 (0))] s24) fun t25 s26 =>
  bindP (storeN (.agg 3) t25 t21 s26) fun t27 s28 =>
  bindP (reO (unA .not t23) s28) fun t29 s30 =>
  condP t29
  (bindP (.ok (.tuple ⟨[(.slice none 0 0), (.bool false), (.int .i64 (5))]⟩) s30) F)
  (bindP (loadA (.agg 3) t25 s30) fun t31 s32 =>
  andP (belL [t25] s30) <|
  bindO (pcall O 40 [t12, t31] s32) fun t33 =>
  andP (belL [(.func (.func 40) #[] #[]), t12, t31] s32) <|
  bindP (loadA (.agg 3) t25 s32) fun t34 s35 =>
  andP (belL [t25] s32) <|
  bindO (pcall O 38 [t34] s35) fun t36 =>
  andP (belL [(.func (.func 38) #[] #[]), t34] s35) <|
  bindP (.ok (.tuple ⟨[t33, t36, (.int .i64 (0))]⟩) s35) F)))) := by kernel_rfl

/- 13 potence/stick.Tells: 2 in, 35 slots, 0 hard -/
theorem e13 (O : Orc) (a0 a1 : Value) (s : St) (F : Value → St → Prop) : wpF Tryz.prog O isP 13 [a0, a1] s F =
  (bindP (boxN a0 s) fun t0 s1 =>
  bindP (loadA (.agg 2) t0 s1) fun t2 s3 =>
  bindO (pcall O 39 [t2, a1] s3) fun t4 =>
  bindP (reO (binK .neq .no t4 (.int .i64 (0))) s3) fun t5 s6 =>
  condP t5
  (bindP (.ok (.tuple ⟨[(.bool false), (.bool false), t4]⟩) s6) F)
  (bindP (loadA (.agg 2) t0 s6) fun t7 s8 =>
  bindO (pcall O 32 [t7] s8) fun t9 =>
  bindP (extractK t9 0 s8) fun t10 s11 =>
  bindP (extractK t9 1 s11) fun t12 s13 =>
  bindP (reO (binK .neq .no t12 (.int .i64 (0))) s13) fun t14 s15 =>
  condP t14
  (bindP (.ok (.tuple ⟨[(.bool false), (.bool false), t12]⟩) s15) F)
  (bindO (pcall O 37 [t10, a1] s15) fun t16 =>
  bindP (extractK t16 0 s15) fun t17 s18 =>
  bindP (extractK t16 1 s18) fun t19 s20 =>
  bindP (boxK [(.int .u64 (0)), (.int .u64 (0)), (.int .u64 (0))] s20) fun t21 s22 =>
  bindP (storeN (.agg 3) t21 t17 s22) fun t23 s24 =>
  bindP (loadA (.agg 3) t21 s24) fun t25 s26 =>
  bindO (pcall O 38 [t25] s26) fun t27 =>
  bindP (.ok (.tuple ⟨[t19, t27, (.int .i64 (0))]⟩) s26) F))) := by kernel_rfl

/- 14 potence/stick.Ask: 1 in, 35 slots, 0 hard -/
theorem e14 (O : Orc) (a0 : Value) (s : St) (F : Value → St → Prop) : wpF Tryz.prog O isP 14 [a0] s F =
  (bindP (boxN a0 s) fun t0 s1 =>
  bindP (loadA (.agg 2) t0 s1) fun t2 s3 =>
  bindO (pcall O 32 [t2] s3) fun t4 =>
  bindP (extractK t4 0 s3) fun t5 s6 =>
  bindP (extractK t4 1 s6) fun t7 s8 =>
  bindP (reO (binK .neq .no t7 (.int .i64 (0))) s8) fun t9 s10 =>
  condP t9
  (bindP (.ok (.tuple ⟨[(.slice none 0 0), t7]⟩) s10) F)
  (bindO (pcall O 36 [t5] s10) fun t11 =>
  andP (belL [(.func (.func 36) #[] #[]), t5] s10) <|
  bindP (reO (movP t0 0) s10) fun t12 s13 =>
  bindP (loadA .one t12 s13) fun t14 s15 =>
  andP (belL [t12] s13) <|
  bindO (pcall O 33 [t11, t14] s15) fun t16 =>
  andP (belL [(.func (.func 33) #[] #[]), t11, t14] s15) <|
  bindP (reO (lenK .sl t16 s15) s15) fun t17 s18 =>
  andP (belL [t16] s15) <|
  RunsC Tryz.prog O (.loop (cA (cA (cZ (cA (cZ (cZ (cZ (cZ (cOf Tryz.prog 14)))))))))) none ⟨35, (fs (setArgs [a0] 0 regs0) [(1, t0), (2, (.slice none 0 0)), (3, (.int .i64 (0))), (10, t2), (11, t4), (9, t4), (12, t5), (13, t7), (4, t5), (5, t7), (14, t7), (15, t9), (6, (.slice none 0 0)), (17, t5), (18, t11), (19, t12), (20, t14), (21, t16), (22, t17), (23, (.int .i64 (0)))]), []⟩ s18 (blockK 0 (seqK Tryz.prog O isP none (cZ (cZ (cZ (cZ (cZ (cOf Tryz.prog 14)))))) (outK Tryz.prog Tryz.f14 F))))) := by kernel_rfl
theorem o14 (F : Value → St → Prop) (t : Regs) (s : St) : outK Tryz.prog Tryz.f14 F .ret ⟨35, t, []⟩ s =
  (bindP (.ok (.tuple ⟨[(gt t 2), (gt t 3)]⟩) s) F) := by kernel_rfl
theorem e14_b0 (O : Orc) (ro : Option Nat) (t : Regs) (ds : List Nat) (s : St) (Q : Kt) : wp Tryz.prog O isP ro (cA (cA (cZ (cA (cZ (cZ (cZ (cZ (cOf Tryz.prog 14))))))))) ⟨35, t, ds⟩ s Q =
  (bindP (reO (binK .lss .no (gt t 23) (gt t 22)) s) fun t0 s1 =>
  condP t0
  (bindP (reO (idxK (.sl 1) (gt t 21) (gt t 23)) s1) fun t2 s3 =>
  bindP (loadA .one t2 s3) fun t4 s5 =>
  condP t4
  (bindP (buildSliceA (.mk 1 [(.int .i64 (0))] true) 1 [(0, (gt t 23))] s5) fun t6 s7 =>
  bindP (appendN (.list 1) (gt t 6) t6 s7) fun t8 s9 =>
  bindP (reO (binK .add .no (gt t 23) (.int .i64 (1))) s9) fun t10 s11 =>
  Q .normal ⟨35, (fs t [(24, t0), (25, (gt t 23)), (26, t2), (27, t4), (7, (gt t 23)), (8, t4), (28, t4), (29, (gt t 6)), (30, (gt t 23)), (31, t6), (32, t8), (6, t8), (33, t10), (23, t10)]), ds⟩ s11)
  (bindP (reO (binK .add .no (gt t 23) (.int .i64 (1))) s5) fun t12 s13 =>
  Q .normal ⟨35, (fs t [(24, t0), (25, (gt t 23)), (26, t2), (27, t4), (7, (gt t 23)), (8, t4), (28, t4), (33, t12), (23, t12)]), ds⟩ s13))
  (Q (.exit 0) ⟨35, (fs t [(24, t0)]), ds⟩ s1)) := by kernel_rfl
theorem e14_r0 (O : Orc) (ro : Option Nat) (t : Regs) (ds : List Nat) (s : St) (Q : Kt) : wp Tryz.prog O isP ro (cZ (cZ (cZ (cZ (cZ (cOf Tryz.prog 14)))))) ⟨35, t, ds⟩ s Q =
  (Q .ret ⟨35, (fs t [(34, (gt t 6)), (2, (gt t 6)), (3, (.int .i64 (0)))]), ds⟩ s) := by kernel_rfl

/- 15 potence/stick.Nearest: 2 in, 49 slots, 0 hard -/
theorem e15 (O : Orc) (a0 a1 : Value) (s : St) (F : Value → St → Prop) : wpF Tryz.prog O isP 15 [a0, a1] s F =
  (bindP (boxN a0 s) fun t0 s1 =>
  bindP (loadA (.agg 2) t0 s1) fun t2 s3 =>
  bindO (pcall O 41 [t2, a1] s3) fun t4 =>
  bindP (reO (binK .neq .no t4 (.int .i64 (0))) s3) fun t5 s6 =>
  condP t5
  (bindP (.ok (.tuple ⟨[(.slice none 0 0), (.int .i64 (0)), t4]⟩) s6) F)
  (bindP (loadA (.agg 2) t0 s6) fun t7 s8 =>
  bindO (pcall O 32 [t7] s8) fun t9 =>
  bindP (extractK t9 0 s8) fun t10 s11 =>
  bindP (extractK t9 1 s11) fun t12 s13 =>
  bindP (reO (binK .neq .no t12 (.int .i64 (0))) s13) fun t14 s15 =>
  condP t14
  (bindP (.ok (.tuple ⟨[(.slice none 0 0), (.int .i64 (0)), t12]⟩) s15) F)
  (bindO (pcall O 36 [t10] s15) fun t16 =>
  bindO (pcall O 35 [t16] s15) fun t17 =>
  bindP (reO (binK .gtr .no t17 (.int .i64 (12))) s15) fun t18 s19 =>
  condP t18
  (bindP (.ok (.tuple ⟨[(.slice none 0 0), (.int .i64 (0)), (.int .i64 (2))]⟩) s19) F)
  (bindO (pcall O 23 [a1] s19) fun t20 =>
  bindP (boxK [(.int .u64 (0))] s19) fun t21 s22 =>
  bindP (storeN .one t21 t20 s22) fun t23 s24 =>
  bindP (.ok (.func (.func 42) ⟨[]⟩ ⟨[t21]⟩) s24) fun t25 s26 =>
  bindP (boxK [.nilFunc] s26) fun t27 s28 =>
  bindP (storeN .one t27 t25 s28) fun t29 s30 =>
  bindO (pcall O 44 [t10] s30) fun t31 =>
  bindP (.ok (.func (.func 45) ⟨[]⟩ ⟨[t27]⟩) s30) fun t32 s33 =>
  bindO (pcall O 43 [t31, t32] s33) fun t34 =>
  bindP (extractK t34 0 s33) fun t35 s36 =>
  bindP (extractK t34 1 s36) fun t37 s38 =>
  bindP (reO (movP t0 0) s38) fun t39 s40 =>
  bindP (loadA .one t39 s40) fun t41 s42 =>
  andP (belL [t39] s40) <|
  bindO (pcall O 33 [t35, t41] s42) fun t43 =>
  andP (belL [(.func (.func 33) #[] #[]), t35, t41] s42) <|
  bindP (loadA .one t27 s42) fun t44 s45 =>
  andP (belL [t27] s42) <|
  CallP Tryz.prog O t44 [t35] s45 fun t46 s47 =>
  andP (bsel (belL [t44, t35] s45) (nextLe s45 s47) false) <|
  bindP (.ok (.tuple ⟨[t43, t46, (.int .i64 (0))]⟩) s47) F)))) := by kernel_rfl

/- 16 potence/stick.Add: 2 in, 22 slots, 0 hard -/
theorem e16 (O : Orc) (a0 a1 : Value) (s : St) (F : Value → St → Prop) : wpF Tryz.prog O isP 16 [a0, a1] s F =
  (bindP (boxN a0 s) fun t0 s1 =>
  bindP (boxN a1 s1) fun t2 s3 =>
  bindP (boxK [(.int .i64 (0)), (.slice none 0 0)] s3) fun t4 s5 =>
  bindP (loadA (.agg 2) t0 s5) fun t6 s7 =>
  bindO (pcall O 49 [t6] s7) fun t8 =>
  bindP (reO (binK .neq .no t8 (.int .i64 (0))) s7) fun t9 s10 =>
  condP t9
  (bindP (reO (buildA (.str [(.int .i64 (0)), (.slice none 0 0)] [(0, 1), (1, 1)]) []) s10) fun t11 s12 =>
  bindP (storeN (.agg 2) t4 t11 s12) fun t13 s14 =>
  bindP (resE [(cellR (.agg 2) t4 s14), (some t8)] s14) F)
  (bindP (loadA (.agg 2) t0 s10) fun t15 s16 =>
  bindO (pcall O 50 [t15, (.slice none 0 0)] s16) fun t17 =>
  bindP (boxK [(.int .i64 (0)), (.slice none 0 0)] s16) fun t18 s19 =>
  bindP (storeN (.agg 2) t18 t17 s19) fun t20 s21 =>
  bindP (loadA (.agg 3) t2 s21) fun t22 s23 =>
  bindO (pcall O 51 [t18, t22] s23) fun t24 =>
  bindP (loadA (.agg 2) t18 s23) fun t25 s26 =>
  bindO (pcall O 52 [t25] s26) fun t27 =>
  bindP (extractK t27 0 s26) fun t28 s29 =>
  bindP (extractK t27 1 s29) fun t30 s31 =>
  bindP (storeN (.agg 2) t4 t28 s31) fun t32 s33 =>
  bindP (resE [(cellR (.agg 2) t4 s33), (some t30)] s33) F)) := by kernel_rfl

/- 17 potence/stick.Suspects: 1 in, 21 slots, 0 hard -/
theorem e17 (O : Orc) (a0 : Value) (s : St) (F : Value → St → Prop) : wpF Tryz.prog O isP 17 [a0] s F =
  (bindP (boxN a0 s) fun t0 s1 =>
  bindP (loadA (.agg 2) t0 s1) fun t2 s3 =>
  bindO (pcall O 49 [t2] s3) fun t4 =>
  bindP (reO (binK .neq .no t4 (.int .i64 (0))) s3) fun t5 s6 =>
  condP t5
  (bindP (.ok (.tuple ⟨[(.slice none 0 0), t4]⟩) s6) F)
  (bindP (loadA (.agg 2) t0 s6) fun t7 s8 =>
  bindO (pcall O 53 [t7] s8) fun t9 =>
  bindO (pcall O 54 [t9] s8) fun t10 =>
  bindP (extractK t10 0 s8) fun t11 s12 =>
  bindP (extractK t10 1 s12) fun t13 s14 =>
  bindP (boxK [(.int .u64 (0))] s14) fun t15 s16 =>
  bindP (storeN .one t15 t13 s16) fun t17 s18 =>
  bindP (.ok (.func (.func 56) ⟨[]⟩ ⟨[t15]⟩) s18) fun t19 s20 =>
  bindO (pcall O 55 [t11, t19] s20) fun t21 =>
  bindP (.ok (.tuple ⟨[t21, (.int .i64 (0))]⟩) s20) F)) := by kernel_rfl

/- 18 potence/stick.Fewest: 1 in, 38 slots, 0 hard -/
theorem e18 (O : Orc) (a0 : Value) (s : St) (F : Value → St → Prop) : wpF Tryz.prog O isP 18 [a0] s F =
  (bindP (boxN a0 s) fun t0 s1 =>
  bindP (loadA (.agg 2) t0 s1) fun t2 s3 =>
  bindO (pcall O 49 [t2] s3) fun t4 =>
  bindP (reO (binK .neq .no t4 (.int .i64 (0))) s3) fun t5 s6 =>
  condP t5
  (bindP (.ok (.tuple ⟨[(.slice none 0 0), t4]⟩) s6) F)
  (bindP (loadA (.agg 2) t0 s6) fun t7 s8 =>
  bindO (pcall O 53 [t7] s8) fun t9 =>
  bindO (pcall O 54 [t9] s8) fun t10 =>
  bindP (extractK t10 0 s8) fun t11 s12 =>
  bindP (extractK t10 1 s12) fun t13 s14 =>
  bindP (boxK [(.int .u64 (0))] s14) fun t15 s16 =>
  bindP (storeN .one t15 t13 s16) fun t17 s18 =>
  bindP (boxK [(.slice none 0 0)] s18) fun t19 s20 =>
  bindP (boxK [(.int .i64 (0))] s20) fun t21 s22 =>
  bindP (storeN .one t21 (.int .i64 (2)) s22) fun t23 s24 =>
  RunsC Tryz.prog O (.loop (cA (cA (cZ (cA (cZ (cZ (cZ (cZ (cZ (cA (cZ (cOf Tryz.prog 18))))))))))))) none ⟨38, (fs (setArgs [a0] 0 regs0) [(1, t0), (2, (.slice none 0 0)), (3, (.int .i64 (0))), (12, t2), (13, t4), (4, t4), (14, t4), (15, t5), (18, t7), (19, t9), (20, t10), (17, t10), (21, t11), (22, t13), (6, t15), (5, t11), (7, t19), (8, t21), (23, (.int .i64 (0)))]), []⟩ s24 (blockK 0 (seqK Tryz.prog O isP none (cZ (cZ (cZ (cZ (cZ (cZ (cA (cZ (cOf Tryz.prog 18))))))))) (scopeK (outK Tryz.prog Tryz.f18 F)))))) := by kernel_rfl
theorem o18 (F : Value → St → Prop) (t : Regs) (s : St) : outK Tryz.prog Tryz.f18 F .ret ⟨38, t, []⟩ s =
  (bindP (.ok (.tuple ⟨[(gt t 2), (gt t 3)]⟩) s) F) := by kernel_rfl
theorem e18_b0 (O : Orc) (ro : Option Nat) (t : Regs) (ds : List Nat) (s : St) (Q : Kt) : wp Tryz.prog O isP ro (cA (cA (cZ (cA (cZ (cZ (cZ (cZ (cZ (cA (cZ (cOf Tryz.prog 18)))))))))))) ⟨38, t, ds⟩ s Q =
  (bindP (reO (binK .lss .no (gt t 23) (.int .i64 (4))) s) fun t0 s1 =>
  condP t0
  (bindO (pcall O 57 [(gt t 5), (gt t 23)] s1) fun t2 =>
  RunsC Tryz.prog O (.rangeFunc (.tmp 28) ⟨[29, 30]⟩ (cA (cA (cZ (cZ (cA (cA (cZ (cZ (cA (cA (cZ (cA (cZ (cZ (cZ (cZ (cZ (cA (cZ (cOf Tryz.prog 18)))))))))))))))))))) (cZ (cA (cZ (cZ (cA (cA (cZ (cZ (cA (cA (cZ (cA (cZ (cZ (cZ (cZ (cZ (cA (cZ (cOf Tryz.prog 18))))))))))))))))))))) ro ⟨38, (fs t [(24, t0), (25, (gt t 23)), (9, (gt t 23)), (26, (gt t 5)), (27, (gt t 23)), (28, t2)]), ds⟩ s1 (blockK 2 (blockK 1 (seqK Tryz.prog O isP ro (cZ (cZ (cZ (cA (cA (cZ (cA (cZ (cZ (cZ (cZ (cZ (cA (cZ (cOf Tryz.prog 18))))))))))))))) Q))))
  (Q (.exit 0) ⟨38, (fs t [(24, t0)]), ds⟩ s1)) := by kernel_rfl
theorem e18_b1 (O : Orc) (ro : Option Nat) (t : Regs) (ds : List Nat) (s : St) (Q : Kt) : wp Tryz.prog O isP ro (cA (cA (cZ (cZ (cA (cA (cZ (cZ (cA (cA (cZ (cA (cZ (cZ (cZ (cZ (cZ (cA (cZ (cOf Tryz.prog 18)))))))))))))))))))) ⟨38, t, ds⟩ s Q =
  (Q .normal ⟨38, (fs t [(10, (gt t 29)), (11, (gt t 30))]), ds⟩ s) := by kernel_rfl
theorem e18_b2 (O : Orc) (ro : Option Nat) (t : Regs) (ds : List Nat) (s : St) (Q : Kt) : wp Tryz.prog O isP ro (cZ (cA (cZ (cZ (cA (cA (cZ (cZ (cA (cA (cZ (cA (cZ (cZ (cZ (cZ (cZ (cA (cZ (cOf Tryz.prog 18)))))))))))))))))))) ⟨38, t, ds⟩ s Q =
  (bindP (loadA .one (gt t 6) s) fun t0 s1 =>
  bindP (reO (binK .eql .no (gt t 11) t0) s1) fun t2 s3 =>
  condP t2
  (bindP (storeN .one (gt t 7) (gt t 10) s3) fun t4 s5 =>
  bindP (storeN .one (gt t 8) (.int .i64 (0)) s5) fun t6 s7 =>
  Q (.exit 0) ⟨38, (fs t [(31, (gt t 11)), (32, t0), (33, t2), (34, (gt t 10))]), ds⟩ s7)
  (Q .normal ⟨38, (fs t [(31, (gt t 11)), (32, t0), (33, t2)]), ds⟩ s3)) := by kernel_rfl
theorem e18_r0 (O : Orc) (ro : Option Nat) (t : Regs) (ds : List Nat) (s : St) (Q : Kt) : wp Tryz.prog O isP ro (cZ (cZ (cZ (cZ (cZ (cZ (cA (cZ (cOf Tryz.prog 18))))))))) ⟨38, t, ds⟩ s Q =
  (bindP (loadA .one (gt t 7) s) fun t0 s1 =>
  andP (belL [(gt t 7)] s) <|
  bindP (loadA .one (gt t 8) s1) fun t2 s3 =>
  andP (belL [(gt t 8)] s1) <|
  Q .ret ⟨38, (fs t [(36, t0), (37, t2), (2, t0), (3, t2)]), ds⟩ s3) := by kernel_rfl
theorem e18_r1 (O : Orc) (ro : Option Nat) (t : Regs) (ds : List Nat) (s : St) (Q : Kt) : wp Tryz.prog O isP ro (cZ (cZ (cZ (cA (cA (cZ (cA (cZ (cZ (cZ (cZ (cZ (cA (cZ (cOf Tryz.prog 18))))))))))))))) ⟨38, t, ds⟩ s Q =
  (bindP (reO (binK .add .no (gt t 23) (.int .i64 (1))) s) fun t0 s1 =>
  Q .normal ⟨38, (fs t [(35, t0), (23, t0)]), ds⟩ s1) := by kernel_rfl

/- 19 potence/potenceref09.SameBools: 2 in, 26 slots, 0 hard -/
theorem e19 (O : Orc) (a0 a1 : Value) (s : St) (F : Value → St → Prop) : wpF Tryz.prog O isP 19 [a0, a1] s F =
  (bindP (reO (lenK .sl a0 s) s) fun t0 s1 =>
  bindP (reO (lenK .sl a1 s1) s1) fun t2 s3 =>
  bindP (reO (binK .neq .no t0 t2) s3) fun t4 s5 =>
  condP t4
  (bindP (.ok (.bool false) s5) F)
  (RunsC Tryz.prog O (.loop (cA (cA (cZ (cA (cZ (cZ (cOf Tryz.prog 19)))))))) none ⟨26, (fs (setArgs [a0, a1] 0 regs0) [(4, (.bool false)), (6, a0), (7, t0), (8, a1), (9, t2), (10, t4), (5, (.int .i64 (0)))]), []⟩ s5 (blockK 0 (seqK Tryz.prog O isP none (cZ (cZ (cZ (cOf Tryz.prog 19)))) (outK Tryz.prog Tryz.f19 F))))) := by kernel_rfl
theorem o19 (F : Value → St → Prop) (t : Regs) (s : St) : outK Tryz.prog Tryz.f19 F .ret ⟨26, t, []⟩ s =
  (bindP (.ok (gt t 4) s) F) := by kernel_rfl
theorem e19_b0 (O : Orc) (ro : Option Nat) (t : Regs) (ds : List Nat) (s : St) (Q : Kt) : wp Tryz.prog O isP ro (cA (cA (cZ (cA (cZ (cZ (cOf Tryz.prog 19))))))) ⟨26, t, ds⟩ s Q =
  (bindP (reO (lenK .sl (gt t 0) s) s) fun t0 s1 =>
  bindP (reO (binK .lss .no (gt t 5) t0) s1) fun t2 s3 =>
  condP t2
  (bindP (reO (idxK (.sl 1) (gt t 0) (gt t 5)) s3) fun t4 s5 =>
  bindP (loadA .one t4 s5) fun t6 s7 =>
  andP (belL [t4] s5) <|
  bindP (reO (idxK (.sl 1) (gt t 1) (gt t 5)) s7) fun t8 s9 =>
  bindP (loadA .one t8 s9) fun t10 s11 =>
  andP (belL [t8] s9) <|
  bindP (reO (binK .neq .bool t6 t10) s11) fun t12 s13 =>
  condP t12
  (Q .ret ⟨26, (fs t [(11, (gt t 5)), (12, (gt t 0)), (13, t0), (14, t2), (17, (gt t 0)), (18, (gt t 5)), (19, t4), (20, t6), (21, (gt t 1)), (22, (gt t 5)), (23, t8), (24, t10), (25, t12), (4, (.bool false))]), ds⟩ s13)
  (bindP (reO (binK .add .no (gt t 5) (.int .i64 (1))) s13) fun t14 s15 =>
  Q .normal ⟨26, (fs t [(11, (gt t 5)), (12, (gt t 0)), (13, t0), (14, t2), (17, (gt t 0)), (18, (gt t 5)), (19, t4), (20, t6), (21, (gt t 1)), (22, (gt t 5)), (23, t8), (24, t10), (25, t12), (15, (gt t 5)), (16, t14), (5, t14)]), ds⟩ s15))
  (Q (.exit 0) ⟨26, (fs t [(11, (gt t 5)), (12, (gt t 0)), (13, t0), (14, t2)]), ds⟩ s3)) := by kernel_rfl
theorem e19_r0 (O : Orc) (ro : Option Nat) (t : Regs) (ds : List Nat) (s : St) (Q : Kt) : wp Tryz.prog O isP ro (cZ (cZ (cZ (cOf Tryz.prog 19)))) ⟨26, t, ds⟩ s Q =
  (Q .ret ⟨26, (fs t [(4, (.bool true))]), ds⟩ s) := by kernel_rfl

/- 20 potence/potenceref09.SameNotches: 2 in, 26 slots, 0 hard -/
theorem e20 (O : Orc) (a0 a1 : Value) (s : St) (F : Value → St → Prop) : wpF Tryz.prog O isP 20 [a0, a1] s F =
  (bindP (reO (lenK .sl a0 s) s) fun t0 s1 =>
  bindP (reO (lenK .sl a1 s1) s1) fun t2 s3 =>
  bindP (reO (binK .neq .no t0 t2) s3) fun t4 s5 =>
  condP t4
  (bindP (.ok (.bool false) s5) F)
  (RunsC Tryz.prog O (.loop (cA (cA (cZ (cA (cZ (cZ (cOf Tryz.prog 20)))))))) none ⟨26, (fs (setArgs [a0, a1] 0 regs0) [(4, (.bool false)), (6, a0), (7, t0), (8, a1), (9, t2), (10, t4), (5, (.int .i64 (0)))]), []⟩ s5 (blockK 0 (seqK Tryz.prog O isP none (cZ (cZ (cZ (cOf Tryz.prog 20)))) (outK Tryz.prog Tryz.f20 F))))) := by kernel_rfl
theorem o20 (F : Value → St → Prop) (t : Regs) (s : St) : outK Tryz.prog Tryz.f20 F .ret ⟨26, t, []⟩ s =
  (bindP (.ok (gt t 4) s) F) := by kernel_rfl
theorem e20_b0 (O : Orc) (ro : Option Nat) (t : Regs) (ds : List Nat) (s : St) (Q : Kt) : wp Tryz.prog O isP ro (cA (cA (cZ (cA (cZ (cZ (cOf Tryz.prog 20))))))) ⟨26, t, ds⟩ s Q =
  (bindP (reO (lenK .sl (gt t 0) s) s) fun t0 s1 =>
  bindP (reO (binK .lss .no (gt t 5) t0) s1) fun t2 s3 =>
  condP t2
  (bindP (reO (idxK (.sl 2) (gt t 0) (gt t 5)) s3) fun t4 s5 =>
  bindP (loadA (.agg 2) t4 s5) fun t6 s7 =>
  andP (belL [t4] s5) <|
  bindP (reO (idxK (.sl 2) (gt t 1) (gt t 5)) s7) fun t8 s9 =>
  bindP (loadA (.agg 2) t8 s9) fun t10 s11 =>
  andP (belL [t8] s9) <|
  bindP (reO (binK .neq (.agg [1, 0]) t6 t10) s11) fun t12 s13 =>
  condP t12
  (Q .ret ⟨26, (fs t [(11, (gt t 5)), (12, (gt t 0)), (13, t0), (14, t2), (17, (gt t 0)), (18, (gt t 5)), (19, t4), (20, t6), (21, (gt t 1)), (22, (gt t 5)), (23, t8), (24, t10), (25, t12), (4, (.bool false))]), ds⟩ s13)
  (bindP (reO (binK .add .no (gt t 5) (.int .i64 (1))) s13) fun t14 s15 =>
  Q .normal ⟨26, (fs t [(11, (gt t 5)), (12, (gt t 0)), (13, t0), (14, t2), (17, (gt t 0)), (18, (gt t 5)), (19, t4), (20, t6), (21, (gt t 1)), (22, (gt t 5)), (23, t8), (24, t10), (25, t12), (15, (gt t 5)), (16, t14), (5, t14)]), ds⟩ s15))
  (Q (.exit 0) ⟨26, (fs t [(11, (gt t 5)), (12, (gt t 0)), (13, t0), (14, t2)]), ds⟩ s3)) := by kernel_rfl
theorem e20_r0 (O : Orc) (ro : Option Nat) (t : Regs) (ds : List Nat) (s : St) (Q : Kt) : wp Tryz.prog O isP ro (cZ (cZ (cZ (cOf Tryz.prog 20)))) ⟨26, t, ds⟩ s Q =
  (Q .ret ⟨26, (fs t [(4, (.bool true))]), ds⟩ s) := by kernel_rfl

/- 21 potence/potenceref09.SameInts: 2 in, 26 slots, 0 hard -/
theorem e21 (O : Orc) (a0 a1 : Value) (s : St) (F : Value → St → Prop) : wpF Tryz.prog O isP 21 [a0, a1] s F =
  (bindP (reO (lenK .sl a0 s) s) fun t0 s1 =>
  bindP (reO (lenK .sl a1 s1) s1) fun t2 s3 =>
  bindP (reO (binK .neq .no t0 t2) s3) fun t4 s5 =>
  condP t4
  (bindP (.ok (.bool false) s5) F)
  (RunsC Tryz.prog O (.loop (cA (cA (cZ (cA (cZ (cZ (cOf Tryz.prog 21)))))))) none ⟨26, (fs (setArgs [a0, a1] 0 regs0) [(4, (.bool false)), (6, a0), (7, t0), (8, a1), (9, t2), (10, t4), (5, (.int .i64 (0)))]), []⟩ s5 (blockK 0 (seqK Tryz.prog O isP none (cZ (cZ (cZ (cOf Tryz.prog 21)))) (outK Tryz.prog Tryz.f21 F))))) := by kernel_rfl
theorem o21 (F : Value → St → Prop) (t : Regs) (s : St) : outK Tryz.prog Tryz.f21 F .ret ⟨26, t, []⟩ s =
  (bindP (.ok (gt t 4) s) F) := by kernel_rfl
theorem e21_b0 (O : Orc) (ro : Option Nat) (t : Regs) (ds : List Nat) (s : St) (Q : Kt) : wp Tryz.prog O isP ro (cA (cA (cZ (cA (cZ (cZ (cOf Tryz.prog 21))))))) ⟨26, t, ds⟩ s Q =
  (bindP (reO (lenK .sl (gt t 0) s) s) fun t0 s1 =>
  bindP (reO (binK .lss .no (gt t 5) t0) s1) fun t2 s3 =>
  condP t2
  (bindP (reO (idxK (.sl 1) (gt t 0) (gt t 5)) s3) fun t4 s5 =>
  bindP (loadA .one t4 s5) fun t6 s7 =>
  andP (belL [t4] s5) <|
  bindP (reO (idxK (.sl 1) (gt t 1) (gt t 5)) s7) fun t8 s9 =>
  bindP (loadA .one t8 s9) fun t10 s11 =>
  andP (belL [t8] s9) <|
  bindP (reO (binK .neq .no t6 t10) s11) fun t12 s13 =>
  condP t12
  (Q .ret ⟨26, (fs t [(11, (gt t 5)), (12, (gt t 0)), (13, t0), (14, t2), (17, (gt t 0)), (18, (gt t 5)), (19, t4), (20, t6), (21, (gt t 1)), (22, (gt t 5)), (23, t8), (24, t10), (25, t12), (4, (.bool false))]), ds⟩ s13)
  (bindP (reO (binK .add .no (gt t 5) (.int .i64 (1))) s13) fun t14 s15 =>
  Q .normal ⟨26, (fs t [(11, (gt t 5)), (12, (gt t 0)), (13, t0), (14, t2), (17, (gt t 0)), (18, (gt t 5)), (19, t4), (20, t6), (21, (gt t 1)), (22, (gt t 5)), (23, t8), (24, t10), (25, t12), (15, (gt t 5)), (16, t14), (5, t14)]), ds⟩ s15))
  (Q (.exit 0) ⟨26, (fs t [(11, (gt t 5)), (12, (gt t 0)), (13, t0), (14, t2)]), ds⟩ s3)) := by kernel_rfl
theorem e21_r0 (O : Orc) (ro : Option Nat) (t : Regs) (ds : List Nat) (s : St) (Q : Kt) : wp Tryz.prog O isP ro (cZ (cZ (cZ (cOf Tryz.prog 21)))) ⟨26, t, ds⟩ s Q =
  (Q .ret ⟨26, (fs t [(4, (.bool true))]), ds⟩ s) := by kernel_rfl

/- 22 potence/stick.isFrom: 3 in, 15 slots, 0 hard -/
theorem e22 (O : Orc) (a0 a1 a2 : Value) (s : St) (F : Value → St → Prop) : wpF Tryz.prog O isP 22 [a0, a1, a2] s F =
  (bindP (reO (binK .leq .no a0 a1) s) fun t0 s1 =>
  bindP (guarded (isBool t0 true) (.ok a1 s1) s1) fun t2 s3 =>
  bindP (guarded (isBool t0 true) (.ok a2 s3) s3) fun t4 s5 =>
  bindP (guarded (isBool t0 true) (reO (binK .leq .no t2 t4) s5) s5) fun t6 s7 =>
  bindP (pickK t0 t6 (.bool false) s7) fun t8 s9 =>
  bindP (.ok t8 s9) F) := by kernel_rfl

/- 23 potence/stick.marks: 1 in, 20 slots, 0 hard -/
theorem e23 (O : Orc) (a0 : Value) (s : St) (F : Value → St → Prop) : wpF Tryz.prog O isP 23 [a0] s F =
  (bindP (reO (lenK .sl a0 s) s) fun t0 s1 =>
  RunsC Tryz.prog O (.loop (cA (cA (cZ (cA (cZ (cZ (cOf Tryz.prog 23)))))))) none ⟨20, (fs (setArgs [a0] 0 regs0) [(2, (.int .u64 (0))), (3, (.int .u64 (0))), (6, a0), (7, t0), (8, (.int .i64 (0)))]), []⟩ s1 (blockK 0 (seqK Tryz.prog O isP none (cZ (cZ (cZ (cOf Tryz.prog 23)))) (outK Tryz.prog Tryz.f23 F)))) := by kernel_rfl
theorem o23 (F : Value → St → Prop) (t : Regs) (s : St) : outK Tryz.prog Tryz.f23 F .ret ⟨20, t, []⟩ s =
  (bindP (.ok (gt t 2) s) F) := by kernel_rfl
theorem e23_b0 (O : Orc) (ro : Option Nat) (t : Regs) (ds : List Nat) (s : St) (Q : Kt) : wp Tryz.prog O isP ro (cA (cA (cZ (cA (cZ (cZ (cOf Tryz.prog 23))))))) ⟨20, t, ds⟩ s Q =
  (bindP (reO (binK .lss .no (gt t 8) (gt t 7)) s) fun t0 s1 =>
  condP t0
  (bindP (reO (idxK (.sl 1) (gt t 6) (gt t 8)) s1) fun t2 s3 =>
  bindP (loadA .one t2 s3) fun t4 s5 =>
  condP t4
  (bindP (reO (binK .shl .no (.int .u64 (1)) (gt t 8)) s5) fun t6 s7 =>
  bindP (reO (binK .or .no (gt t 3) t6) s7) fun t8 s9 =>
  bindP (reO (binK .add .no (gt t 8) (.int .i64 (1))) s9) fun t10 s11 =>
  Q .normal ⟨20, (fs t [(9, t0), (10, (gt t 8)), (11, t2), (12, t4), (4, (gt t 8)), (5, t4), (13, t4), (14, (gt t 3)), (15, (gt t 8)), (16, t6), (17, t8), (3, t8), (18, t10), (8, t10)]), ds⟩ s11)
  (bindP (reO (binK .add .no (gt t 8) (.int .i64 (1))) s5) fun t12 s13 =>
  Q .normal ⟨20, (fs t [(9, t0), (10, (gt t 8)), (11, t2), (12, t4), (4, (gt t 8)), (5, t4), (13, t4), (18, t12), (8, t12)]), ds⟩ s13))
  (Q (.exit 0) ⟨20, (fs t [(9, t0)]), ds⟩ s1)) := by kernel_rfl
theorem e23_r0 (O : Orc) (ro : Option Nat) (t : Regs) (ds : List Nat) (s : St) (Q : Kt) : wp Tryz.prog O isP ro (cZ (cZ (cZ (cOf Tryz.prog 23)))) ⟨20, t, ds⟩ s Q =
  (Q .ret ⟨20, (fs t [(19, (gt t 3)), (2, (gt t 3))]), ds⟩ s) := by kernel_rfl

/- 24 potence/stick.arePlaces: 2 in, 8 slots, 0 hard -/
theorem e24 (O : Orc) (a0 a1 : Value) (s : St) (F : Value → St → Prop) : wpF Tryz.prog O isP 24 [a0, a1] s F =
  (bindP (boxN a1 s) fun t0 s1 =>
  bindP (.ok (.func (.func 59) ⟨[]⟩ ⟨[t0]⟩) s1) fun t2 s3 =>
  bindO (pcall O 58 [a0, t2] s3) fun t4 =>
  bindP (.ok t4 s3) F) := by kernel_rfl

/- 25 slices.Clone[[]int,int]: 1 in, 8 slots, 0 hard -/
theorem e25 (O : Orc) (a0 : Value) (s : St) (F : Value → St → Prop) : wpF Tryz.prog O isP 25 [a0] s F =
  (bindP (reO (binK .eql .slice a0 (.slice none 0 0)) s) fun t0 s1 =>
  condP t0
  (bindP (.ok (.slice none 0 0) s1) F)
  (bindP (buildSliceA (.mk 1 [(.int .i64 (0))] true) 0 [] s1) fun t2 s3 =>
  bindP (appendN (.list 1) t2 a0 s3) fun t4 s5 =>
  bindP (.ok t4 s5) F)) := by kernel_rfl

/- 26 potence/stick.rowOf: 1 in, 24 slots, 0 hard -/
theorem e26 (O : Orc) (a0 : Value) (s : St) (F : Value → St → Prop) : wpF Tryz.prog O isP 26 [a0] s F =
  (bindP (boxN a0 s) fun t0 s1 =>
  bindP (boxK [(.int .u64 (0)), (.int .u64 (0)), (.int .u64 (0))] s1) fun t2 s3 =>
  bindP (boxK [(.int .u64 (0)), (.int .u64 (0)), (.int .u64 (0))] s3) fun t4 s5 =>
  bindP (reO (movP t0 1) s5) fun t6 s7 =>
  bindP (loadA .one t6 s7) fun t8 s9 =>
  bindP (reO (lenK .sl t8 s9) s9) fun t10 s11 =>
  RunsC Tryz.prog O (.loop (cA (cA (cZ (cA (cZ (cZ (cOf Tryz.prog 26)))))))) none ⟨24, (fs (setArgs [a0] 0 regs0) [(1, t0), (2, t2), (3, t4), (6, t6), (7, t8), (8, t10), (9, (.int .i64 (0)))]), []⟩ s11 (blockK 0 (seqK Tryz.prog O isP none (cZ (cZ (cZ (cOf Tryz.prog 26)))) (outK Tryz.prog Tryz.f26 F)))) := by kernel_rfl
theorem o26 (F : Value → St → Prop) (t : Regs) (s : St) : outK Tryz.prog Tryz.f26 F .ret ⟨24, t, []⟩ s =
  (bindP (resE [(cellR (.agg 3) (gt t 2) s)] s) F) := by kernel_rfl
theorem e26_b0 (O : Orc) (ro : Option Nat) (t : Regs) (ds : List Nat) (s : St) (Q : Kt) : wp Tryz.prog O isP ro (cA (cA (cZ (cA (cZ (cZ (cOf Tryz.prog 26))))))) ⟨24, t, ds⟩ s Q =
  (bindP (reO (binK .lss .no (gt t 9) (gt t 8)) s) fun t0 s1 =>
  condP t0
  (bindP (reO (idxK (.sl 1) (gt t 7) (gt t 9)) s1) fun t2 s3 =>
  bindP (loadA .one t2 s3) fun t4 s5 =>
  bindP (reO (idxK (.arr 3 1) (gt t 3) (.int .i64 (0))) s5) fun t6 s7 =>
  bindP (loadA .one t6 s7) fun t8 s9 =>
  andP (belL [t6] s7) <|
  bindP (reO (binK .shl .no (.int .u64 (1)) t4) s9) fun t10 s11 =>
  bindP (reO (binK .or .no t8 t10) s11) fun t12 s13 =>
  bindP (reO (idxK (.arr 3 1) (gt t 3) (.int .i64 (0))) s13) fun t14 s15 =>
  bindP (storeN .one t14 t12 s15) fun t16 s17 =>
  andP (bsel (belL [t14, t12] s15) (nextLe s15 s17) false) <|
  bindP (reO (binK .add .no (gt t 9) (.int .i64 (1))) s17) fun t18 s19 =>
  Q .normal ⟨24, (fs t [(10, t0), (11, t2), (12, t4), (5, t4), (13, t6), (14, t8), (15, t4), (16, t10), (17, t12), (18, t14), (19, t18), (9, t18)]), ds⟩ s19)
  (Q (.exit 0) ⟨24, (fs t [(10, t0)]), ds⟩ s1)) := by kernel_rfl
theorem e26_r0 (O : Orc) (ro : Option Nat) (t : Regs) (ds : List Nat) (s : St) (Q : Kt) : wp Tryz.prog O isP ro (cZ (cZ (cZ (cOf Tryz.prog 26)))) ⟨24, t, ds⟩ s Q =
  (bindP (reO (movP (gt t 1) 2) s) fun t0 s1 =>
  bindP (loadA .one t0 s1) fun t2 s3 =>
  condP t2
  (bindP (reO (idxK (.arr 3 1) (gt t 3) (.int .i64 (1))) s3) fun t4 s5 =>
  bindP (storeN .one t4 (.int .u64 (1)) s5) fun t6 s7 =>
  bindP (loadA (.agg 3) (gt t 3) s7) fun t8 s9 =>
  bindP (storeN (.agg 3) (gt t 2) t8 s9) fun t10 s11 =>
  Q .ret ⟨24, (fs t [(20, t0), (21, t2), (22, t4), (23, t8)]), ds⟩ s11)
  (bindP (loadA (.agg 3) (gt t 3) s3) fun t12 s13 =>
  bindP (storeN (.agg 3) (gt t 2) t12 s13) fun t14 s15 =>
  Q .ret ⟨24, (fs t [(20, t0), (21, t2), (23, t12)]), ds⟩ s15)) := by kernel_rfl

/- 27 (potence/stick.row).fits: 2 in, 15 slots, 0 hard -/
theorem e27 (O : Orc) (a0 a1 : Value) (s : St) (F : Value → St → Prop) : wpF Tryz.prog O isP 27 [a0, a1] s F =
  (bindP (boxN a0 s) fun t0 s1 =>
  bindP (reO (idxK (.arr 3 1) t0 (.int .i64 (0))) s1) fun t2 s3 =>
  bindP (loadA .one t2 s3) fun t4 s5 =>
  andP (belL [t2] s3) <|
  bindP (reO (binK .and .no a1 t4) s5) fun t6 s7 =>
  bindO (pcall O 35 [t6] s7) fun t8 =>
  andP (belL [(.func (.func 35) #[] #[]), t6] s7) <|
  bindP (reO (binK .rem .no t8 (.int .i64 (2))) s7) fun t9 s10 =>
  bindP (reO (idxK (.arr 3 1) t0 (.int .i64 (1))) s10) fun t11 s12 =>
  bindP (loadA .one t11 s12) fun t13 s14 =>
  andP (belL [t11] s12) <|
  bindP (reO (convK (.int .i64) t13 s14) s14) fun t15 s16 =>
  andP (belL [t13] s14) <|
  bindP (reO (binK .eql .no t9 t15) s16) fun t17 s18 =>
  bindP (.ok t17 s18) F) := by kernel_rfl

/- 28 potence/potenceref09.in: 3 in, 15 slots, 0 hard -/
theorem e28 (O : Orc) (a0 a1 a2 : Value) (s : St) (F : Value → St → Prop) : wpF Tryz.prog O isP 28 [a0, a1, a2] s F =
  (bindP (reO (binK .geq .no a0 a1) s) fun t0 s1 =>
  bindP (guarded (isBool t0 true) (.ok a0 s1) s1) fun t2 s3 =>
  bindP (guarded (isBool t0 true) (.ok a2 s3) s3) fun t4 s5 =>
  bindP (guarded (isBool t0 true) (reO (binK .leq .no t2 t4) s5) s5) fun t6 s7 =>
  bindP (pickK t0 t6 (.bool false) s7) fun t8 s9 =>
  bindP (.ok t8 s9) F) := by kernel_rfl

/- 29 potence/potenceref09.places: 2 in, 36 slots, 0 hard -/
theorem e29 (O : Orc) (a0 a1 : Value) (s : St) (F : Value → St → Prop) : wpF Tryz.prog O isP 29 [a0, a1] s F =
  (RunsC Tryz.prog O (.loop (cA (cA (cZ (cA (cZ (cOf Tryz.prog 29))))))) none ⟨36, (fs (setArgs [a0, a1] 0 regs0) [(4, (.bool false)), (5, (.int .i64 (0)))]), []⟩ s (blockK 0 (seqK Tryz.prog O isP none (cZ (cZ (cOf Tryz.prog 29))) (outK Tryz.prog Tryz.f29 F)))) := by kernel_rfl
theorem o29 (F : Value → St → Prop) (t : Regs) (s : St) : outK Tryz.prog Tryz.f29 F .ret ⟨36, t, []⟩ s =
  (bindP (.ok (gt t 4) s) F) := by kernel_rfl
theorem e29_b0 (O : Orc) (ro : Option Nat) (t : Regs) (ds : List Nat) (s : St) (Q : Kt) : wp Tryz.prog O isP ro (cA (cA (cZ (cA (cZ (cOf Tryz.prog 29)))))) ⟨36, t, ds⟩ s Q =
  (bindP (reO (lenK .sl (gt t 1) s) s) fun t0 s1 =>
  bindP (reO (binK .lss .no (gt t 5) t0) s1) fun t2 s3 =>
  condP t2
  (bindP (reO (idxK (.sl 1) (gt t 1) (gt t 5)) s3) fun t4 s5 =>
  bindP (loadA .one t4 s5) fun t6 s7 =>
  andP (belL [t4] s5) <|
  bindP (reO (binK .sub .no (gt t 0) (.int .i64 (1))) s7) fun t8 s9 =>
  bindO (pcall O 28 [t6, (.int .i64 (0)), t8] s9) fun t10 =>
  andP (belL [(.func (.func 28) #[] #[]), t6, (.int .i64 (0)), t8] s9) <|
  bindP (reO (unA .not t10) s9) fun t11 s12 =>
  bindP (guarded (isBool t11 false) (.ok (gt t 5) s12) s12) fun t13 s14 =>
  bindP (guarded (isBool t11 false) (reO (binK .gtr .no t13 (.int .i64 (0))) s14) s14) fun t15 s16 =>
  bindP (guarded (isBool t11 false) (.ok t15 s16) s16) fun t17 s18 =>
  bindP (guarded (isBool t17 true) (.ok (gt t 1) s18) s18) fun t19 s20 =>
  bindP (guarded (isBool t17 true) (.ok (gt t 5) s20) s20) fun t21 s22 =>
  bindP (guarded (isBool t17 true) (reO (idxK (.sl 1) t19 t21) s22) s22) fun t23 s24 =>
  bindP (guarded (isBool t17 true) (loadA .one t23 s24) s24) fun t25 s26 =>
  andP (orN (isBool t17 true) (belL [t23] s24)) <|
  bindP (guarded (isBool t17 true) (.ok (gt t 1) s26) s26) fun t27 s28 =>
  bindP (guarded (isBool t17 true) (.ok (gt t 5) s28) s28) fun t29 s30 =>
  bindP (guarded (isBool t17 true) (reO (binK .sub .no t29 (.int .i64 (1))) s30) s30) fun t31 s32 =>
  bindP (guarded (isBool t17 true) (reO (idxK (.sl 1) t27 t31) s32) s32) fun t33 s34 =>
  bindP (guarded (isBool t17 true) (loadA .one t33 s34) s34) fun t35 s36 =>
  andP (orN (isBool t17 true) (belL [t33] s34)) <|
  bindP (guarded (isBool t17 true) (reO (binK .leq .no t25 t35) s36) s36) fun t37 s38 =>
  bindP (guarded (isBool t11 false) (pickK t17 t37 (.bool false) s38) s38) fun t39 s40 =>
  bindP (pickK t11 (.bool true) t39 s40) fun t41 s42 =>
  condP t41
  (Q .ret ⟨36, (fs t [(6, (gt t 5)), (7, (gt t 1)), (8, t0), (9, t2), (12, (gt t 1)), (13, (gt t 5)), (14, t4), (15, t6), (16, (gt t 0)), (17, t8), (18, t10), (19, t11), (20, t11), (21, t13), (22, t15), (23, t17), (24, t19), (25, t21), (26, t23), (27, t25), (28, t27), (29, t29), (30, t31), (31, t33), (32, t35), (33, t37), (34, t39), (35, t41), (4, (.bool false))]), ds⟩ s42)
  (bindP (reO (binK .add .no (gt t 5) (.int .i64 (1))) s42) fun t43 s44 =>
  Q .normal ⟨36, (fs t [(6, (gt t 5)), (7, (gt t 1)), (8, t0), (9, t2), (12, (gt t 1)), (13, (gt t 5)), (14, t4), (15, t6), (16, (gt t 0)), (17, t8), (18, t10), (19, t11), (20, t11), (21, t13), (22, t15), (23, t17), (24, t19), (25, t21), (26, t23), (27, t25), (28, t27), (29, t29), (30, t31), (31, t33), (32, t35), (33, t37), (34, t39), (35, t41), (10, (gt t 5)), (11, t43), (5, t43)]), ds⟩ s44))
  (Q (.exit 0) ⟨36, (fs t [(6, (gt t 5)), (7, (gt t 1)), (8, t0), (9, t2)]), ds⟩ s3)) := by kernel_rfl
theorem e29_r0 (O : Orc) (ro : Option Nat) (t : Regs) (ds : List Nat) (s : St) (Q : Kt) : wp Tryz.prog O isP ro (cZ (cZ (cOf Tryz.prog 29))) ⟨36, t, ds⟩ s Q =
  (Q .ret ⟨36, (fs t [(4, (.bool true))]), ds⟩ s) := by kernel_rfl

/- 30 potence/potenceref09.keeps: 2 in, 28 slots, 0 hard -/
theorem e30 (O : Orc) (a0 a1 : Value) (s : St) (F : Value → St → Prop) : wpF Tryz.prog O isP 30 [a0, a1] s F =
  (bindP (boxN a0 s) fun t0 s1 =>
  RunsC Tryz.prog O (.loop (cA (cA (cZ (cA (cZ (cZ (cOf Tryz.prog 30)))))))) none ⟨28, (fs (setArgs [a0, a1] 0 regs0) [(2, t0), (4, (.bool false)), (5, (.bool false)), (6, (.int .i64 (0)))]), []⟩ s1 (blockK 0 (seqK Tryz.prog O isP none (cZ (cZ (cZ (cOf Tryz.prog 30)))) (outK Tryz.prog Tryz.f30 F)))) := by kernel_rfl
theorem o30 (F : Value → St → Prop) (t : Regs) (s : St) : outK Tryz.prog Tryz.f30 F .ret ⟨28, t, []⟩ s =
  (bindP (.ok (gt t 4) s) F) := by kernel_rfl
theorem e30_b0 (O : Orc) (ro : Option Nat) (t : Regs) (ds : List Nat) (s : St) (Q : Kt) : wp Tryz.prog O isP ro (cA (cA (cZ (cA (cZ (cZ (cOf Tryz.prog 30))))))) ⟨28, t, ds⟩ s Q =
  (bindP (reO (movP (gt t 2) 1) s) fun t0 s1 =>
  bindP (loadA .one t0 s1) fun t2 s3 =>
  bindP (reO (lenK .sl t2 s3) s3) fun t4 s5 =>
  bindP (reO (binK .lss .no (gt t 6) t4) s5) fun t6 s7 =>
  condP t6
  (bindP (reO (movP (gt t 2) 1) s7) fun t8 s9 =>
  bindP (loadA .one t8 s9) fun t10 s11 =>
  bindP (reO (idxK (.sl 1) t10 (gt t 6)) s11) fun t12 s13 =>
  bindP (loadA .one t12 s13) fun t14 s15 =>
  bindP (reO (idxK (.sl 1) (gt t 1) t14) s15) fun t16 s17 =>
  bindP (loadA .one t16 s17) fun t18 s19 =>
  bindP (reO (binK .neq .bool (gt t 5) t18) s19) fun t20 s21 =>
  bindP (reO (binK .add .no (gt t 6) (.int .i64 (1))) s21) fun t22 s23 =>
  Q .normal ⟨28, (fs t [(7, (gt t 6)), (8, t0), (9, t2), (10, t4), (11, t6), (14, (gt t 5)), (15, (gt t 1)), (16, t8), (17, t10), (18, (gt t 6)), (19, t12), (20, t14), (21, t16), (22, t18), (23, t20), (5, t20), (12, (gt t 6)), (13, t22), (6, t22)]), ds⟩ s23)
  (Q (.exit 0) ⟨28, (fs t [(7, (gt t 6)), (8, t0), (9, t2), (10, t4), (11, t6)]), ds⟩ s7)) := by kernel_rfl
theorem e30_r0 (O : Orc) (ro : Option Nat) (t : Regs) (ds : List Nat) (s : St) (Q : Kt) : wp Tryz.prog O isP ro (cZ (cZ (cZ (cOf Tryz.prog 30)))) ⟨28, t, ds⟩ s Q =
  (bindP (reO (movP (gt t 2) 2) s) fun t0 s1 =>
  bindP (loadA .one t0 s1) fun t2 s3 =>
  bindP (reO (binK .eql .bool (gt t 5) t2) s3) fun t4 s5 =>
  Q .ret ⟨28, (fs t [(24, (gt t 5)), (25, t0), (26, t2), (27, t4), (4, t4)]), ds⟩ s5) := by kernel_rfl

/- 31 potence/potenceref09.same: 2 in, 45 slots, 0 hard -/
theorem e31 (O : Orc) (a0 a1 : Value) (s : St) (F : Value → St → Prop) : wpF Tryz.prog O isP 31 [a0, a1] s F =
  (bindP (boxN a0 s) fun t0 s1 =>
  bindP (boxN a1 s1) fun t2 s3 =>
  bindP (reO (movP t0 0) s3) fun t4 s5 =>
  bindP (loadA .one t4 s5) fun t6 s7 =>
  bindP (reO (movP t2 0) s7) fun t8 s9 =>
  bindP (loadA .one t8 s9) fun t10 s11 =>
  bindP (reO (binK .neq .no t6 t10) s11) fun t12 s13 =>
  bindP (guarded (isBool t12 false) (reO (movP t0 2) s13) s13) fun t14 s15 =>
  bindP (guarded (isBool t12 false) (loadA .one t14 s15) s15) fun t16 s17 =>
  bindP (guarded (isBool t12 false) (reO (movP t2 2) s17) s17) fun t18 s19 =>
  bindP (guarded (isBool t12 false) (loadA .one t18 s19) s19) fun t20 s21 =>
  bindP (guarded (isBool t12 false) (reO (binK .neq .bool t16 t20) s21) s21) fun t22 s23 =>
  bindP (pickK t12 (.bool true) t22 s23) fun t24 s25 =>
  bindP (guarded (isBool t24 false) (reO (movP t0 1) s25) s25) fun t26 s27 =>
  bindP (guarded (isBool t24 false) (loadA .one t26 s27) s27) fun t28 s29 =>
  bindP (guarded (isBool t24 false) (reO (lenK .sl t28 s29) s29) s29) fun t30 s31 =>
  bindP (guarded (isBool t24 false) (reO (movP t2 1) s31) s31) fun t32 s33 =>
  bindP (guarded (isBool t24 false) (loadA .one t32 s33) s33) fun t34 s35 =>
  bindP (guarded (isBool t24 false) (reO (lenK .sl t34 s35) s35) s35) fun t36 s37 =>
  bindP (guarded (isBool t24 false) (reO (binK .neq .no t30 t36) s37) s37) fun t38 s39 =>
  bindP (pickK t24 (.bool true) t38 s39) fun t40 s41 =>
  condP t40
  (bindP (.ok (.bool false) s41) F)
  (RunsC Tryz.prog O (.loop (cA (cA (cZ (cA (cZ (cZ (cOf Tryz.prog 31)))))))) none ⟨45, (fs (setArgs [a0, a1] 0 regs0) [(2, t0), (3, t2), (4, (.bool false)), (6, t4), (7, t6), (8, t8), (9, t10), (10, t12), (11, t12), (12, t14), (13, t16), (14, t18), (15, t20), (16, t22), (17, t24), (18, t24), (19, t26), (20, t28), (21, t30), (22, t32), (23, t34), (24, t36), (25, t38), (26, t40), (5, (.int .i64 (0)))]), []⟩ s41 (blockK 0 (seqK Tryz.prog O isP none (cZ (cZ (cZ (cOf Tryz.prog 31)))) (outK Tryz.prog Tryz.f31 F))))) := by kernel_rfl
theorem o31 (F : Value → St → Prop) (t : Regs) (s : St) : outK Tryz.prog Tryz.f31 F .ret ⟨45, t, []⟩ s =
  (bindP (.ok (gt t 4) s) F) := by kernel_rfl
theorem e31_b0 (O : Orc) (ro : Option Nat) (t : Regs) (ds : List Nat) (s : St) (Q : Kt) : wp Tryz.prog O isP ro (cA (cA (cZ (cA (cZ (cZ (cOf Tryz.prog 31))))))) ⟨45, t, ds⟩ s Q =
  (bindP (reO (movP (gt t 2) 1) s) fun t0 s1 =>
  bindP (loadA .one t0 s1) fun t2 s3 =>
  bindP (reO (lenK .sl t2 s3) s3) fun t4 s5 =>
  bindP (reO (binK .lss .no (gt t 5) t4) s5) fun t6 s7 =>
  condP t6
  (bindP (reO (movP (gt t 2) 1) s7) fun t8 s9 =>
  bindP (loadA .one t8 s9) fun t10 s11 =>
  andP (belL [t8] s9) <|
  bindP (reO (idxK (.sl 1) t10 (gt t 5)) s11) fun t12 s13 =>
  bindP (loadA .one t12 s13) fun t14 s15 =>
  andP (belL [t12] s13) <|
  bindP (reO (movP (gt t 3) 1) s15) fun t16 s17 =>
  bindP (loadA .one t16 s17) fun t18 s19 =>
  andP (belL [t16] s17) <|
  bindP (reO (idxK (.sl 1) t18 (gt t 5)) s19) fun t20 s21 =>
  bindP (loadA .one t20 s21) fun t22 s23 =>
  andP (belL [t20] s21) <|
  bindP (reO (binK .neq .no t14 t22) s23) fun t24 s25 =>
  condP t24
  (Q .ret ⟨45, (fs t [(27, (gt t 5)), (28, t0), (29, t2), (30, t4), (31, t6), (34, t8), (35, t10), (36, (gt t 5)), (37, t12), (38, t14), (39, t16), (40, t18), (41, (gt t 5)), (42, t20), (43, t22), (44, t24), (4, (.bool false))]), ds⟩ s25)
  (bindP (reO (binK .add .no (gt t 5) (.int .i64 (1))) s25) fun t26 s27 =>
  Q .normal ⟨45, (fs t [(27, (gt t 5)), (28, t0), (29, t2), (30, t4), (31, t6), (34, t8), (35, t10), (36, (gt t 5)), (37, t12), (38, t14), (39, t16), (40, t18), (41, (gt t 5)), (42, t20), (43, t22), (44, t24), (32, (gt t 5)), (33, t26), (5, t26)]), ds⟩ s27))
  (Q (.exit 0) ⟨45, (fs t [(27, (gt t 5)), (28, t0), (29, t2), (30, t4), (31, t6)]), ds⟩ s7)) := by kernel_rfl
theorem e31_r0 (O : Orc) (ro : Option Nat) (t : Regs) (ds : List Nat) (s : St) (Q : Kt) : wp Tryz.prog O isP ro (cZ (cZ (cZ (cOf Tryz.prog 31)))) ⟨45, t, ds⟩ s Q =
  (Q .ret ⟨45, (fs t [(4, (.bool true))]), ds⟩ s) := by kernel_rfl

/- 32 potence/stick.agreed: 1 in, 22 slots, 0 hard -/
theorem e32 (O : Orc) (a0 : Value) (s : St) (F : Value → St → Prop) : wpF Tryz.prog O isP 32 [a0] s F =
  (bindP (boxN a0 s) fun t0 s1 =>
  bindP (loadA (.agg 2) t0 s1) fun t2 s3 =>
  bindO (pcall O 49 [t2] s3) fun t4 =>
  bindP (reO (binK .neq .no t4 (.int .i64 (0))) s3) fun t5 s6 =>
  condP t5
  (bindP (.ok (.tuple ⟨[(.pointer none), t4]⟩) s6) F)
  (bindP (loadA (.agg 2) t0 s6) fun t7 s8 =>
  bindO (pcall O 53 [t7] s8) fun t9 =>
  bindO (pcall O 60 [t9] s8) fun t10 =>
  bindP (extractK t10 0 s8) fun t11 s12 =>
  bindP (extractK t10 1 s12) fun t13 s14 =>
  bindP (boxK [(.int .u64 (0)), (.int .u64 (0)), (.int .u64 (0))] s14) fun t15 s16 =>
  bindP (storeN (.agg 3) t15 t11 s16) fun t17 s18 =>
  condP t13
  (bindP (.ok (.tuple ⟨[(.pointer none), (.int .i64 (9))]⟩) s18) F)
  (bindP (.ok (.tuple ⟨[t9, (.int .i64 (0))]⟩) s18) F))) := by kernel_rfl

/- 33 potence/stick.notches: 2 in, 25 slots, 0 hard -/
theorem e33 (O : Orc) (a0 a1 : Value) (s : St) (F : Value → St → Prop) : wpF Tryz.prog O isP 33 [a0, a1] s F =
  (bindP (boxK (rle [(48, (.bool false))]) s) fun t0 s1 =>
  RunsC Tryz.prog O (.loop (cA (cA (cZ (cA (cZ (cZ (cOf Tryz.prog 33)))))))) none ⟨25, (fs (setArgs [a0, a1] 0 regs0) [(4, (.slice none 0 0)), (5, t0), (8, (.int .i64 (0)))]), []⟩ s1 (blockK 0 (seqK Tryz.prog O isP none (cZ (cZ (cZ (cOf Tryz.prog 33)))) (outK Tryz.prog Tryz.f33 F)))) := by kernel_rfl
theorem o33 (F : Value → St → Prop) (t : Regs) (s : St) : outK Tryz.prog Tryz.f33 F .ret ⟨25, t, []⟩ s =
  (bindP (.ok (gt t 4) s) F) := by kernel_rfl
theorem e33_b0 (O : Orc) (ro : Option Nat) (t : Regs) (ds : List Nat) (s : St) (Q : Kt) : wp Tryz.prog O isP ro (cA (cA (cZ (cA (cZ (cZ (cOf Tryz.prog 33))))))) ⟨25, t, ds⟩ s Q =
  (bindP (reO (binK .lss .no (gt t 8) (.int .i64 (48))) s) fun t0 s1 =>
  condP t0
  (bindP (reO (binK .shr .no (gt t 0) (gt t 8)) s1) fun t2 s3 =>
  bindP (reO (binK .and .no t2 (.int .u64 (1))) s3) fun t4 s5 =>
  bindP (reO (binK .eql .no t4 (.int .u64 (1))) s5) fun t6 s7 =>
  bindP (reO (idxK (.arr 48 1) (gt t 5) (gt t 8)) s7) fun t8 s9 =>
  bindP (storeN .one t8 t6 s9) fun t10 s11 =>
  bindP (reO (binK .add .no (gt t 8) (.int .i64 (1))) s11) fun t12 s13 =>
  Q .normal ⟨25, (fs t [(9, t0), (10, (gt t 8)), (6, (gt t 8)), (11, (gt t 8)), (12, (gt t 0)), (13, (gt t 8)), (14, t2), (15, t4), (16, t6), (17, t8), (18, t12), (8, t12)]), ds⟩ s13)
  (Q (.exit 0) ⟨25, (fs t [(9, t0)]), ds⟩ s1)) := by kernel_rfl
theorem e33_r0 (O : Orc) (ro : Option Nat) (t : Regs) (ds : List Nat) (s : St) (Q : Kt) : wp Tryz.prog O isP ro (cZ (cZ (cZ (cOf Tryz.prog 33)))) ⟨25, t, ds⟩ s Q =
  (bindP (makeSliceA (.mk 1 [(.bool false)] true) (gt t 1) (gt t 1) s) fun t0 s1 =>
  bindP (reO (sliceK (.arr 48 1) (gt t 5) none none s1) s1) fun t2 s3 =>
  bindP (copyN 1 t0 t2 s3) fun t4 s5 =>
  Q .ret ⟨25, (fs t [(19, (gt t 1)), (20, t0), (7, t0), (21, t0), (22, t2), (23, t4), (24, t0), (4, t0)]), ds⟩ s5) := by kernel_rfl

/- 34 (*potence/stick.basis).fit: 2 in, 27 slots, 0 hard -/
theorem e34 (O : Orc) (a0 a1 : Value) (s : St) (F : Value → St → Prop) : wpF Tryz.prog O isP 34 [a0, a1] s F =
  (bindP (nilK a0 s) fun t0 s1 =>
  bindP (reO (movP t0 2) s1) fun t2 s3 =>
  bindP (loadA (.agg 144) t2 s3) fun t4 s5 =>
  RunsC Tryz.prog O (.loop (cA (cA (cZ (cA (cZ (cZ (cOf Tryz.prog 34)))))))) none ⟨27, (fs (setArgs [a0, a1] 0 regs0) [(4, (.int .u64 (0))), (8, a1), (5, a1), (9, a0), (10, t0), (11, t2), (12, t4), (13, (.int .i64 (0)))]), []⟩ s5 (blockK 0 (seqK Tryz.prog O isP none (cZ (cZ (cZ (cOf Tryz.prog 34)))) (outK Tryz.prog Tryz.f34 F)))) := by kernel_rfl
theorem o34 (F : Value → St → Prop) (t : Regs) (s : St) : outK Tryz.prog Tryz.f34 F .ret ⟨27, t, []⟩ s =
  (bindP (.ok (gt t 4) s) F) := by kernel_rfl
theorem e34_b0 (O : Orc) (ro : Option Nat) (t : Regs) (ds : List Nat) (s : St) (Q : Kt) : wp Tryz.prog O isP ro (cA (cA (cZ (cA (cZ (cZ (cOf Tryz.prog 34))))))) ⟨27, t, ds⟩ s Q =
  (bindP (reO (binK .lss .no (gt t 13) (.int .i64 (48))) s) fun t0 s1 =>
  condP t0
  (bindP (reO (indexK (.arr 48 3) (.agg 3) (gt t 12) (gt t 13)) s1) fun t2 s3 =>
  bindP (boxK [(.int .u64 (0)), (.int .u64 (0)), (.int .u64 (0))] s3) fun t4 s5 =>
  bindP (storeN (.agg 3) t4 t2 s5) fun t6 s7 =>
  bindP (loadA (.agg 3) t4 s7) fun t8 s9 =>
  bindO (pcall O 27 [t8, (gt t 1)] s9) fun t10 =>
  bindP (reO (unA .not t10) s9) fun t11 s12 =>
  condP t11
  (bindP (reO (binK .shl .no (.int .u64 (1)) (gt t 13)) s12) fun t13 s14 =>
  bindP (reO (binK .or .no (gt t 5) t13) s14) fun t15 s16 =>
  bindP (reO (binK .add .no (gt t 13) (.int .i64 (1))) s16) fun t17 s18 =>
  Q .normal ⟨27, (fs t [(14, t0), (15, (gt t 13)), (16, t2), (7, t4), (6, (gt t 13)), (17, t8), (18, (gt t 1)), (19, t10), (20, t11), (21, (gt t 5)), (22, (gt t 13)), (23, t13), (24, t15), (5, t15), (25, t17), (13, t17)]), ds⟩ s18)
  (bindP (reO (binK .add .no (gt t 13) (.int .i64 (1))) s12) fun t19 s20 =>
  Q .normal ⟨27, (fs t [(14, t0), (15, (gt t 13)), (16, t2), (7, t4), (6, (gt t 13)), (17, t8), (18, (gt t 1)), (19, t10), (20, t11), (25, t19), (13, t19)]), ds⟩ s20))
  (Q (.exit 0) ⟨27, (fs t [(14, t0)]), ds⟩ s1)) := by kernel_rfl
theorem e34_r0 (O : Orc) (ro : Option Nat) (t : Regs) (ds : List Nat) (s : St) (Q : Kt) : wp Tryz.prog O isP ro (cZ (cZ (cZ (cOf Tryz.prog 34)))) ⟨27, t, ds⟩ s Q =
  (Q .ret ⟨27, (fs t [(26, (gt t 5)), (4, (gt t 5))]), ds⟩ s) := by kernel_rfl

/- 35 math/bits.OnesCount64: 1 in, 35 slots, 0 hard -/
theorem e35 (O : Orc) (a0 : Value) (s : St) (F : Value → St → Prop) : wpF Tryz.prog O isP 35 [a0] s F =
  (bindP (reO (binK .shr .no a0 (.int .u64 (1))) s) fun t0 s1 =>
  bindP (reO (binK .and .no t0 (.int .u64 (6148914691236517205))) s1) fun t2 s3 =>
  bindP (reO (binK .and .no a0 (.int .u64 (6148914691236517205))) s3) fun t4 s5 =>
  bindP (reO (binK .add .no t2 t4) s5) fun t6 s7 =>
  bindP (reO (binK .shr .no t6 (.int .u64 (2))) s7) fun t8 s9 =>
  bindP (reO (binK .and .no t8 (.int .u64 (3689348814741910323))) s9) fun t10 s11 =>
  bindP (reO (binK .and .no t6 (.int .u64 (3689348814741910323))) s11) fun t12 s13 =>
  bindP (reO (binK .add .no t10 t12) s13) fun t14 s15 =>
  bindP (reO (binK .shr .no t14 (.int .u64 (4))) s15) fun t16 s17 =>
  bindP (reO (binK .add .no t16 t14) s17) fun t18 s19 =>
  bindP (reO (binK .and .no t18 (.int .u64 (1085102592571150095))) s19) fun t20 s21 =>
  bindP (reO (binK .shr .no t20 (.int .u64 (8))) s21) fun t22 s23 =>
  bindP (reO (binK .add .no t20 t22) s23) fun t24 s25 =>
  bindP (reO (binK .shr .no t24 (.int .u64 (16))) s25) fun t26 s27 =>
  bindP (reO (binK .add .no t24 t26) s27) fun t28 s29 =>
  bindP (reO (binK .shr .no t28 (.int .u64 (32))) s29) fun t30 s31 =>
  bindP (reO (binK .add .no t28 t30) s31) fun t32 s33 =>
  bindP (reO (convK (.int .i64) t32 s33) s33) fun t34 s35 =>
  bindP (reO (binK .and .no t34 (.int .i64 (127))) s35) fun t36 s37 =>
  bindP (.ok t36 s37) F) := by kernel_rfl

/- 36 (*potence/stick.basis).free: 1 in, 30 slots, 0 hard -/
theorem e36 (O : Orc) (a0 : Value) (s : St) (F : Value → St → Prop) : wpF Tryz.prog O isP 36 [a0] s F =
  (bindP (nilK a0 s) fun t0 s1 =>
  bindP (reO (movP t0 2) s1) fun t2 s3 =>
  bindP (nilK a0 s3) fun t4 s5 =>
  bindP (reO (movP t4 0) s5) fun t6 s7 =>
  bindP (reO (movP t6 0) s7) fun t8 s9 =>
  bindP (loadA .one t8 s9) fun t10 s11 =>
  andP (belL [t8] s9) <|
  bindP (reO (sliceK (.arr 48 3) t2 none (some t10) s11) s11) fun t12 s13 =>
  andP (belL [t2, t10] s11) <|
  bindP (reO (lenK .sl t12 s13) s13) fun t14 s15 =>
  andP (belL [t12] s13) <|
  RunsC Tryz.prog O (.loop (cA (cA (cZ (cA (cZ (cZ (cOf Tryz.prog 36)))))))) none ⟨30, (fs (setArgs [a0] 0 regs0) [(2, (.int .u64 (0))), (3, (.int .u64 (0))), (6, a0), (7, t0), (8, t2), (9, a0), (10, t4), (11, t6), (12, t8), (13, t10), (14, t12), (15, t14), (16, (.int .i64 (0)))]), []⟩ s15 (blockK 0 (seqK Tryz.prog O isP none (cZ (cZ (cZ (cOf Tryz.prog 36)))) (outK Tryz.prog Tryz.f36 F)))) := by kernel_rfl
theorem o36 (F : Value → St → Prop) (t : Regs) (s : St) : outK Tryz.prog Tryz.f36 F .ret ⟨30, t, []⟩ s =
  (bindP (.ok (gt t 2) s) F) := by kernel_rfl
theorem e36_b0 (O : Orc) (ro : Option Nat) (t : Regs) (ds : List Nat) (s : St) (Q : Kt) : wp Tryz.prog O isP ro (cA (cA (cZ (cA (cZ (cZ (cOf Tryz.prog 36))))))) ⟨30, t, ds⟩ s Q =
  (bindP (reO (binK .lss .no (gt t 16) (gt t 15)) s) fun t0 s1 =>
  condP t0
  (bindP (reO (idxK (.sl 3) (gt t 14) (gt t 16)) s1) fun t2 s3 =>
  bindP (loadA (.agg 3) t2 s3) fun t4 s5 =>
  bindP (boxK [(.int .u64 (0)), (.int .u64 (0)), (.int .u64 (0))] s5) fun t6 s7 =>
  bindP (storeN (.agg 3) t6 t4 s7) fun t8 s9 =>
  bindP (loadA (.agg 3) t6 s9) fun t10 s11 =>
  bindP (reO (buildA (.arr [(.int .u64 (0)), (.int .u64 (0)), (.int .u64 (0))] 1) []) s11) fun t12 s13 =>
  bindP (reO (binK .eql (.agg [1, 1, 1]) t10 t12) s13) fun t14 s15 =>
  condP t14
  (bindP (reO (binK .shl .no (.int .u64 (1)) (gt t 16)) s15) fun t16 s17 =>
  bindP (reO (binK .or .no (gt t 3) t16) s17) fun t18 s19 =>
  bindP (reO (binK .add .no (gt t 16) (.int .i64 (1))) s19) fun t20 s21 =>
  Q .normal ⟨30, (fs t [(17, t0), (18, (gt t 16)), (19, t2), (20, t4), (5, t6), (4, (gt t 16)), (21, t10), (22, t12), (23, t14), (24, (gt t 3)), (25, (gt t 16)), (26, t16), (27, t18), (3, t18), (28, t20), (16, t20)]), ds⟩ s21)
  (bindP (reO (binK .add .no (gt t 16) (.int .i64 (1))) s15) fun t22 s23 =>
  Q .normal ⟨30, (fs t [(17, t0), (18, (gt t 16)), (19, t2), (20, t4), (5, t6), (4, (gt t 16)), (21, t10), (22, t12), (23, t14), (28, t22), (16, t22)]), ds⟩ s23))
  (Q (.exit 0) ⟨30, (fs t [(17, t0)]), ds⟩ s1)) := by kernel_rfl
theorem e36_r0 (O : Orc) (ro : Option Nat) (t : Regs) (ds : List Nat) (s : St) (Q : Kt) : wp Tryz.prog O isP ro (cZ (cZ (cZ (cOf Tryz.prog 36)))) ⟨30, t, ds⟩ s Q =
  (Q .ret ⟨30, (fs t [(29, (gt t 3)), (2, (gt t 3))]), ds⟩ s) := by kernel_rfl

/- 37 (*potence/stick.basis).told: 2 in, 17 slots, 0 hard -/
theorem e37 (O : Orc) (a0 a1 : Value) (s : St) (F : Value → St → Prop) : wpF Tryz.prog O isP 37 [a0, a1] s F =
  (bindP (boxK [(.int .u64 (0)), (.int .u64 (0)), (.int .u64 (0))] s) fun t0 s1 =>
  bindP (reO (buildA (.str [(.int .i64 (0)), (.slice none 0 0), (.bool false)] [(0, 1), (1, 1), (2, 1)]) [(1, a1)]) s1) fun t2 s3 =>
  bindO (pcall O 26 [t2] s3) fun t4 =>
  bindO (pcall O 61 [a0, t4] s3) fun t5 =>
  bindP (boxK [(.int .u64 (0)), (.int .u64 (0)), (.int .u64 (0))] s3) fun t6 s7 =>
  bindP (storeN (.agg 3) t6 t5 s7) fun t8 s9 =>
  bindP (reO (idxK (.arr 3 1) t6 (.int .i64 (0))) s9) fun t10 s11 =>
  bindP (loadA .one t10 s11) fun t12 s13 =>
  bindP (reO (binK .neq .no t12 (.int .u64 (0))) s13) fun t14 s15 =>
  condP t14
  (bindP (reO (buildA (.arr [(.int .u64 (0)), (.int .u64 (0)), (.int .u64 (0))] 1) []) s15) fun t16 s17 =>
  bindP (storeN (.agg 3) t0 t16 s17) fun t18 s19 =>
  bindP (resE [(cellR (.agg 3) t0 s19), (some (.bool false))] s19) F)
  (bindP (loadA (.agg 3) t6 s15) fun t20 s21 =>
  bindP (storeN (.agg 3) t0 t20 s21) fun t22 s23 =>
  bindP (resE [(cellR (.agg 3) t0 s23), (some (.bool true))] s23) F)) := by kernel_rfl

/- 38 (potence/stick.row).odd: 1 in, 6 slots, 0 hard -/
theorem e38 (O : Orc) (a0 : Value) (s : St) (F : Value → St → Prop) : wpF Tryz.prog O isP 38 [a0] s F =
  (bindP (boxN a0 s) fun t0 s1 =>
  bindP (reO (idxK (.arr 3 1) t0 (.int .i64 (1))) s1) fun t2 s3 =>
  bindP (loadA .one t2 s3) fun t4 s5 =>
  bindP (reO (binK .eql .no t4 (.int .u64 (1))) s5) fun t6 s7 =>
  bindP (.ok t6 s7) F) := by kernel_rfl

/- 39 potence/stick.checkPlaces: 2 in, 16 slots, 0 hard -/
theorem e39 (O : Orc) (a0 a1 : Value) (s : St) (F : Value → St → Prop) : wpF Tryz.prog O isP 39 [a0, a1] s F =
  (bindP (boxN a0 s) fun t0 s1 =>
  bindP (loadA (.agg 2) t0 s1) fun t2 s3 =>
  bindO (pcall O 49 [t2] s3) fun t4 =>
  bindP (reO (binK .neq .no t4 (.int .i64 (0))) s3) fun t5 s6 =>
  condP t5
  (bindP (.ok t4 s6) F)
  (bindP (reO (movP t0 0) s6) fun t7 s8 =>
  bindP (loadA .one t7 s8) fun t9 s10 =>
  bindO (pcall O 24 [a1, t9] s10) fun t11 =>
  bindP (reO (unA .not t11) s10) fun t12 s13 =>
  condP t12
  (bindP (.ok (.int .i64 (1)) s13) F)
  (bindP (.ok (.int .i64 (0)) s13) F))) := by kernel_rfl

/- 40 (*potence/stick.basis).ids: 2 in, 34 slots, 0 hard -/
theorem e40 (O : Orc) (a0 a1 : Value) (s : St) (F : Value → St → Prop) : wpF Tryz.prog O isP 40 [a0, a1] s F =
  (bindP (boxN a1 s) fun t0 s1 =>
  bindP (nilK a0 s1) fun t2 s3 =>
  bindP (reO (movP t2 0) s3) fun t4 s5 =>
  bindP (reO (movP t4 1) s5) fun t6 s7 =>
  bindP (loadA .one t6 s7) fun t8 s9 =>
  bindP (reO (lenK .sl t8 s9) s9) fun t10 s11 =>
  RunsC Tryz.prog O (.loop (cA (cA (cZ (cA (cZ (cZ (cOf Tryz.prog 40)))))))) none ⟨34, (fs (setArgs [a0, a1] 0 regs0) [(3, t0), (4, (.slice none 0 0)), (5, (.slice none 0 0)), (8, a0), (9, t2), (10, t4), (11, t6), (12, t8), (13, t10), (14, (.int .i64 (0)))]), []⟩ s11 (blockK 0 (seqK Tryz.prog O isP none (cZ (cZ (cZ (cOf Tryz.prog 40)))) (outK Tryz.prog Tryz.f40 F)))) := by kernel_rfl
theorem o40 (F : Value → St → Prop) (t : Regs) (s : St) : outK Tryz.prog Tryz.f40 F .ret ⟨34, t, []⟩ s =
  (bindP (.ok (gt t 4) s) F) := by kernel_rfl
theorem e40_b0 (O : Orc) (ro : Option Nat) (t : Regs) (ds : List Nat) (s : St) (Q : Kt) : wp Tryz.prog O isP ro (cA (cA (cZ (cA (cZ (cZ (cOf Tryz.prog 40))))))) ⟨34, t, ds⟩ s Q =
  (bindP (reO (binK .lss .no (gt t 14) (gt t 13)) s) fun t0 s1 =>
  condP t0
  (bindP (reO (idxK (.sl 3) (gt t 12) (gt t 14)) s1) fun t2 s3 =>
  bindP (loadA (.agg 3) t2 s3) fun t4 s5 =>
  bindP (boxK [(.int .i64 (0)), (.slice none 0 0), (.bool false)] s5) fun t6 s7 =>
  bindP (storeN (.agg 3) t6 t4 s7) fun t8 s9 =>
  bindP (reO (idxK (.arr 3 1) (gt t 3) (.int .i64 (2))) s9) fun t10 s11 =>
  bindP (loadA .one t10 s11) fun t12 s13 =>
  bindP (reO (binK .shr .no t12 (gt t 14)) s13) fun t14 s15 =>
  bindP (reO (binK .and .no t14 (.int .u64 (1))) s15) fun t16 s17 =>
  bindP (reO (binK .eql .no t16 (.int .u64 (1))) s17) fun t18 s19 =>
  condP t18
  (bindP (reO (movP t6 0) s19) fun t20 s21 =>
  bindP (loadA .one t20 s21) fun t22 s23 =>
  bindP (buildSliceA (.mk 1 [(.int .i64 (0))] true) 1 [(0, t22)] s23) fun t24 s25 =>
  bindP (appendN (.list 1) (gt t 5) t24 s25) fun t26 s27 =>
  bindP (reO (binK .add .no (gt t 14) (.int .i64 (1))) s27) fun t28 s29 =>
  Q .normal ⟨34, (fs t [(15, t0), (16, (gt t 14)), (17, t2), (18, t4), (7, t6), (6, (gt t 14)), (19, t10), (20, t12), (21, (gt t 14)), (22, t14), (23, t16), (24, t18), (25, (gt t 5)), (26, t20), (27, t22), (28, t24), (29, t26), (5, t26), (30, t28), (14, t28)]), ds⟩ s29)
  (bindP (reO (binK .add .no (gt t 14) (.int .i64 (1))) s19) fun t30 s31 =>
  Q .normal ⟨34, (fs t [(15, t0), (16, (gt t 14)), (17, t2), (18, t4), (7, t6), (6, (gt t 14)), (19, t10), (20, t12), (21, (gt t 14)), (22, t14), (23, t16), (24, t18), (30, t30), (14, t30)]), ds⟩ s31))
  (Q (.exit 0) ⟨34, (fs t [(15, t0)]), ds⟩ s1)) := by kernel_rfl
theorem e40_r0 (O : Orc) (ro : Option Nat) (t : Regs) (ds : List Nat) (s : St) (Q : Kt) : wp Tryz.prog O isP ro (cZ (cZ (cZ (cOf Tryz.prog 40)))) ⟨34, t, ds⟩ s Q =
  (bindO (pcall O 62 [(gt t 5)] s) fun t0 =>
  Q .ret ⟨34, (fs t [(31, (gt t 5)), (32, t0), (33, (gt t 5)), (4, (gt t 5))]), ds⟩ s) := by kernel_rfl

/- 41 potence/stick.checkNotched: 2 in, 16 slots, 0 hard -/
theorem e41 (O : Orc) (a0 a1 : Value) (s : St) (F : Value → St → Prop) : wpF Tryz.prog O isP 41 [a0, a1] s F =
  (bindP (boxN a0 s) fun t0 s1 =>
  bindP (loadA (.agg 2) t0 s1) fun t2 s3 =>
  bindO (pcall O 49 [t2] s3) fun t4 =>
  bindP (reO (binK .neq .no t4 (.int .i64 (0))) s3) fun t5 s6 =>
  condP t5
  (bindP (.ok t4 s6) F)
  (bindP (reO (lenK .sl a1 s6) s6) fun t7 s8 =>
  bindP (reO (movP t0 0) s8) fun t9 s10 =>
  bindP (loadA .one t9 s10) fun t11 s12 =>
  bindP (reO (binK .neq .no t7 t11) s12) fun t13 s14 =>
  condP t13
  (bindP (.ok (.int .i64 (1)) s14) F)
  (bindP (.ok (.int .i64 (0)) s14) F))) := by kernel_rfl

/- 42 potence/stick.Nearest$1: 2 in, 8 slots, 0 hard -/
theorem e42 (O : Orc) (a0 a1 : Value) (s : St) (F : Value → St → Prop) : wpF Tryz.prog O isP 42 [a0, a1] s F =
  (bindP (loadA .one a1 s) fun t0 s1 =>
  bindP (reO (binK .xor .no a0 t0) s1) fun t2 s3 =>
  bindO (pcall O 35 [t2] s3) fun t4 =>
  bindP (.ok t4 s3) F) := by kernel_rfl

/- 43 potence/stick.first[uint64]: 2 in, 23 slots, 0 hard -/
theorem e43 (O : Orc) (a0 a1 : Value) (s : St) (F : Value → St → Prop) : wpF Tryz.prog O isP 43 [a0, a1] s F =
  (bindP (boxN a1 s) fun t0 s1 =>
  bindP (boxK [(.int .u64 (0))] s1) fun t2 s3 =>
  bindP (boxK [(.bool false)] s3) fun t4 s5 =>
  bindP (storeN .one t4 (.bool false) s5) fun t6 s7 =>
  RunsC Tryz.prog O (.rangeFunc (.tmp 9) ⟨[10]⟩ (cA (cA (cZ (cA (cZ (cZ (cZ (cOf Tryz.prog 43)))))))) (cZ (cA (cZ (cA (cZ (cZ (cZ (cOf Tryz.prog 43))))))))) none ⟨23, (fs (setArgs [a0, a1] 0 regs0) [(3, t0), (4, (.int .u64 (0))), (5, (.bool false)), (6, t2), (7, t4), (9, a0)]), []⟩ s7 (blockK 0 (seqK Tryz.prog O isP none (cZ (cZ (cZ (cZ (cOf Tryz.prog 43))))) (outK Tryz.prog Tryz.f43 F)))) := by kernel_rfl
theorem o43 (F : Value → St → Prop) (t : Regs) (s : St) : outK Tryz.prog Tryz.f43 F .ret ⟨23, t, []⟩ s =
  (bindP (.ok (.tuple ⟨[(gt t 4), (gt t 5)]⟩) s) F) := by kernel_rfl
theorem e43_b0 (O : Orc) (ro : Option Nat) (t : Regs) (ds : List Nat) (s : St) (Q : Kt) : wp Tryz.prog O isP ro (cA (cA (cZ (cA (cZ (cZ (cZ (cOf Tryz.prog 43)))))))) ⟨23, t, ds⟩ s Q =
  (Q .normal ⟨23, (fs t [(8, (gt t 10))]), ds⟩ s) := by kernel_rfl
theorem e43_b1 (O : Orc) (ro : Option Nat) (t : Regs) (ds : List Nat) (s : St) (Q : Kt) : wp Tryz.prog O isP ro (cZ (cA (cZ (cA (cZ (cZ (cZ (cOf Tryz.prog 43)))))))) ⟨23, t, ds⟩ s Q =
  (bindP (loadA .one (gt t 7) s) fun t0 s1 =>
  bindP (reO (unA .not t0) s1) fun t2 s3 =>
  bindP (guarded (isBool t2 false) (loadA .one (gt t 3) s3) s3) fun t4 s5 =>
  bindP (guarded (isBool t2 false) (.ok (gt t 8) s5) s5) fun t6 s7 =>
  bindP (guarded (isBool t2 false) (loadA .one (gt t 6) s7) s7) fun t8 s9 =>
  callG (isBool t2 false) Tryz.prog O t4 [t6, t8] s9 fun t10 s11 =>
  bindP (guarded (isBool t2 false) (reO (binK .lss .no t10 (.int .i64 (0))) s11) s11) fun t12 s13 =>
  bindP (pickK t2 (.bool true) t12 s13) fun t14 s15 =>
  condP t14
  (bindP (storeN .one (gt t 6) (gt t 8) s15) fun t16 s17 =>
  bindP (storeN .one (gt t 7) (.bool true) s17) fun t18 s19 =>
  Q .normal ⟨23, (fs t [(11, t0), (12, t2), (13, t2), (14, t4), (15, t6), (16, t8), (17, t10), (18, t12), (19, t14), (20, (gt t 8))]), ds⟩ s19)
  (Q .normal ⟨23, (fs t [(11, t0), (12, t2), (13, t2), (14, t4), (15, t6), (16, t8), (17, t10), (18, t12), (19, t14)]), ds⟩ s15)) := by kernel_rfl
theorem e43_r0 (O : Orc) (ro : Option Nat) (t : Regs) (ds : List Nat) (s : St) (Q : Kt) : wp Tryz.prog O isP ro (cZ (cZ (cZ (cZ (cOf Tryz.prog 43))))) ⟨23, t, ds⟩ s Q =
  (bindP (loadA .one (gt t 6) s) fun t0 s1 =>
  andP (belL [(gt t 6)] s) <|
  bindP (loadA .one (gt t 7) s1) fun t2 s3 =>
  andP (belL [(gt t 7)] s1) <|
  Q .ret ⟨23, (fs t [(21, t0), (22, t2), (4, t0), (5, t2)]), ds⟩ s3) := by kernel_rfl

/- 44 (*potence/stick.basis).all: 1 in, 4 slots, 0 hard -/
theorem e44 (O : Orc) (a0 : Value) (s : St) (F : Value → St → Prop) : wpF Tryz.prog O isP 44 [a0] s F =
  (bindP (boxN a0 s) fun t0 s1 =>
  bindP (.ok (.func (.func 63) ⟨[]⟩ ⟨[t0]⟩) s1) fun t2 s3 =>
  bindP (.ok t2 s3) F) := by kernel_rfl

/- 46 cmp.Or[int]: 1 in, 18 slots, 0 hard -/
theorem e46 (O : Orc) (a0 : Value) (s : St) (F : Value → St → Prop) : wpF Tryz.prog O isP 46 [a0] s F =
  (bindP (reO (lenK .sl a0 s) s) fun t0 s1 =>
  RunsC Tryz.prog O (.loop (cA (cA (cZ (cA (cZ (cZ (cOf Tryz.prog 46)))))))) none ⟨18, (fs (setArgs [a0] 0 regs0) [(2, (.int .i64 (0))), (3, (.int .i64 (0))), (6, a0), (7, t0), (8, (.int .i64 (0)))]), []⟩ s1 (blockK 0 (seqK Tryz.prog O isP none (cZ (cZ (cZ (cOf Tryz.prog 46)))) (outK Tryz.prog Tryz.f46 F)))) := by kernel_rfl
theorem o46 (F : Value → St → Prop) (t : Regs) (s : St) : outK Tryz.prog Tryz.f46 F .ret ⟨18, t, []⟩ s =
  (bindP (.ok (gt t 2) s) F) := by kernel_rfl
theorem e46_b0 (O : Orc) (ro : Option Nat) (t : Regs) (ds : List Nat) (s : St) (Q : Kt) : wp Tryz.prog O isP ro (cA (cA (cZ (cA (cZ (cZ (cOf Tryz.prog 46))))))) ⟨18, t, ds⟩ s Q =
  (bindP (reO (binK .lss .no (gt t 8) (gt t 7)) s) fun t0 s1 =>
  condP t0
  (bindP (reO (idxK (.sl 1) (gt t 6) (gt t 8)) s1) fun t2 s3 =>
  bindP (loadA .one t2 s3) fun t4 s5 =>
  bindP (reO (binK .neq .no t4 (gt t 3)) s5) fun t6 s7 =>
  condP t6
  (Q .ret ⟨18, (fs t [(9, t0), (10, t2), (11, t4), (5, t4), (12, t4), (13, (gt t 3)), (14, t6), (15, t4), (2, t4)]), ds⟩ s7)
  (bindP (reO (binK .add .no (gt t 8) (.int .i64 (1))) s7) fun t8 s9 =>
  Q .normal ⟨18, (fs t [(9, t0), (10, t2), (11, t4), (5, t4), (12, t4), (13, (gt t 3)), (14, t6), (16, t8), (8, t8)]), ds⟩ s9))
  (Q (.exit 0) ⟨18, (fs t [(9, t0)]), ds⟩ s1)) := by kernel_rfl
theorem e46_r0 (O : Orc) (ro : Option Nat) (t : Regs) (ds : List Nat) (s : St) (Q : Kt) : wp Tryz.prog O isP ro (cZ (cZ (cZ (cOf Tryz.prog 46)))) ⟨18, t, ds⟩ s Q =
  (Q .ret ⟨18, (fs t [(17, (gt t 3)), (2, (gt t 3))]), ds⟩ s) := by kernel_rfl

/- 47 cmp.Compare[int]: 2 in, 20 slots, 0 hard -/
theorem e47 (O : Orc) (a0 a1 : Value) (s : St) (F : Value → St → Prop) : wpF Tryz.prog O isP 47 [a0, a1] s F =
  (bindO (pcall O 64 [a0] s) fun t0 =>
  bindO (pcall O 64 [a1] s) fun t1 =>
  condP t0
  (condP t1
  (bindP (.ok (.int .i64 (0)) s) F)
  (bindP (.ok (.int .i64 (-1)) s) F))
  (condP t1
  (bindP (.ok (.int .i64 (1)) s) F)
  (bindP (reO (binK .lss .no a0 a1) s) fun t2 s3 =>
  condP t2
  (bindP (.ok (.int .i64 (-1)) s3) F)
  (bindP (reO (binK .gtr .no a0 a1) s3) fun t4 s5 =>
  condP t4
  (bindP (.ok (.int .i64 (1)) s5) F)
  (bindP (.ok (.int .i64 (0)) s5) F))))) := by kernel_rfl

/- 48 potence/stick.inOrder: 2 in, 10 slots, 0 hard -/
theorem e48 (O : Orc) (a0 a1 : Value) (s : St) (F : Value → St → Prop) : wpF Tryz.prog O isP 48 [a0, a1] s F =
  (bindO (pcall O 66 [a0] s) fun t0 =>
  bindO (pcall O 66 [a1] s) fun t1 =>
  bindO (pcall O 65 [t0, t1] s) fun t2 =>
  bindP (.ok t2 s) F) := by kernel_rfl

/- 49 potence/stick.Check: 1 in, 42 slots, 0 hard -/
theorem e49 (O : Orc) (a0 : Value) (s : St) (F : Value → St → Prop) : wpF Tryz.prog O isP 49 [a0] s F =
  (bindP (boxN a0 s) fun t0 s1 =>
  bindP (reO (movP t0 0) s1) fun t2 s3 =>
  bindP (loadA .one t2 s3) fun t4 s5 =>
  bindO (pcall O 22 [(.int .i64 (1)), t4, (.int .i64 (48))] s5) fun t6 =>
  bindP (reO (unA .not t6) s5) fun t7 s8 =>
  condP t7
  (bindP (.ok (.int .i64 (1)) s8) F)
  (bindP (reO (movP t0 1) s8) fun t9 s10 =>
  bindP (loadA .one t9 s10) fun t11 s12 =>
  bindP (reO (lenK .sl t11 s12) s12) fun t13 s14 =>
  bindP (reO (binK .gtr .no t13 (.int .i64 (60))) s14) fun t15 s16 =>
  condP t15
  (bindP (.ok (.int .i64 (2)) s16) F)
  (bindP (newMap s16) fun t17 s18 =>
  bindP (reO (movP t0 1) s18) fun t19 s20 =>
  bindP (loadA .one t19 s20) fun t21 s22 =>
  bindP (reO (lenK .sl t21 s22) s22) fun t23 s24 =>
  RunsC Tryz.prog O (.loop (cA (cA (cZ (cA (cZ (cZ (cZ (cZ (cOf Tryz.prog 49)))))))))) none ⟨42, (fs (setArgs [a0] 0 regs0) [(1, t0), (2, (.int .i64 (0))), (6, t2), (7, t4), (8, t6), (9, t7), (10, t9), (11, t11), (12, t13), (13, t15), (14, t17), (3, t17), (15, t19), (16, t21), (17, t23), (18, (.int .i64 (0)))]), []⟩ s24 (blockK 0 (seqK Tryz.prog O isP none (cZ (cZ (cZ (cZ (cZ (cOf Tryz.prog 49)))))) (outK Tryz.prog Tryz.f49 F)))))) := by kernel_rfl
theorem o49 (F : Value → St → Prop) (t : Regs) (s : St) : outK Tryz.prog Tryz.f49 F .ret ⟨42, t, []⟩ s =
  (bindP (.ok (gt t 2) s) F) := by kernel_rfl
theorem e49_b0 (O : Orc) (ro : Option Nat) (t : Regs) (ds : List Nat) (s : St) (Q : Kt) : wp Tryz.prog O isP ro (cA (cA (cZ (cA (cZ (cZ (cZ (cZ (cOf Tryz.prog 49))))))))) ⟨42, t, ds⟩ s Q =
  (bindP (reO (binK .lss .no (gt t 18) (gt t 17)) s) fun t0 s1 =>
  condP t0
  (bindP (reO (idxK (.sl 3) (gt t 16) (gt t 18)) s1) fun t2 s3 =>
  bindP (loadA (.agg 3) t2 s3) fun t4 s5 =>
  bindP (boxK [(.int .i64 (0)), (.slice none 0 0), (.bool false)] s5) fun t6 s7 =>
  bindP (storeN (.agg 3) t6 t4 s7) fun t8 s9 =>
  bindP (reO (movP t6 0) s9) fun t10 s11 =>
  bindP (loadA .one t10 s11) fun t12 s13 =>
  bindO (pcall O 22 [(.int .i64 (1)), t12, (.int .i64 (1099511627776))] s13) fun t14 =>
  bindP (reO (unA .not t14) s13) fun t15 s16 =>
  bindP (guarded (isBool t15 false) (reO (movP t6 1) s16) s16) fun t17 s18 =>
  bindP (guarded (isBool t15 false) (loadA .one t17 s18) s18) fun t19 s20 =>
  bindP (guarded (isBool t15 false) (reO (movP (gt t 1) 0) s20) s20) fun t21 s22 =>
  bindP (guarded (isBool t15 false) (loadA .one t21 s22) s22) fun t23 s24 =>
  bindO (guardO (isBool t15 false) (pcall O 24 [t19, t23] s24)) fun t25 =>
  bindP (guarded (isBool t15 false) (reO (unA .not t25) s24) s24) fun t26 s27 =>
  bindP (pickK t15 (.bool true) t26 s27) fun t28 s29 =>
  condP t28
  (Q .ret ⟨42, (fs t [(19, t0), (20, t2), (21, t4), (5, t6), (22, t10), (23, t12), (24, t14), (25, t15), (26, t15), (27, t17), (28, t19), (29, t21), (30, t23), (31, t25), (32, t26), (33, t28), (2, (.int .i64 (1)))]), ds⟩ s29)
  (bindP (reO (movP t6 0) s29) fun t30 s31 =>
  bindP (loadA .one t30 s31) fun t32 s33 =>
  bindP (reO (lookupK (.mk false [1] (.bool false)) (gt t 3) t32 false s33) s33) fun t34 s35 =>
  condP t34
  (Q .ret ⟨42, (fs t [(19, t0), (20, t2), (21, t4), (5, t6), (22, t10), (23, t12), (24, t14), (25, t15), (26, t15), (27, t17), (28, t19), (29, t21), (30, t23), (31, t25), (32, t26), (33, t28), (34, (gt t 3)), (35, t30), (36, t32), (37, t34), (2, (.int .i64 (6)))]), ds⟩ s35)
  (bindP (reO (movP t6 0) s35) fun t36 s37 =>
  bindP (loadA .one t36 s37) fun t38 s39 =>
  bindP (reS (mapSetK (.mk false [1] (.bool false)) (gt t 3) t38 (.bool true) s39)) fun t40 s41 =>
  bindP (reO (binK .add .no (gt t 18) (.int .i64 (1))) s41) fun t42 s43 =>
  Q .normal ⟨42, (fs t [(19, t0), (20, t2), (21, t4), (5, t6), (22, t10), (23, t12), (24, t14), (25, t15), (26, t15), (27, t17), (28, t19), (29, t21), (30, t23), (31, t25), (32, t26), (33, t28), (34, (gt t 3)), (35, t30), (36, t32), (37, t34), (38, (gt t 3)), (39, t36), (40, t38), (41, t42), (18, t42)]), ds⟩ s43)))
  (Q (.exit 0) ⟨42, (fs t [(19, t0)]), ds⟩ s1)) := by kernel_rfl
theorem e49_r0 (O : Orc) (ro : Option Nat) (t : Regs) (ds : List Nat) (s : St) (Q : Kt) : wp Tryz.prog O isP ro (cZ (cZ (cZ (cZ (cZ (cOf Tryz.prog 49)))))) ⟨42, t, ds⟩ s Q =
  (Q .ret ⟨42, (fs t [(2, (.int .i64 (0)))]), ds⟩ s) := by kernel_rfl

/- 50 potence/stick.without: 2 in, 17 slots, 0 hard -/
theorem e50 (O : Orc) (a0 a1 : Value) (s : St) (F : Value → St → Prop) : wpF Tryz.prog O isP 50 [a0, a1] s F =
  (bindP (boxN a0 s) fun t0 s1 =>
  bindP (boxK [(.int .i64 (0)), (.slice none 0 0)] s1) fun t2 s3 =>
  bindP (reO (movP t0 0) s3) fun t4 s5 =>
  bindP (loadA .one t4 s5) fun t6 s7 =>
  bindP (reO (buildA (.str [(.int .i64 (0)), (.slice none 0 0)] [(0, 1), (1, 1)]) [(0, t6)]) s7) fun t8 s9 =>
  bindP (boxK [(.int .i64 (0)), (.slice none 0 0)] s9) fun t10 s11 =>
  bindP (storeN (.agg 2) t10 t8 s11) fun t12 s13 =>
  bindP (loadA (.agg 2) t0 s13) fun t14 s15 =>
  bindO (pcall O 67 [t14, a1, (.bool false)] s15) fun t16 =>
  RunsC Tryz.prog O (.rangeFunc (.tmp 12) ⟨[13]⟩ (cA (cA (cZ (cA (cZ (cZ (cOf Tryz.prog 50))))))) (cZ (cA (cZ (cA (cZ (cZ (cOf Tryz.prog 50)))))))) none ⟨17, (fs (setArgs [a0, a1] 0 regs0) [(2, t0), (4, t2), (7, t4), (8, t6), (9, t8), (5, t10), (10, t14), (11, a1), (12, t16)]), []⟩ s15 (blockK 0 (seqK Tryz.prog O isP none (cZ (cZ (cZ (cOf Tryz.prog 50)))) (outK Tryz.prog Tryz.f50 F)))) := by kernel_rfl
theorem o50 (F : Value → St → Prop) (t : Regs) (s : St) : outK Tryz.prog Tryz.f50 F .ret ⟨17, t, []⟩ s =
  (bindP (resE [(cellR (.agg 2) (gt t 4) s)] s) F) := by kernel_rfl
theorem e50_b0 (O : Orc) (ro : Option Nat) (t : Regs) (ds : List Nat) (s : St) (Q : Kt) : wp Tryz.prog O isP ro (cA (cA (cZ (cA (cZ (cZ (cOf Tryz.prog 50))))))) ⟨17, t, ds⟩ s Q =
  (bindP (boxK [(.int .i64 (0)), (.slice none 0 0), (.bool false)] s) fun t0 s1 =>
  bindP (storeN (.agg 3) t0 (gt t 13) s1) fun t2 s3 =>
  Q .normal ⟨17, (fs t [(6, t0)]), ds⟩ s3) := by kernel_rfl
theorem e50_b1 (O : Orc) (ro : Option Nat) (t : Regs) (ds : List Nat) (s : St) (Q : Kt) : wp Tryz.prog O isP ro (cZ (cA (cZ (cA (cZ (cZ (cOf Tryz.prog 50))))))) ⟨17, t, ds⟩ s Q =
  (bindP (loadA (.agg 3) (gt t 6) s) fun t0 s1 =>
  bindO (pcall O 51 [(gt t 5), t0] s1) fun t2 =>
  Q .normal ⟨17, (fs t [(14, t0), (15, t2)]), ds⟩ s1) := by kernel_rfl
theorem e50_r0 (O : Orc) (ro : Option Nat) (t : Regs) (ds : List Nat) (s : St) (Q : Kt) : wp Tryz.prog O isP ro (cZ (cZ (cZ (cOf Tryz.prog 50)))) ⟨17, t, ds⟩ s Q =
  (bindP (loadA (.agg 2) (gt t 5) s) fun t0 s1 =>
  bindP (storeN (.agg 2) (gt t 4) t0 s1) fun t2 s3 =>
  Q .ret ⟨17, (fs t [(16, t0)]), ds⟩ s3) := by kernel_rfl

/- 52 potence/stick.checked: 1 in, 12 slots, 0 hard -/
theorem e52 (O : Orc) (a0 : Value) (s : St) (F : Value → St → Prop) : wpF Tryz.prog O isP 52 [a0] s F =
  (bindP (boxN a0 s) fun t0 s1 =>
  bindP (boxK [(.int .i64 (0)), (.slice none 0 0)] s1) fun t2 s3 =>
  bindP (loadA (.agg 2) t0 s3) fun t4 s5 =>
  bindO (pcall O 49 [t4] s5) fun t6 =>
  bindP (reO (binK .neq .no t6 (.int .i64 (0))) s5) fun t7 s8 =>
  condP t7
  (bindP (reO (buildA (.str [(.int .i64 (0)), (.slice none 0 0)] [(0, 1), (1, 1)]) []) s8) fun t9 s10 =>
  bindP (storeN (.agg 2) t2 t9 s10) fun t11 s12 =>
  bindP (resE [(cellR (.agg 2) t2 s12), (some t6)] s12) F)
  (bindP (loadA (.agg 2) t0 s8) fun t13 s14 =>
  bindP (storeN (.agg 2) t2 t13 s14) fun t15 s16 =>
  bindP (resE [(cellR (.agg 2) t2 s16), (some (.int .i64 (0)))] s16) F)) := by kernel_rfl

/- 53 potence/stick.newBasis: 1 in, 28 slots, 0 hard -/
theorem e53 (O : Orc) (a0 : Value) (s : St) (F : Value → St → Prop) : wpF Tryz.prog O isP 53 [a0] s F =
  (bindP (boxN a0 s) fun t0 s1 =>
  bindP (loadA (.agg 2) t0 s1) fun t2 s3 =>
  bindP (reO (buildA (.str (rle [(1, (.int .i64 (0))), (1, (.slice none 0 0)), (144, (.int .u64 (0))), (1, (.slice none 0 0))]) [(0, 2), (2, 144), (146, 1)]) [(0, t2)]) s3) fun t4 s5 =>
  bindP (boxN t4 s5) fun t6 s7 =>
  bindP (reO (movP t0 1) s7) fun t8 s9 =>
  bindP (loadA .one t8 s9) fun t10 s11 =>
  bindP (reO (lenK .sl t10 s11) s11) fun t12 s13 =>
  RunsC Tryz.prog O (.loop (cA (cA (cZ (cA (cZ (cZ (cOf Tryz.prog 53)))))))) none ⟨28, (fs (setArgs [a0] 0 regs0) [(1, t0), (2, (.pointer none)), (7, t2), (8, t4), (9, t6), (3, t6), (10, t8), (11, t10), (12, t12), (13, (.int .i64 (0)))]), []⟩ s13 (blockK 0 (seqK Tryz.prog O isP none (cZ (cZ (cZ (cOf Tryz.prog 53)))) (outK Tryz.prog Tryz.f53 F)))) := by kernel_rfl
theorem o53 (F : Value → St → Prop) (t : Regs) (s : St) : outK Tryz.prog Tryz.f53 F .ret ⟨28, t, []⟩ s =
  (bindP (.ok (gt t 2) s) F) := by kernel_rfl
theorem e53_b0 (O : Orc) (ro : Option Nat) (t : Regs) (ds : List Nat) (s : St) (Q : Kt) : wp Tryz.prog O isP ro (cA (cA (cZ (cA (cZ (cZ (cOf Tryz.prog 53))))))) ⟨28, t, ds⟩ s Q =
  (bindP (reO (binK .lss .no (gt t 13) (gt t 12)) s) fun t0 s1 =>
  condP t0
  (bindP (reO (idxK (.sl 3) (gt t 11) (gt t 13)) s1) fun t2 s3 =>
  bindP (loadA (.agg 3) t2 s3) fun t4 s5 =>
  bindP (boxK [(.int .i64 (0)), (.slice none 0 0), (.bool false)] s5) fun t6 s7 =>
  bindP (storeN (.agg 3) t6 t4 s7) fun t8 s9 =>
  bindP (loadA (.agg 3) t6 s9) fun t10 s11 =>
  bindO (pcall O 26 [t10] s11) fun t12 =>
  bindP (boxK [(.int .u64 (0)), (.int .u64 (0)), (.int .u64 (0))] s11) fun t13 s14 =>
  bindP (storeN (.agg 3) t13 t12 s14) fun t15 s16 =>
  bindP (reO (binK .shl .no (.int .u64 (1)) (gt t 13)) s16) fun t17 s18 =>
  bindP (reO (idxK (.arr 3 1) t13 (.int .i64 (2))) s18) fun t19 s20 =>
  bindP (storeN .one t19 t17 s20) fun t21 s22 =>
  bindP (loadA (.agg 3) t13 s22) fun t23 s24 =>
  bindO (pcall O 68 [(gt t 3), t23] s24) fun t25 =>
  bindP (reO (binK .add .no (gt t 13) (.int .i64 (1))) s24) fun t26 s27 =>
  Q .normal ⟨28, (fs t [(14, t0), (15, (gt t 13)), (16, t2), (17, t4), (5, t6), (4, (gt t 13)), (18, t10), (19, t12), (6, t13), (20, (gt t 13)), (21, t17), (22, t19), (23, (gt t 3)), (24, t23), (25, t25), (26, t26), (13, t26)]), ds⟩ s27)
  (Q (.exit 0) ⟨28, (fs t [(14, t0)]), ds⟩ s1)) := by kernel_rfl
theorem e53_r0 (O : Orc) (ro : Option Nat) (t : Regs) (ds : List Nat) (s : St) (Q : Kt) : wp Tryz.prog O isP ro (cZ (cZ (cZ (cOf Tryz.prog 53)))) ⟨28, t, ds⟩ s Q =
  (Q .ret ⟨28, (fs t [(27, (gt t 3)), (2, (gt t 3))]), ds⟩ s) := by kernel_rfl

/- 54 (*potence/stick.basis).faults: 1 in, 75 slots, 0 hard -/
theorem e54 (O : Orc) (a0 : Value) (s : St) (F : Value → St → Prop) : wpF Tryz.prog O isP 54 [a0] s F =
  (bindP (nilK a0 s) fun t0 s1 =>
  bindP (reO (movP t0 0) s1) fun t2 s3 =>
  bindP (reO (movP t2 1) s3) fun t4 s5 =>
  bindP (loadA .one t4 s5) fun t6 s7 =>
  bindP (reO (lenK .sl t6 s7) s7) fun t8 s9 =>
  RunsC Tryz.prog O (.loop (cA (cA (cZ (cA (cZ (cZ (cZ (cOf Tryz.prog 54))))))))) none ⟨75, (fs (setArgs [a0] 0 regs0) [(2, (.slice none 0 0)), (3, (.int .u64 (0))), (4, (.slice none 0 0)), (5, (.int .u64 (0))), (13, a0), (14, t0), (15, t2), (16, t4), (17, t6), (18, t8), (19, (.int .i64 (0)))]), []⟩ s9 (blockK 0 (seqK Tryz.prog O isP none (cZ (cZ (cZ (cZ (cOf Tryz.prog 54))))) (outK Tryz.prog Tryz.f54 F)))) := by kernel_rfl
theorem o54 (F : Value → St → Prop) (t : Regs) (s : St) : outK Tryz.prog Tryz.f54 F .ret ⟨75, t, []⟩ s =
  (bindP (.ok (.tuple ⟨[(gt t 2), (gt t 3)]⟩) s) F) := by kernel_rfl
theorem e54_b0 (O : Orc) (ro : Option Nat) (t : Regs) (ds : List Nat) (s : St) (Q : Kt) : wp Tryz.prog O isP ro (cA (cA (cZ (cA (cZ (cZ (cZ (cOf Tryz.prog 54)))))))) ⟨75, t, ds⟩ s Q =
  (bindP (reO (binK .lss .no (gt t 19) (gt t 18)) s) fun t0 s1 =>
  condP t0
  (bindP (reO (idxK (.sl 3) (gt t 17) (gt t 19)) s1) fun t2 s3 =>
  bindP (loadA (.agg 3) t2 s3) fun t4 s5 =>
  bindP (boxK [(.int .i64 (0)), (.slice none 0 0), (.bool false)] s5) fun t6 s7 =>
  bindP (storeN (.agg 3) t6 t4 s7) fun t8 s9 =>
  bindP (reO (movP t6 0) s9) fun t10 s11 =>
  bindP (loadA .one t10 s11) fun t12 s13 =>
  bindP (reO (buildA (.str [(.int .i64 (0)), (.int .u64 (0))] [(0, 1), (1, 1)]) [(0, t12)]) s13) fun t14 s15 =>
  bindP (boxK [(.int .i64 (0)), (.int .u64 (0))] s15) fun t16 s17 =>
  bindP (storeN (.agg 2) t16 t14 s17) fun t18 s19 =>
  bindP (nilK (gt t 0) s19) fun t20 s21 =>
  bindP (reO (movP t20 146) s21) fun t22 s23 =>
  bindP (loadA .one t22 s23) fun t24 s25 =>
  bindP (reO (lenK .sl t24 s25) s25) fun t26 s27 =>
  RunsC Tryz.prog O (.loop (cA (cA (cZ (cA (cZ (cZ (cA (cA (cZ (cZ (cA (cA (cZ (cA (cZ (cZ (cZ (cOf Tryz.prog 54))))))))))))))))))) ro ⟨75, (fs t [(20, t0), (21, (gt t 19)), (22, t2), (23, t4), (7, t6), (6, (gt t 19)), (24, t10), (25, t12), (26, t14), (8, t16), (27, (gt t 0)), (28, t20), (29, t22), (30, t24), (31, t26), (32, (.int .i64 (0)))]), ds⟩ s27 (blockK 2 (seqK Tryz.prog O isP ro (cZ (cZ (cZ (cA (cA (cZ (cZ (cA (cA (cZ (cA (cZ (cZ (cZ (cOf Tryz.prog 54))))))))))))))) (blockK 1 (seqK Tryz.prog O isP ro (cZ (cZ (cZ (cA (cA (cZ (cA (cZ (cZ (cZ (cOf Tryz.prog 54))))))))))) Q)))))
  (Q (.exit 0) ⟨75, (fs t [(20, t0)]), ds⟩ s1)) := by kernel_rfl
theorem e54_b1 (O : Orc) (ro : Option Nat) (t : Regs) (ds : List Nat) (s : St) (Q : Kt) : wp Tryz.prog O isP ro (cA (cA (cZ (cA (cZ (cZ (cA (cA (cZ (cZ (cA (cA (cZ (cA (cZ (cZ (cZ (cOf Tryz.prog 54)))))))))))))))))) ⟨75, t, ds⟩ s Q =
  (bindP (reO (binK .lss .no (gt t 32) (gt t 31)) s) fun t0 s1 =>
  condP t0
  (bindP (reO (idxK (.sl 3) (gt t 30) (gt t 32)) s1) fun t2 s3 =>
  bindP (loadA (.agg 3) t2 s3) fun t4 s5 =>
  bindP (boxK [(.int .u64 (0)), (.int .u64 (0)), (.int .u64 (0))] s5) fun t6 s7 =>
  bindP (storeN (.agg 3) t6 t4 s7) fun t8 s9 =>
  bindP (reO (movP (gt t 8) 1) s9) fun t10 s11 =>
  bindP (loadA .one t10 s11) fun t12 s13 =>
  andP (belL [t10] s11) <|
  bindP (reO (idxK (.arr 3 1) t6 (.int .i64 (2))) s13) fun t14 s15 =>
  bindP (loadA .one t14 s15) fun t16 s17 =>
  andP (belL [t14] s15) <|
  bindP (reO (binK .shr .no t16 (gt t 6)) s17) fun t18 s19 =>
  bindP (reO (binK .and .no t18 (.int .u64 (1))) s19) fun t20 s21 =>
  bindP (reO (binK .shl .no t20 (gt t 32)) s21) fun t22 s23 =>
  bindP (reO (binK .or .no t12 t22) s23) fun t24 s25 =>
  bindP (reO (movP (gt t 8) 1) s25) fun t26 s27 =>
  bindP (storeN .one t26 t24 s27) fun t28 s29 =>
  andP (bsel (belL [t26, t24] s27) (nextLe s27 s29) false) <|
  bindP (reO (binK .add .no (gt t 32) (.int .i64 (1))) s29) fun t30 s31 =>
  Q .normal ⟨75, (fs t [(33, t0), (34, (gt t 32)), (35, t2), (36, t4), (10, t6), (9, (gt t 32)), (37, t10), (38, t12), (39, t14), (40, t16), (41, (gt t 6)), (42, t18), (43, t20), (44, (gt t 32)), (45, t22), (46, t24), (47, t26), (48, t30), (32, t30)]), ds⟩ s31)
  (Q (.exit 2) ⟨75, (fs t [(33, t0)]), ds⟩ s1)) := by kernel_rfl
theorem e54_b2 (O : Orc) (ro : Option Nat) (t : Regs) (ds : List Nat) (s : St) (Q : Kt) : wp Tryz.prog O isP ro (cA (cA (cZ (cA (cZ (cZ (cZ (cZ (cOf Tryz.prog 54))))))))) ⟨75, t, ds⟩ s Q =
  (bindP (reO (binK .lss .no (gt t 59) (gt t 58)) s) fun t0 s1 =>
  condP t0
  (bindP (reO (idxK (.sl 3) (gt t 57) (gt t 59)) s1) fun t2 s3 =>
  bindP (loadA (.agg 3) t2 s3) fun t4 s5 =>
  bindP (boxK [(.int .u64 (0)), (.int .u64 (0)), (.int .u64 (0))] s5) fun t6 s7 =>
  bindP (storeN (.agg 3) t6 t4 s7) fun t8 s9 =>
  bindP (reO (idxK (.arr 3 1) t6 (.int .i64 (1))) s9) fun t10 s11 =>
  bindP (loadA .one t10 s11) fun t12 s13 =>
  bindP (reO (binK .shl .no t12 (gt t 59)) s13) fun t14 s15 =>
  bindP (reO (binK .or .no (gt t 5) t14) s15) fun t16 s17 =>
  bindP (reO (binK .add .no (gt t 59) (.int .i64 (1))) s17) fun t18 s19 =>
  Q .normal ⟨75, (fs t [(60, t0), (61, (gt t 59)), (62, t2), (63, t4), (12, t6), (11, (gt t 59)), (64, (gt t 5)), (65, t10), (66, t12), (67, (gt t 59)), (68, t14), (69, t16), (5, t16), (70, t18), (59, t18)]), ds⟩ s19)
  (Q (.exit 4) ⟨75, (fs t [(60, t0)]), ds⟩ s1)) := by kernel_rfl
theorem e54_r0 (O : Orc) (ro : Option Nat) (t : Regs) (ds : List Nat) (s : St) (Q : Kt) : wp Tryz.prog O isP ro (cZ (cZ (cZ (cZ (cOf Tryz.prog 54))))) ⟨75, t, ds⟩ s Q =
  (bindP (nilK (gt t 0) s) fun t0 s1 =>
  bindP (reO (movP t0 146) s1) fun t2 s3 =>
  bindP (loadA .one t2 s3) fun t4 s5 =>
  bindP (reO (lenK .sl t4 s5) s5) fun t6 s7 =>
  RunsC Tryz.prog O (.loop (cA (cA (cZ (cA (cZ (cZ (cZ (cZ (cOf Tryz.prog 54)))))))))) ro ⟨75, (fs t [(54, (gt t 0)), (55, t0), (56, t2), (57, t4), (58, t6), (59, (.int .i64 (0)))]), ds⟩ s7 (blockK 4 (seqK Tryz.prog O isP ro (cZ (cZ (cZ (cZ (cZ (cOf Tryz.prog 54)))))) Q))) := by kernel_rfl
theorem e54_r1 (O : Orc) (ro : Option Nat) (t : Regs) (ds : List Nat) (s : St) (Q : Kt) : wp Tryz.prog O isP ro (cZ (cZ (cZ (cA (cA (cZ (cA (cZ (cZ (cZ (cOf Tryz.prog 54))))))))))) ⟨75, t, ds⟩ s Q =
  (bindP (reO (binK .add .no (gt t 19) (.int .i64 (1))) s) fun t0 s1 =>
  Q .normal ⟨75, (fs t [(53, t0), (19, t0)]), ds⟩ s1) := by kernel_rfl
theorem e54_r2 (O : Orc) (ro : Option Nat) (t : Regs) (ds : List Nat) (s : St) (Q : Kt) : wp Tryz.prog O isP ro (cZ (cZ (cZ (cA (cA (cZ (cZ (cA (cA (cZ (cA (cZ (cZ (cZ (cOf Tryz.prog 54))))))))))))))) ⟨75, t, ds⟩ s Q =
  (bindP (loadA (.agg 2) (gt t 8) s) fun t0 s1 =>
  bindP (buildSliceA (.mk 2 [(.int .i64 (0)), (.int .u64 (0))] true) 1 [(0, t0)] s1) fun t2 s3 =>
  bindP (appendN (.list 2) (gt t 4) t2 s3) fun t4 s5 =>
  Q .normal ⟨75, (fs t [(49, (gt t 4)), (50, t0), (51, t2), (52, t4), (4, t4)]), ds⟩ s5) := by kernel_rfl
theorem e54_r3 (O : Orc) (ro : Option Nat) (t : Regs) (ds : List Nat) (s : St) (Q : Kt) : wp Tryz.prog O isP ro (cZ (cZ (cZ (cZ (cZ (cOf Tryz.prog 54)))))) ⟨75, t, ds⟩ s Q =
  (bindO (pcall O 69 [(gt t 4), (.func (.func 70) #[] #[])] s) fun t0 =>
  Q .ret ⟨75, (fs t [(71, (gt t 4)), (72, t0), (73, (gt t 4)), (74, (gt t 5)), (2, (gt t 4)), (3, (gt t 5))]), ds⟩ s) := by kernel_rfl

/- 55 potence/stick.those: 2 in, 24 slots, 0 hard -/
theorem e55 (O : Orc) (a0 a1 : Value) (s : St) (F : Value → St → Prop) : wpF Tryz.prog O isP 55 [a0, a1] s F =
  (bindP (reO (lenK .sl a0 s) s) fun t0 s1 =>
  RunsC Tryz.prog O (.loop (cA (cA (cZ (cA (cZ (cZ (cOf Tryz.prog 55)))))))) none ⟨24, (fs (setArgs [a0, a1] 0 regs0) [(4, (.slice none 0 0)), (5, (.slice none 0 0)), (8, a0), (9, t0), (10, (.int .i64 (0)))]), []⟩ s1 (blockK 0 (seqK Tryz.prog O isP none (cZ (cZ (cZ (cOf Tryz.prog 55)))) (outK Tryz.prog Tryz.f55 F)))) := by kernel_rfl
theorem o55 (F : Value → St → Prop) (t : Regs) (s : St) : outK Tryz.prog Tryz.f55 F .ret ⟨24, t, []⟩ s =
  (bindP (.ok (gt t 4) s) F) := by kernel_rfl
theorem e55_b0 (O : Orc) (ro : Option Nat) (t : Regs) (ds : List Nat) (s : St) (Q : Kt) : wp Tryz.prog O isP ro (cA (cA (cZ (cA (cZ (cZ (cOf Tryz.prog 55))))))) ⟨24, t, ds⟩ s Q =
  (bindP (reO (binK .lss .no (gt t 10) (gt t 9)) s) fun t0 s1 =>
  condP t0
  (bindP (reO (idxK (.sl 2) (gt t 8) (gt t 10)) s1) fun t2 s3 =>
  bindP (loadA (.agg 2) t2 s3) fun t4 s5 =>
  bindP (boxK [(.int .i64 (0)), (.int .u64 (0))] s5) fun t6 s7 =>
  bindP (storeN (.agg 2) t6 t4 s7) fun t8 s9 =>
  bindP (loadA (.agg 2) t6 s9) fun t10 s11 =>
  CallP Tryz.prog O (gt t 1) [t10] s11 fun t12 s13 =>
  condP t12
  (bindP (reO (movP t6 0) s13) fun t14 s15 =>
  bindP (loadA .one t14 s15) fun t16 s17 =>
  bindP (buildSliceA (.mk 1 [(.int .i64 (0))] true) 1 [(0, t16)] s17) fun t18 s19 =>
  bindP (appendN (.list 1) (gt t 5) t18 s19) fun t20 s21 =>
  bindP (reO (binK .add .no (gt t 10) (.int .i64 (1))) s21) fun t22 s23 =>
  Q .normal ⟨24, (fs t [(11, t0), (12, t2), (13, t4), (7, t6), (14, (gt t 1)), (15, t10), (16, t12), (17, (gt t 5)), (18, t14), (19, t16), (20, t18), (21, t20), (5, t20), (22, t22), (10, t22)]), ds⟩ s23)
  (bindP (reO (binK .add .no (gt t 10) (.int .i64 (1))) s13) fun t24 s25 =>
  Q .normal ⟨24, (fs t [(11, t0), (12, t2), (13, t4), (7, t6), (14, (gt t 1)), (15, t10), (16, t12), (22, t24), (10, t24)]), ds⟩ s25))
  (Q (.exit 0) ⟨24, (fs t [(11, t0)]), ds⟩ s1)) := by kernel_rfl
theorem e55_r0 (O : Orc) (ro : Option Nat) (t : Regs) (ds : List Nat) (s : St) (Q : Kt) : wp Tryz.prog O isP ro (cZ (cZ (cZ (cOf Tryz.prog 55)))) ⟨24, t, ds⟩ s Q =
  (Q .ret ⟨24, (fs t [(23, (gt t 5)), (4, (gt t 5))]), ds⟩ s) := by kernel_rfl

/- 56 potence/stick.Suspects$1: 2 in, 12 slots, 0 hard -/
theorem e56 (O : Orc) (a0 a1 : Value) (s : St) (F : Value → St → Prop) : wpF Tryz.prog O isP 56 [a0, a1] s F =
  (bindP (boxN a0 s) fun t0 s1 =>
  bindP (loadA .one a1 s1) fun t2 s3 =>
  bindP (reO (binK .neq .no t2 (.int .u64 (0))) s3) fun t4 s5 =>
  bindP (guarded (isBool t4 true) (reO (movP t0 1) s5) s5) fun t6 s7 =>
  bindP (guarded (isBool t4 true) (loadA .one t6 s7) s7) fun t8 s9 =>
  bindP (guarded (isBool t4 true) (loadA .one a1 s9) s9) fun t10 s11 =>
  bindP (guarded (isBool t4 true) (reO (binK .eql .no t8 t10) s11) s11) fun t12 s13 =>
  bindP (pickK t4 t12 (.bool false) s13) fun t14 s15 =>
  bindP (.ok t14 s15) F) := by kernel_rfl

/- 57 potence/stick.sets: 2 in, 6 slots, 0 hard -/
theorem e57 (O : Orc) (a0 a1 : Value) (s : St) (F : Value → St → Prop) : wpF Tryz.prog O isP 57 [a0, a1] s F =
  (bindP (boxN a0 s) fun t0 s1 =>
  bindP (boxN a1 s1) fun t2 s3 =>
  bindP (.ok (.func (.func 71) ⟨[]⟩ ⟨[t2, t0]⟩) s3) fun t4 s5 =>
  bindP (.ok t4 s5) F) := by kernel_rfl

/- 58 potence/stick.isList: 2 in, 32 slots, 0 hard -/
theorem e58 (O : Orc) (a0 a1 : Value) (s : St) (F : Value → St → Prop) : wpF Tryz.prog O isP 58 [a0, a1] s F =
  (bindP (reO (lenK .sl a0 s) s) fun t0 s1 =>
  RunsC Tryz.prog O (.loop (cA (cA (cZ (cA (cZ (cOf Tryz.prog 58))))))) none ⟨32, (fs (setArgs [a0, a1] 0 regs0) [(4, (.bool false)), (7, a0), (8, t0), (9, (.int .i64 (0)))]), []⟩ s1 (blockK 0 (seqK Tryz.prog O isP none (cZ (cZ (cOf Tryz.prog 58))) (outK Tryz.prog Tryz.f58 F)))) := by kernel_rfl
theorem o58 (F : Value → St → Prop) (t : Regs) (s : St) : outK Tryz.prog Tryz.f58 F .ret ⟨32, t, []⟩ s =
  (bindP (.ok (gt t 4) s) F) := by kernel_rfl
theorem e58_b0 (O : Orc) (ro : Option Nat) (t : Regs) (ds : List Nat) (s : St) (Q : Kt) : wp Tryz.prog O isP ro (cA (cA (cZ (cA (cZ (cOf Tryz.prog 58)))))) ⟨32, t, ds⟩ s Q =
  (bindP (reO (binK .lss .no (gt t 9) (gt t 8)) s) fun t0 s1 =>
  condP t0
  (bindP (reO (idxK (.sl 1) (gt t 7) (gt t 9)) s1) fun t2 s3 =>
  bindP (loadA .one t2 s3) fun t4 s5 =>
  CallP Tryz.prog O (gt t 1) [t4] s5 fun t6 s7 =>
  bindP (reO (unA .not t6) s7) fun t8 s9 =>
  bindP (guarded (isBool t8 false) (.ok (gt t 9) s9) s9) fun t10 s11 =>
  bindP (guarded (isBool t8 false) (reO (binK .gtr .no t10 (.int .i64 (0))) s11) s11) fun t12 s13 =>
  bindP (guarded (isBool t8 false) (.ok t12 s13) s13) fun t14 s15 =>
  bindP (guarded (isBool t14 true) (.ok t4 s15) s15) fun t16 s17 =>
  bindP (guarded (isBool t14 true) (.ok (gt t 0) s17) s17) fun t18 s19 =>
  bindP (guarded (isBool t14 true) (.ok (gt t 9) s19) s19) fun t20 s21 =>
  bindP (guarded (isBool t14 true) (reO (binK .sub .no t20 (.int .i64 (1))) s21) s21) fun t22 s23 =>
  bindP (guarded (isBool t14 true) (reO (idxK (.sl 1) t18 t22) s23) s23) fun t24 s25 =>
  bindP (guarded (isBool t14 true) (loadA .one t24 s25) s25) fun t26 s27 =>
  bindP (guarded (isBool t14 true) (reO (binK .leq .no t16 t26) s27) s27) fun t28 s29 =>
  bindP (guarded (isBool t8 false) (pickK t14 t28 (.bool false) s29) s29) fun t30 s31 =>
  bindP (pickK t8 (.bool true) t30 s31) fun t32 s33 =>
  condP t32
  (Q .ret ⟨32, (fs t [(10, t0), (11, (gt t 9)), (12, t2), (13, t4), (5, (gt t 9)), (6, t4), (14, (gt t 1)), (15, t4), (16, t6), (17, t8), (18, t8), (19, t10), (20, t12), (21, t14), (22, t16), (23, t18), (24, t20), (25, t22), (26, t24), (27, t26), (28, t28), (29, t30), (30, t32), (4, (.bool false))]), ds⟩ s33)
  (bindP (reO (binK .add .no (gt t 9) (.int .i64 (1))) s33) fun t34 s35 =>
  Q .normal ⟨32, (fs t [(10, t0), (11, (gt t 9)), (12, t2), (13, t4), (5, (gt t 9)), (6, t4), (14, (gt t 1)), (15, t4), (16, t6), (17, t8), (18, t8), (19, t10), (20, t12), (21, t14), (22, t16), (23, t18), (24, t20), (25, t22), (26, t24), (27, t26), (28, t28), (29, t30), (30, t32), (31, t34), (9, t34)]), ds⟩ s35))
  (Q (.exit 0) ⟨32, (fs t [(10, t0)]), ds⟩ s1)) := by kernel_rfl
theorem e58_r0 (O : Orc) (ro : Option Nat) (t : Regs) (ds : List Nat) (s : St) (Q : Kt) : wp Tryz.prog O isP ro (cZ (cZ (cOf Tryz.prog 58))) ⟨32, t, ds⟩ s Q =
  (Q .ret ⟨32, (fs t [(4, (.bool true))]), ds⟩ s) := by kernel_rfl

/- 59 potence/stick.arePlaces$1: 2 in, 8 slots, 0 hard -/
theorem e59 (O : Orc) (a0 a1 : Value) (s : St) (F : Value → St → Prop) : wpF Tryz.prog O isP 59 [a0, a1] s F =
  (bindP (loadA .one a1 s) fun t0 s1 =>
  bindP (reO (binK .sub .no t0 (.int .i64 (1))) s1) fun t2 s3 =>
  bindO (pcall O 22 [(.int .i64 (0)), a0, t2] s3) fun t4 =>
  bindP (.ok t4 s3) F) := by kernel_rfl

/- 60 (*potence/stick.basis).clash: 1 in, 20 slots, 0 hard -/
theorem e60 (O : Orc) (a0 : Value) (s : St) (F : Value → St → Prop) : wpF Tryz.prog O isP 60 [a0] s F =
  (bindP (boxK [(.int .u64 (0)), (.int .u64 (0)), (.int .u64 (0))] s) fun t0 s1 =>
  bindP (nilK a0 s1) fun t2 s3 =>
  bindP (reO (movP t2 146) s3) fun t4 s5 =>
  bindP (loadA .one t4 s5) fun t6 s7 =>
  bindP (reO (lenK .sl t6 s7) s7) fun t8 s9 =>
  RunsC Tryz.prog O (.loop (cA (cA (cZ (cA (cZ (cOf Tryz.prog 60))))))) none ⟨20, (fs (setArgs [a0] 0 regs0) [(2, t0), (3, (.bool false)), (6, a0), (7, t2), (8, t4), (9, t6), (10, t8), (11, (.int .i64 (0)))]), []⟩ s9 (blockK 0 (seqK Tryz.prog O isP none (cZ (cZ (cOf Tryz.prog 60))) (outK Tryz.prog Tryz.f60 F)))) := by kernel_rfl
theorem o60 (F : Value → St → Prop) (t : Regs) (s : St) : outK Tryz.prog Tryz.f60 F .ret ⟨20, t, []⟩ s =
  (bindP (resE [(cellR (.agg 3) (gt t 2) s), (some (gt t 3))] s) F) := by kernel_rfl
theorem e60_b0 (O : Orc) (ro : Option Nat) (t : Regs) (ds : List Nat) (s : St) (Q : Kt) : wp Tryz.prog O isP ro (cA (cA (cZ (cA (cZ (cOf Tryz.prog 60)))))) ⟨20, t, ds⟩ s Q =
  (bindP (reO (binK .lss .no (gt t 11) (gt t 10)) s) fun t0 s1 =>
  condP t0
  (bindP (reO (idxK (.sl 3) (gt t 9) (gt t 11)) s1) fun t2 s3 =>
  bindP (loadA (.agg 3) t2 s3) fun t4 s5 =>
  bindP (boxK [(.int .u64 (0)), (.int .u64 (0)), (.int .u64 (0))] s5) fun t6 s7 =>
  bindP (storeN (.agg 3) t6 t4 s7) fun t8 s9 =>
  bindP (loadA (.agg 3) t6 s9) fun t10 s11 =>
  bindO (pcall O 38 [t10] s11) fun t12 =>
  condP t12
  (bindP (loadA (.agg 3) t6 s11) fun t13 s14 =>
  bindP (storeN (.agg 3) (gt t 2) t13 s14) fun t15 s16 =>
  Q .ret ⟨20, (fs t [(12, t0), (13, t2), (14, t4), (5, t6), (15, t10), (16, t12), (17, t13), (3, (.bool true))]), ds⟩ s16)
  (bindP (reO (binK .add .no (gt t 11) (.int .i64 (1))) s11) fun t17 s18 =>
  Q .normal ⟨20, (fs t [(12, t0), (13, t2), (14, t4), (5, t6), (15, t10), (16, t12), (18, t17), (11, t17)]), ds⟩ s18))
  (Q (.exit 0) ⟨20, (fs t [(12, t0)]), ds⟩ s1)) := by kernel_rfl
theorem e60_r0 (O : Orc) (ro : Option Nat) (t : Regs) (ds : List Nat) (s : St) (Q : Kt) : wp Tryz.prog O isP ro (cZ (cZ (cOf Tryz.prog 60))) ⟨20, t, ds⟩ s Q =
  (bindP (reO (buildA (.arr [(.int .u64 (0)), (.int .u64 (0)), (.int .u64 (0))] 1) []) s) fun t0 s1 =>
  bindP (storeN (.agg 3) (gt t 2) t0 s1) fun t2 s3 =>
  Q .ret ⟨20, (fs t [(19, t0), (3, (.bool false))]), ds⟩ s3) := by kernel_rfl

/- 61 (*potence/stick.basis).rest: 2 in, 27 slots, 0 hard -/
theorem e61 (O : Orc) (a0 a1 : Value) (s : St) (F : Value → St → Prop) : wpF Tryz.prog O isP 61 [a0, a1] s F =
  (bindP (boxN a1 s) fun t0 s1 =>
  bindP (boxK [(.int .u64 (0)), (.int .u64 (0)), (.int .u64 (0))] s1) fun t2 s3 =>
  bindP (loadA (.agg 3) t0 s3) fun t4 s5 =>
  bindP (boxK [(.int .u64 (0)), (.int .u64 (0)), (.int .u64 (0))] s5) fun t6 s7 =>
  bindP (storeN (.agg 3) t6 t4 s7) fun t8 s9 =>
  bindO (pcall O 73 [t6] s9) fun t10 =>
  bindP (nilK a0 s9) fun t11 s12 =>
  bindP (reO (movP t11 2) s12) fun t13 s14 =>
  bindP (loadA (.agg 144) t13 s14) fun t15 s16 =>
  RunsC Tryz.prog O (.loop (cA (cA (cZ (cA (cZ (cZ (cZ (cOf Tryz.prog 61))))))))) none ⟨27, (fs (setArgs [a0, a1] 0 regs0) [(3, t0), (4, t2), (9, t4), (5, t6), (10, t10), (6, t10), (11, a0), (12, t11), (13, t13), (14, t15), (15, (.int .i64 (0)))]), []⟩ s16 (blockK 0 (seqK Tryz.prog O isP none (cZ (cZ (cZ (cZ (cOf Tryz.prog 61))))) (outK Tryz.prog Tryz.f61 F)))) := by kernel_rfl
theorem o61 (F : Value → St → Prop) (t : Regs) (s : St) : outK Tryz.prog Tryz.f61 F .ret ⟨27, t, []⟩ s =
  (bindP (resE [(cellR (.agg 3) (gt t 4) s)] s) F) := by kernel_rfl
theorem e61_b0 (O : Orc) (ro : Option Nat) (t : Regs) (ds : List Nat) (s : St) (Q : Kt) : wp Tryz.prog O isP ro (cA (cA (cZ (cA (cZ (cZ (cZ (cOf Tryz.prog 61)))))))) ⟨27, t, ds⟩ s Q =
  (bindP (reO (binK .lss .no (gt t 15) (.int .i64 (48))) s) fun t0 s1 =>
  condP t0
  (bindP (reO (indexK (.arr 48 3) (.agg 3) (gt t 14) (gt t 15)) s1) fun t2 s3 =>
  bindP (boxK [(.int .u64 (0)), (.int .u64 (0)), (.int .u64 (0))] s3) fun t4 s5 =>
  bindP (storeN (.agg 3) t4 t2 s5) fun t6 s7 =>
  bindP (loadA (.agg 3) (gt t 3) s7) fun t8 s9 =>
  bindO (pcall O 74 [t8, (gt t 15)] s9) fun t10 =>
  condP t10
  (bindP (loadA (.agg 3) t4 s9) fun t11 s12 =>
  CallP Tryz.prog O (gt t 6) [t11] s12 fun t13 s14 =>
  bindP (reO (binK .add .no (gt t 15) (.int .i64 (1))) s14) fun t15 s16 =>
  Q .normal ⟨27, (fs t [(16, t0), (17, (gt t 15)), (18, t2), (8, t4), (7, (gt t 15)), (19, t8), (20, (gt t 15)), (21, t10), (22, (gt t 6)), (23, t11), (24, t13), (25, t15), (15, t15)]), ds⟩ s16)
  (bindP (reO (binK .add .no (gt t 15) (.int .i64 (1))) s9) fun t17 s18 =>
  Q .normal ⟨27, (fs t [(16, t0), (17, (gt t 15)), (18, t2), (8, t4), (7, (gt t 15)), (19, t8), (20, (gt t 15)), (21, t10), (25, t17), (15, t17)]), ds⟩ s18))
  (Q (.exit 0) ⟨27, (fs t [(16, t0)]), ds⟩ s1)) := by kernel_rfl
theorem e61_r0 (O : Orc) (ro : Option Nat) (t : Regs) (ds : List Nat) (s : St) (Q : Kt) : wp Tryz.prog O isP ro (cZ (cZ (cZ (cZ (cOf Tryz.prog 61))))) ⟨27, t, ds⟩ s Q =
  (bindP (loadA (.agg 3) (gt t 5) s) fun t0 s1 =>
  bindP (storeN (.agg 3) (gt t 4) t0 s1) fun t2 s3 =>
  Q .ret ⟨27, (fs t [(26, t0)]), ds⟩ s3) := by kernel_rfl

/- 62 slices.Sort[[]int,int]: 1 in, 11 slots, 0 hard -/
theorem e62 (O : Orc) (a0 : Value) (s : St) (F : Value → St → Prop) : wpF Tryz.prog O isP 62 [a0] s F =
  (bindP (reO (lenK .sl a0 s) s) fun t0 s1 =>
  bindP (reO (convK (.int .u64) t0 s1) s1) fun t2 s3 =>
  bindO (pcall O 76 [t2] s3) fun t4 =>
  bindO (pcall O 75 [a0, (.int .i64 (0)), t0, t4] s3) fun t5 =>
  bindP (.ok (.tuple ⟨[]⟩) s3) F) := by kernel_rfl

end Go.Proofs.YteoemmgelalcaaaGreat

