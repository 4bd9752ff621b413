import Derived.Test.YtbhiphjifdnhmaaGreatDoorPL
import Derived.Test.YtbhiphjifdnhmaaGreatDoorPE
set_option linter.unusedSimpArgs false
set_option linter.unusedVariables false
/- The reference: Changes. -/
namespace Go.Proofs.YtbhiphjifdnhmaaGreatDoor
open Go.RowKit Go.Maps
theorem eq_made (d : Nat) (w : World) (v u : Nat → Int) (e i : Int) : (Op.equalIn (d + 5) 75 (.agg (mnA v e)) (.agg (mnA u i))).run Tryz.prog w = .ok (sameV v u && e == i) w := by
 have p0 : ∀ (w : World) (v : Nat → Int) (e : Int), (part 26 (mnA v e) 0).run Tryz.prog w = .ok (.agg (va v)) w := fun w v e => by
  simp [part, isAgg, run_underlying Tryz.underlying26, sz26]
  simpa using mn_extract v e
 have p1 : ∀ (w : World) (v : Nat → Int) (e : Int), (part 27 (mnA v e) 24).run Tryz.prog w = .ok (.int .i64 e) w := fun w v e => by
  have := mn_24 v e
  simp [part, isAgg, run_underlying Tryz.underlying27, this]
 rw [run_equalIn_struct w (d + 4) 75 _ _ (by kernel_rfl) (by kernel_rfl)]
 have hv := fun w => eq_vague d w v u
 simp only [Program.fieldsOf, Tryz.underlying75, Op.eqFields, p0, p1, Sem.run_bind, Result.andThen_ok, Sem.run_pure]
 simp [p0, p1, hv, Op.eqFields, run_equalIn_int _ _ 27 .i64 .i64 _ _ Tryz.underlying27]
 by_cases he : e = i <;> cases sameV v u <;> simp [he]
theorem guard75 (x y : Operand) (xs ys : Array Value) (w : World) : (eqGuard .neq 75 x y (.agg xs) (.agg ys)).run Tryz.prog w = .ok () w := by
 have hT : Tryz.prog.eqGuardType Tryz.prog.depth 75 = false := by kernel_rfl
 simp [eqGuard, hT]
set_option maxRecDepth 100000 in
theorem wpl_neqMd {ops : Array Oper} {rest : List Oper} {o : Oper} {a : Act} {w : World} {Q : Exit → Act → World → Prop} (hgd : o.guard = none) (x y : Operand) (t : TypeId) (ho : o.op = .binOp .neq 75 x y t) (v u : Nat → Int) (e i : Int) (hx : a.eval x = .agg (mnA v e)) (hy : a.eval y = .agg (mnA u i))
  (h : wpList Tryz.prog ops Q rest (a.put o.dst (.bool (!(sameV v u && e == i)))) w) : wpList Tryz.prog ops Q (o :: rest) a w :=
 wpList_plain hgd fun _ hK => by
  have hq : (Op.equalIn 10000 75 (.agg (mnA v e)) (.agg (mnA u i))).run Tryz.prog w = .ok (sameV v u && e == i) w := eq_made 9995 w v u e i
  have hr : (binOp .neq 75 (.agg (mnA v e)) (.agg (mnA u i))).run Tryz.prog w = .ok (.bool (!(sameV v u && e == i))) w := by rw [run_neq_struct, hq]; rfl
  unfold Oper.wp execOp
  simp only [ho, hx, hy, Sem.run_bind, guard75, hr, Result.andThen_ok, Sem.run_pure]
  exact hK _ _ h
/-- numbers with an error are returned -/
def RetIs (w : World) (l : List Int) (er : Int) (e : Ending) (w' : World) : Prop :=
 ∃ A c, e = .returned (.agg #[.slice A l.length c, .int .i64 er]) ∧ w'.ownsRow w.heap.size 3 1 (.slice A l.length c) l.length (l.map (Value.int .i64)) ∧ Below w.heap.size w w'
theorem info99 (x y : Value) : (Tryz.prog.info? 99).map (·.size) = some (#[x, y] : Array Value).size := by
 show _ = some 2
 kernel_rfl
theorem resIs {fn : Func} {p : Tmp} (h : fn.results = #[.cell p 99]) (tmps : Array Value) (w : World) {g : Nat} {x y : Value} (hB : Blk w g 99 #[x, y]) (hx : x.oneCell' = true) (hy : y.oneCell' = true) (hp : tmps.getD p undef = .pointer (some ⟨g, 0, none⟩)) : (results fn tmps).run Tryz.prog w = .ok (.agg #[x, y]) w :=
 results_cell_row h _ _ g 99 #[x, y] (0, 0) _ hp hB Tryz.underlying99 (by simp [hx, hy]) (info99 _ _)
set_option maxRecDepth 100000 in
set_option maxHeartbeats 8000000 in
theorem refChanges_ok {A : Option Addr} {cap : Nat} {l : List Df} (hl : l.length ≤ 1000) (n : ByteArray) (hn : n.size ≤ maxLen) (hnb : nameB n = true) (w : World) (hD : Defs w w.heap.size A l)
  (hC : ∀ w1, Defs w1 w1.heap.size A l → Calls Tryz.prog 59 #[.slice A l.length cap] w1 fun e w' => e = .returned (.int .i64 0) ∧ Below w1.heap.size w1 w') (M : Int → (Nat → Int) × Int)
  (hM : ∀ (d : Int) (w1 : World), Defs w1 w1.heap.size A l → Calls Tryz.prog 56 #[.slice A l.length cap, .string n, .int .i64 d] w1 (RetMd w1 (M d).1 (M d).2)) :
  Calls Tryz.prog 58 #[.slice A l.length cap, .string n] w (RetIs w (chgs M l) 0) := by
 have k0 := Blk.new w 99 #[.slice none 0 0, .int .i64 0]
 have hb0 := below_new w (.cells #[.slice none 0 0, .int .i64 0] 99)
 have HC := Lib.hid (hC _ (hD.behind hb0))
 have HM := Lib.hid hM
 have HD := Lib.hid hD
 have HNB := Lib.hid hnb
 obtain ⟨R, hR⟩ : ∃ R, R = chgs M l := ⟨_, rfl⟩
 rw [← hR]
 have HR := Lib.hid hR
 clear hC hM hD hnb hR
 have hbM : ∀ W : World, Below W.heap.size W ((W.alloc (.cells #[.int .i64 0, .int .i64 0, .int .i64 0, .int .i64 0, .int .i64 0, .int .i64 0, .int .i64 0, .int .i64 0, .int .i64 0, .int .i64 0, .int .i64 0, .int .i64 0, .int .i64 0, .int .i64 0, .int .i64 0, .int .i64 0, .int .i64 0, .int .i64 0, .int .i64 0, .int .i64 0, .int .i64 0, .int .i64 0, .int .i64 0, .int .i64 0, .int .i64 0] 75)).setRow W.heap.size (mnA zeroV 5)) := fun W => below75 W zeroV 5
 go_enter Tryz.func58, Tryz.ntmps58
 go_wp2_with (first
  | (go_at_call 59; refine HC.out.mono ?_; rintro e w1 ⟨rfl, hb1⟩; have k1 := k0.below hb1 k0.lt; have hB1 := below_next hb0 hb0.size hb1; have kZ1 := new75z w1)
  | (go_at_call 107; refine (refName_any _ hn _).mono ?_; rw [HNB.out]; rintro e w2 ⟨rfl, rfl⟩)
  | (refine stMd 8 24 rfl rfl kZ1 rfl (v := zeroV) (e := 5) (by kernel_rfl) ?_))
 obtain ⟨W3, hW3⟩ : ∃ W3, W3 = (w1.alloc (.cells #[.int .i64 0, .int .i64 0, .int .i64 0, .int .i64 0, .int .i64 0, .int .i64 0, .int .i64 0, .int .i64 0, .int .i64 0, .int .i64 0, .int .i64 0, .int .i64 0, .int .i64 0, .int .i64 0, .int .i64 0, .int .i64 0, .int .i64 0, .int .i64 0, .int .i64 0, .int .i64 0, .int .i64 0, .int .i64 0, .int .i64 0, .int .i64 0, .int .i64 0] 75)).setRow w1.heap.size (mnA zeroV 5) := ⟨_, rfl⟩
 have kB3 : Blk W3 w1.heap.size 75 (mnA zeroV 5) := by rw [hW3]; exact kZ1.setRow _
 have kR3 : Blk W3 w.heap.size 99 #[.slice none 0 0, .int .i64 0] := by rw [hW3]; exact k1.below (hbM w1) k1.lt
 have hB3 : Below w.heap.size w W3 := by rw [hW3]; exact below_next hB1 hB1.size (hbM w1)
 have hs3 : w1.heap.size < W3.heap.size := kB3.lt
 have hs1 : w.heap.size < w1.heap.size := k1.lt
 rw [← hW3]
 clear hW3 kZ1 hbM hb1 k1 hb0 k0 HC hB1
 go_loopg [9, 7] 731 (fun g t9 t7 wq => ∃ (k : Nat) (A4 : Option Addr) (c4 : Nat) (out : List Int) (p1 : Nat → Int) (p2 : Int), k ≤ 731 ∧ 731 - k ≤ g ∧ t9 = .int .i64 k ∧ t7 = .slice A4 out.length c4 ∧ out.length ≤ k ∧ wq.ownsRow W3.heap.size 3 1 (.slice A4 out.length c4) out.length (out.map (Value.int .i64)) ∧ Blk wq w1.heap.size 75 (mnA p1 p2) ∧ Blk wq w.heap.size 99 #[.slice none 0 0, .int .i64 0] ∧ Hid (out = chgL M (daysTo (l.map (·.known)) k) (zeroV, 5) ∧ (p1, p2) = lastM M (daysTo (l.map (·.known)) k) (zeroV, 5)) ∧ W3.heap.size ≤ wq.heap.size ∧ Below w.heap.size w wq)
 case atStart => exact ⟨0, none, 0, [], zeroV, 5, by omega, by omega, rfl, rfl, by simp, own_none _ _ 3, kB3, kR3, Lib.hid ⟨rfl, rfl⟩, Nat.le_refl _, hB3⟩
 case round =>
  obtain ⟨k, A4, c4, out, p1, p2, hk, hg, rfl, rfl, hol, ho, kB, kR, HO, hz, hB⟩ := hrel
  clear kB3 kR3 hB3
  by_cases hlt : k < 731
  ·have hk730 : (k : Int) ≤ 730 := by omega
   have hq : IntKind.i64.wrap ((k : Int) + 1) = (k : Int) + 1 := IntWalk.i64_in _ (by omega)
   have HQK := Lib.hid hq
   clear hq
   have hDr := HD.out.behind hB
   go_wp2_with fail
   go_loopg [11, 10] (l.length) (fun g t11 t10 wq => ∃ (j : Nat), j ≤ l.length ∧ l.length - j ≤ g ∧ t11 = .int .i64 j ∧ t10 = .bool (someTo l k j) ∧ wr = wq)
   case atStart => exact ⟨0, by omega, by omega, rfl, rfl, rfl⟩
   case round =>
    obtain ⟨j, hj, hgj, rfl, rfl, rfl⟩ := hrel
    have hq : IntKind.i64.wrap ((j : Int) + 1) = (j : Int) + 1 := IntWalk.i64_in _ (by omega)
    have HQJ := Lib.hid hq
    clear hq
    by_cases hltj : j < l.length
    ·obtain ⟨x, hx⟩ : ∃ x, l[j]? = some x := ⟨_, List.getElem?_eq_getElem hltj⟩
     have HS := Lib.hid (someTo_succ (d := (k : Int)) hx)
     obtain ⟨ag, ao, hA, hag, hcx⟩ := hDr j x hx
     subst hA
     have x1 : wr.cell? ⟨ag, ao + j * 29 + 1, none⟩ = some (.int .i64 x.known) := hcx 1 _ rfl
     clear hcx hx
     cases hs : someTo l k j
     ·rw [hs, Bool.false_or] at HS
      by_cases hkn : x.known = (k : Int)
      ·have HN := Lib.hid (show someTo l k (j + 1) = true by rw [HS.out, decide_eq_true hkn])
       rw [hkn] at x1
       clear hs HS hkn
       go_wp2_with fail
       go_roundg (l.length - (j + 1))
       case measure => omega
       case rel => exact ⟨j + 1, by omega, by omega, by go_num, by rw [HN.out], rfl⟩
      ·have HN := Lib.hid (show someTo l k (j + 1) = false by rw [HS.out, decide_eq_false hkn])
       have hkb : (x.known == (k : Int)) = false := beq_eq_false_iff_ne.2 hkn
       clear hs HS
       go_wp2_with fail
       go_roundg (l.length - (j + 1))
       case measure => omega
       case rel => exact ⟨j + 1, by omega, by omega, by go_num, by rw [HN.out], rfl⟩
     ·rw [hs, Bool.true_or] at HS
      clear hs
      go_wp2_with fail
      go_roundg (l.length - (j + 1))
      case measure => omega
      case rel => exact ⟨j + 1, by omega, by omega, by go_num, by rw [HS.out], rfl⟩
    ·obtain rfl : j = l.length := by omega
     have HDS := Lib.hid (daysTo_succ (l.map (·.known)) k)
     cases hs : someTo l k l.length
     ·have HN := Lib.hid (show out = chgL M (daysTo (l.map (·.known)) (k + 1)) (zeroV, 5) ∧ (p1, p2) = lastM M (daysTo (l.map (·.known)) (k + 1)) (zeroV, 5) by
       rw [HDS.out, if_neg (by rw [← someTo_all, hs]; decide)]
       exact HO.out)
      clear hs HDS HO
      go_wp2_with fail
      go_roundg (731 - (k + 1))
      case measure => omega
      case rel => exact ⟨k + 1, A4, c4, out, p1, p2, by omega, by omega, by go_num, rfl, by omega, ho, kB, kR, HN, hz, hB⟩
     ·have hMk := HM.out k
      obtain ⟨V, hV⟩ : ∃ V, V = (M k).1 := ⟨_, rfl⟩
      obtain ⟨E, hE⟩ : ∃ E, E = (M k).2 := ⟨_, rfl⟩
      have hMM : M k = (V, E) := by rw [hV, hE]
      rw [← hV, ← hE] at hMk
      have HX := Lib.hid hMk
      obtain ⟨q, hq⟩ : ∃ q, q = (sameV V p1 && E == p2) := ⟨_, rfl⟩
      have hd : daysTo (l.map (·.known)) (k + 1) = daysTo (l.map (·.known)) k ++ [(k : Int)] := by rw [HDS.out, if_pos (by rw [← someTo_all, hs])]
      have HN := Lib.hid (show (if q = true then out else out ++ [(k : Int)]) = chgL M (daysTo (l.map (·.known)) (k + 1)) (zeroV, 5) ∧ (V, E) = lastM M (daysTo (l.map (·.known)) (k + 1)) (zeroV, 5) by
       rw [hd, chgL_snoc, lastM_snoc, hMM, ← HO.out.2, ← HO.out.1, hq]
       exact ⟨rfl, rfl⟩)
      have HQ := Lib.hid hq
      clear hq hs hV hE hMM hMk hd HDS HO
      have hszb := kB.lt
      have hB1 := hB.size
      cases q
      ·rw [if_neg (by decide)] at HN
       go_wp2_with (first
        | (go_at_call 56; refine (HX.out _ hDr).mono ?_; rintro e5 w5 ⟨rfl, hb5⟩; have kN5 := new75z w5; have kB5 := kB.below hb5 kB.lt; have kB6 := (kB5.alloc (.cells #[.int .i64 0, .int .i64 0, .int .i64 0, .int .i64 0, .int .i64 0, .int .i64 0, .int .i64 0, .int .i64 0, .int .i64 0, .int .i64 0, .int .i64 0, .int .i64 0, .int .i64 0, .int .i64 0, .int .i64 0, .int .i64 0, .int .i64 0, .int .i64 0, .int .i64 0, .int .i64 0, .int .i64 0, .int .i64 0, .int .i64 0, .int .i64 0, .int .i64 0] 75)).farRow (g' := w5.heap.size) (by have := kB5.lt; omega) (mnA V E); have kR5 := kR.below hb5 kR.lt; have kR6 := (kR5.alloc (.cells #[.int .i64 0, .int .i64 0, .int .i64 0, .int .i64 0, .int .i64 0, .int .i64 0, .int .i64 0, .int .i64 0, .int .i64 0, .int .i64 0, .int .i64 0, .int .i64 0, .int .i64 0, .int .i64 0, .int .i64 0, .int .i64 0, .int .i64 0, .int .i64 0, .int .i64 0, .int .i64 0, .int .i64 0, .int .i64 0, .int .i64 0, .int .i64 0, .int .i64 0] 75)).farRow (g' := w5.heap.size) (by have := kR5.lt; omega) (mnA V E); have ho7 := own_below (own_below (own_below ho hb5) (below75 w5 V E)) (below_new _ (.cells #[.int .i64 k] 3)); have kI : Blk (((w5.alloc (.cells #[.int .i64 0, .int .i64 0, .int .i64 0, .int .i64 0, .int .i64 0, .int .i64 0, .int .i64 0, .int .i64 0, .int .i64 0, .int .i64 0, .int .i64 0, .int .i64 0, .int .i64 0, .int .i64 0, .int .i64 0, .int .i64 0, .int .i64 0, .int .i64 0, .int .i64 0, .int .i64 0, .int .i64 0, .int .i64 0, .int .i64 0, .int .i64 0, .int .i64 0] 75)).setRow w5.heap.size (mnA V E)).alloc (.cells #[.int .i64 k] 3)) (w5.heap.size + 1) 3 #[.int .i64 k] := Blk.newAt (by simp); have hs5 := hb5.size)
        | (refine stMd 12 50 rfl rfl kN5 rfl rfl ?_)
        | (refine ldMd 12 rfl rfl (kN5.setRow _) rfl ?_)
        | (refine ldMd 8 rfl rfl kB6 rfl ?_)
        | (refine wpl_neqMd rfl (.tmp 51) (.tmp 52) _ rfl V p1 E p2 rfl rfl ?_; rw [← HQ.out])
        | (refine wpl_appN rfl (.tmp 54) (.tmp 56) rfl W3.heap.size (.slice A4 out.length c4) out k rfl ho7 (w5.heap.size + 1) rfl (kI.cell 0) (by omega) (by simp; omega) ?_; intro g8 c8 w8 ho8 hb8 hg8; have kN8 := ((kN5.setRow (mnA V E)).alloc (.cells #[.int .i64 k] 3)).grown hg8 (fun e => by have := (ho.lt _ e.symm).2; omega); have kB8 := (kB6.alloc (.cells #[.int .i64 k] 3)).grown hg8 (fun e => by have := (ho.lt _ e.symm).1; omega); have kR8 := (kR6.alloc (.cells #[.int .i64 k] 3)).grown hg8 (fun e => by have := (ho.lt _ e.symm).1; omega))
        | (refine ldMd 12 rfl rfl kN8 rfl ?_)
        | (refine stMd 8 58 rfl rfl kB8 rfl rfl ?_))
       have hb9 := ((below_setRow ((below_next hB (by omega) hb5).alloc (by omega) (.cells #[.int .i64 0, .int .i64 0, .int .i64 0, .int .i64 0, .int .i64 0, .int .i64 0, .int .i64 0, .int .i64 0, .int .i64 0, .int .i64 0, .int .i64 0, .int .i64 0, .int .i64 0, .int .i64 0, .int .i64 0, .int .i64 0, .int .i64 0, .int .i64 0, .int .i64 0, .int .i64 0, .int .i64 0, .int .i64 0, .int .i64 0, .int .i64 0, .int .i64 0] 75)) (g := w5.heap.size) (by omega) (mnA V E)).alloc (by simp; omega) (.cells #[.int .i64 k] 3)).trans (hb8.mono (by omega))
       have hs8 := hb8.size
       go_roundg (731 - (k + 1))
       case measure => omega
       case rel => exact ⟨k + 1, some ⟨g8, 0, none⟩, c8, out ++ [(k : Int)], V, E, by omega, by omega, by go_num, by simp, by simp; omega, own_setRow ho8 hs3 _, kB8.setRow _, kR8.farRow (by omega) _, HN, by simp at hs8 ⊢; omega, below_setRow hb9 (by omega) _⟩
      ·rw [if_pos rfl] at HN
       go_wp2_with (first
        | (go_at_call 56; refine (HX.out _ hDr).mono ?_; rintro e5 w5 ⟨rfl, hb5⟩; have kN5 := new75z w5; have kB5 := kB.below hb5 kB.lt; have kB6 := (kB5.alloc (.cells #[.int .i64 0, .int .i64 0, .int .i64 0, .int .i64 0, .int .i64 0, .int .i64 0, .int .i64 0, .int .i64 0, .int .i64 0, .int .i64 0, .int .i64 0, .int .i64 0, .int .i64 0, .int .i64 0, .int .i64 0, .int .i64 0, .int .i64 0, .int .i64 0, .int .i64 0, .int .i64 0, .int .i64 0, .int .i64 0, .int .i64 0, .int .i64 0, .int .i64 0] 75)).farRow (g' := w5.heap.size) (by have := kB5.lt; omega) (mnA V E); have kR5 := kR.below hb5 kR.lt; have kR6 := (kR5.alloc (.cells #[.int .i64 0, .int .i64 0, .int .i64 0, .int .i64 0, .int .i64 0, .int .i64 0, .int .i64 0, .int .i64 0, .int .i64 0, .int .i64 0, .int .i64 0, .int .i64 0, .int .i64 0, .int .i64 0, .int .i64 0, .int .i64 0, .int .i64 0, .int .i64 0, .int .i64 0, .int .i64 0, .int .i64 0, .int .i64 0, .int .i64 0, .int .i64 0, .int .i64 0] 75)).farRow (g' := w5.heap.size) (by have := kR5.lt; omega) (mnA V E); have ho7 := own_below (own_below ho hb5) (below75 w5 V E); have hs5 := hb5.size)
        | (refine stMd 12 50 rfl rfl kN5 rfl rfl ?_)
        | (refine ldMd 12 rfl rfl (kN5.setRow _) rfl ?_)
        | (refine ldMd 8 rfl rfl kB6 rfl ?_)
        | (refine wpl_neqMd rfl (.tmp 51) (.tmp 52) _ rfl V p1 E p2 rfl rfl ?_; rw [← HQ.out])
        | (refine stMd 8 58 rfl rfl kB6 rfl rfl ?_))
       have hb9 := below_setRow ((below_next hB (by omega) hb5).alloc (by omega) (.cells #[.int .i64 0, .int .i64 0, .int .i64 0, .int .i64 0, .int .i64 0, .int .i64 0, .int .i64 0, .int .i64 0, .int .i64 0, .int .i64 0, .int .i64 0, .int .i64 0, .int .i64 0, .int .i64 0, .int .i64 0, .int .i64 0, .int .i64 0, .int .i64 0, .int .i64 0, .int .i64 0, .int .i64 0, .int .i64 0, .int .i64 0, .int .i64 0, .int .i64 0] 75)) (g := w5.heap.size) (by omega) (mnA V E)
       go_roundg (731 - (k + 1))
       case measure => omega
       case rel => exact ⟨k + 1, A4, c4, out, V, E, by omega, by omega, by go_num, rfl, by omega, own_setRow ho7 hs3 _, kB6.setRow _, kR6.farRow (by omega) _, HN, by simp; omega, below_setRow hb9 (by omega) _⟩
  ·obtain rfl : k = 731 := by omega
   have HOR := Lib.hid (show R = out by rw [HR.out, HO.out.1]; rfl)
   obtain ⟨c0, c1⟩ := kR.two
   obtain ⟨f0, f1⟩ := kR.two_frozen
   clear HO HR
   go_wp2_with fail
   refine bodyPost_ret (resIs rfl _ _ (kR.twoStore (.slice A4 out.length c4) (.int .i64 0)) rfl rfl rfl) rfl ?_
   rw [HOR.out]
   exact ⟨A4, c4, rfl, (own_setCell (own_setCell ho (by omega) _ _) (by omega) _ _).mono (by omega), (hB.setCell (by simp) _).setCell (by simp) _⟩
set_option maxRecDepth 100000 in
set_option maxHeartbeats 2000000 in
theorem refChanges_any {A : Option Addr} {cap : Nat} {l : List Df} (h : LOk A cap l) (hl4 : l.length ≤ 400) (n : ByteArray) (hn : n.size ≤ maxLen) (w : World) (hD : Defs w w.heap.size A l) (M : Int → (Nat → Int) × Int) (hM : ∀ k, MeansIs l n k (M k).1 (M k).2) :
  Calls Tryz.prog 58 #[.slice A l.length cap, .string n] w (RetIs w (if nameE l n 0 = 0 then chgs M l else []) (nameE l n 0)) := by
 by_cases hn0 : nameE l n 0 = 0
 ·rw [if_pos hn0, hn0]
  obtain ⟨hk, hb⟩ := nameE_ok hn0
  obtain ⟨hg, _, _⟩ := knownE_cal hk
  refine refChanges_ok h.len n hn hb w hD (fun w1 hD1 => ?_) M fun d w1 hD1 => refMeans_any h hl4 n hn d w1 hD1 (hM d)
  have := refCalendar_any A cap l w1 h.len h.lenCap h.capMax hD1 h.sz
  rwa [(calE_iff l).2 hg] at this
 ·rw [if_neg hn0]
  have k0 := Blk.new w 99 #[.slice none 0 0, .int .i64 0]
  have hb0 := below_new w (.cells #[.slice none 0 0, .int .i64 0] 99)
  have hC := refCalendar_any A cap l _ h.len h.lenCap h.capMax (hD.behind hb0) h.sz
  obtain ⟨E, hE⟩ : ∃ E, E = calE l := ⟨_, rfl⟩
  rw [← hE] at hC
  have HC := Lib.hid hC
  clear hC hM
  by_cases h0 : E = 0
  ·have hk : knownE l 0 = 0 := by unfold knownE; rw [← hE, if_pos h0]; rfl
   have hX : nameE l n 0 = 7 ∧ nameB n = false := by
    unfold nameE at hn0 ⊢
    rw [if_pos hk] at hn0 ⊢
    cases hb : nameB n
    ·exact ⟨rfl, rfl⟩
    ·rw [hb] at hn0
     exact absurd rfl hn0
   rw [hX.1]
   have HB := Lib.hid hX.2
   subst h0
   clear hE hX hk hn0
   go_enter Tryz.func58, Tryz.ntmps58
   go_wp2_with (first
    | (go_at_call 59; refine HC.out.mono ?_; rintro e w1 ⟨rfl, hb1⟩; have k1 := k0.below hb1 k0.lt; have hB1 := below_next hb0 hb0.size hb1; obtain ⟨c0, c1⟩ := k1.two; obtain ⟨f0, f1⟩ := k1.two_frozen)
    | (go_at_call 107; refine (refName_any _ hn _).mono ?_; rw [HB.out]; rintro e w2 ⟨rfl, rfl⟩))
   refine bodyPost_ret (resIs rfl _ _ (k1.twoStore (.slice none 0 0) (.int .i64 7)) rfl rfl rfl) rfl ?_
   exact ⟨none, 0, rfl, own_none _ _ 3, (hB1.setCell (by simp) _).setCell (by simp) _⟩
  ·have hX : nameE l n 0 = E := by unfold nameE knownE; rw [← hE, if_neg h0, if_neg h0]
   rw [hX]
   have g0 : (E != 0) = true := by simp [h0]
   clear hE hX h0 hn0
   go_enter Tryz.func58, Tryz.ntmps58
   go_wp2_with (go_at_call 59; refine HC.out.mono ?_; rintro e w1 ⟨rfl, hb1⟩; have k1 := k0.below hb1 k0.lt; have hB1 := below_next hb0 hb0.size hb1; obtain ⟨c0, c1⟩ := k1.two; obtain ⟨f0, f1⟩ := k1.two_frozen)
   refine bodyPost_ret (resIs rfl _ _ (k1.twoStore (.slice none 0 0) (.int .i64 E)) rfl rfl rfl) rfl ?_
   exact ⟨none, 0, rfl, own_none _ _ 3, (hB1.setCell (by simp) _).setCell (by simp) _⟩
end Go.Proofs.YtbhiphjifdnhmaaGreatDoor
