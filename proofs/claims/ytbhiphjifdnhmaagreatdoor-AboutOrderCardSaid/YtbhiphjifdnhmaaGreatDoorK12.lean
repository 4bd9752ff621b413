import Derived.Test.YtbhiphjifdnhmaaGreatDoorK10
import Derived.Test.YtbhiphjifdnhmaaGreatDoorA8
import Derived.Test.YtbhiphjifdnhmaaGreatDoorA9
set_option linter.unusedSimpArgs false
set_option linter.unusedVariables false
/- made: what a definition makes of the meanings of its parts. -/
namespace Go.Proofs.YtbhiphjifdnhmaaGreatDoor
open Go.RowKit Go.Maps

/-- meanings, as the elements of a map -/
def mvV (mv : List UInt8 → Option (Nat → Int)) : List UInt8 → Option Value := fun s => (mv s).map fun v => .agg (va v)
theorem mvV_get (mv : List UInt8 → Option (Nat → Int)) (s : List UInt8) : (mvV mv s).getD (.agg (va zeroV)) = .agg (va ((mv s).getD zeroV)) := by
  unfold mvV
  cases mv s <;> rfl
def getV (mv : List UInt8 → Option (Nat → Int)) (s : ByteArray) : Nat → Int := (mv s.data.toList).getD zeroV
/-- what a definition makes of the meanings of its parts, and its error -/
def madeR (d : Df) (mv : List UInt8 → Option (Nat → Int)) : Nat → Int :=
  if d.kind = 2 then joinR plusM (getV mv d.of) d.days else if d.kind = 3 then bothR (getV mv d.of) (getV mv d.wth) else if d.kind = 4 then joinR hullM (getV mv d.of) (getV mv d.wth) else d.days
def madeE (d : Df) (mv : List UInt8 → Option (Nat → Int)) : Int :=
  if d.kind = 2 then joinE plusM (getV mv d.of) d.days else if d.kind = 3 then bothE (getV mv d.of) (getV mv d.wth) else if d.kind = 4 then joinE hullM (getV mv d.of) (getV mv d.wth) else 0
theorem days_len (d : Df) : (Tryz.prog.info? 26).map (·.size) = some (va d.days).toList.length := by
  rw [Array.length_toList]
  exact info26 d.days
theorem days_at {w : World} {g : Nat} {T : TypeId} {d : Df} (h : Blk w g T (dfA d)) : w.rangeAt g 5 (va d.days).toList := fun j v hv => by
  have hj : j < 24 := by have := (List.getElem?_eq_some_iff.1 hv).1; simpa [va_size] using this
  have e := h.cell (5 + j)
  rw [dfA_days d j hj] at e
  rw [Array.getElem?_toList, va_get d.days j hj] at hv
  exact e.trans hv
/-- the days of a definition loaded out of its middle -/
theorem ldDays {ops : Array Oper} {rest : List Oper} {o : Oper} {a : Act} {w : World} {Q : Exit → Act → World → Prop} (t : Tmp) (hgd : o.guard = none) (ho : o.op = .load 26 (.tmp t))
    {g : Nat} {T : TypeId} {d : Df} (hB : Blk w g T (dfA d)) (hx : a.eval (.tmp t) = .pointer (some ⟨g, 5, none⟩)) (h : wpList Tryz.prog ops Q rest (a.put o.dst (.agg (va d.days))) w) : wpList Tryz.prog ops Q (o :: rest) a w :=
  wpList_load_mid hgd 26 _ ho g 5 hx (va d.days).toList _ (days_at hB) Tryz.underlying26 rfl (days_len d) (by simpa using h)
set_option maxRecDepth 100000 in
set_option maxHeartbeats 2000000 in
theorem made_any (d : Df) (mv : List UInt8 → Option (Nat → Int)) (m n0 : Nat) (w : World) (hm : MapIs w Tryz.prog 9 m n0 (mvV mv)) (ho : d.of.size ≤ maxLen) (hw : d.wth.size ≤ maxLen) :
    Calls Tryz.prog 128 #[.agg (dfA d), .map (some m)] w (RetV w (madeR d mv) (madeE d mv)) := by
  have hml := hm.lt
  obtain ⟨W, hW⟩ : ∃ W, W = (w.alloc (.cells (dfA d) 60)).alloc (.cells #[.int .i64 0, .int .i64 0, .int .i64 0, .int .i64 0, .int .i64 0, .int .i64 0, .int .i64 0, .int .i64 0, .int .i64 0, .int .i64 0, .int .i64 0, .int .i64 0, .int .i64 0, .int .i64 0, .int .i64 0, .int .i64 0, .int .i64 0, .int .i64 0, .int .i64 0, .int .i64 0, .int .i64 0, .int .i64 0, .int .i64 0, .int .i64 0] 26) := ⟨_, rfl⟩
  have kD : Blk W w.heap.size 60 (dfA d) := by rw [hW]; exact (Blk.new _ _ _).alloc _
  have kZ : Blk W (w.heap.size + 1) 26 (va zeroV) := by rw [hW, z24]; exact Blk.newAt (by simp)
  have hb0 : Below w.heap.size w W := by rw [hW]; exact (below_new _ _).alloc (by simp) _
  have hm0 := hm.below hb0 hml
  have hzW : W.heap.size = w.heap.size + 2 := by rw [hW]; simp
  have hl1 := hm0.look keyT Tryz.underlying160 (zero26 W) (key_any d.of ho)
  have hl2 := hm0.look keyT Tryz.underlying160 (zero26 W) (key_any d.wth hw)
  rw [mvV_get] at hl1 hl2
  obtain ⟨X, hX⟩ : ∃ X, X = getV mv d.of := ⟨_, rfl⟩
  obtain ⟨Y, hY⟩ : ∃ Y, Y = getV mv d.wth := ⟨_, rfl⟩
  rw [show (mv d.of.data.toList).getD zeroV = X from hX.symm] at hl1
  rw [show (mv d.wth.data.toList).getD zeroV = Y from hY.symm] at hl2
  obtain ⟨d0, d1, d2, d3, d4⟩ := kD.df
  obtain ⟨R, hR⟩ : ∃ R, R = madeR d mv := ⟨_, rfl⟩
  obtain ⟨E, hE⟩ : ∃ E, E = madeE d mv := ⟨_, rfl⟩
  rw [← hR, ← hE]
  unfold madeR at hR
  unfold madeE at hE
  rw [← hX, ← hY] at hR hE
  have HZ := Lib.hid hzW
  clear hX hY hm hm0 hzW
  subst hW
  by_cases h2 : d.kind = 2
  · rw [if_pos h2] at hR hE
    have t2 : (d.kind == 2) = true := by simp [h2]
    have HR := Lib.hid hR
    have HE := Lib.hid hE
    clear hR hE h2
    go_enter Tryz.func128, Tryz.ntmps128
    go_wp2_with (first
      | (refine ldDays 17 rfl rfl kD rfl ?_)
      | (go_at_call 16; refine (plus_any _ _ _).mono ?_; rintro e w1 ⟨rfl, hb1⟩; have kZ1 := kZ.below hb1 (by rw [HZ.out]; omega))
      | (refine stV 4 20 rfl rfl kZ1 rfl rfl ?_))
    exact bodyPost_ret (resV2 rfl _ _ (kZ1.setRow _) rfl rfl) rfl ⟨by rw [HR.out, HE.out]; rfl, below_setRow (below_next hb0 (by rw [HZ.out]; omega) hb1) (by omega) _⟩
  · by_cases h3 : d.kind = 3
    · rw [if_neg h2, if_pos h3] at hR hE
      have t2 : (d.kind == 2) = false := by simp [h2]
      have t3 : (d.kind == 3) = true := by simp [h3]
      have HR := Lib.hid hR
      have HE := Lib.hid hE
      clear hR hE h2 h3
      go_enter Tryz.func128, Tryz.ntmps128
      go_wp2_with (first
        | (go_at_call 18; refine (both_any _ _ _).mono ?_; rintro e w1 ⟨rfl, hb1⟩; have kZ1 := kZ.below hb1 (by rw [HZ.out]; omega); have kN : Blk (w1.alloc (.cells #[.int .i64 0, .int .i64 0, .int .i64 0, .int .i64 0, .int .i64 0, .int .i64 0, .int .i64 0, .int .i64 0, .int .i64 0, .int .i64 0, .int .i64 0, .int .i64 0, .int .i64 0, .int .i64 0, .int .i64 0, .int .i64 0, .int .i64 0, .int .i64 0, .int .i64 0, .int .i64 0, .int .i64 0, .int .i64 0, .int .i64 0, .int .i64 0] 26)) w1.heap.size 26 (va zeroV) := by rw [z24]; exact Blk.new _ _ _)
        | (refine stV 6 34 rfl rfl kN rfl rfl ?_)
        | (refine ldV 6 rfl rfl (kN.setRow _) rfl ?_)
        | (refine stV 4 37 rfl rfl ((kZ1.alloc _).farRow (g' := w1.heap.size) (by have := kZ1.lt; omega) _) rfl rfl ?_))
      exact bodyPost_ret (resV2 rfl _ _ (((kZ1.alloc _).farRow (g' := w1.heap.size) (by have := kZ1.lt; omega) _).setRow _) rfl rfl) rfl ⟨by rw [HR.out, HE.out]; rfl, below_setRow (below_setRow ((below_next hb0 (by rw [HZ.out]; omega) hb1).alloc (by have := kZ1.lt; omega) _) (by have := kZ1.lt; omega) _) (by omega) _⟩
    · by_cases h4 : d.kind = 4
      · rw [if_neg h2, if_neg h3, if_pos h4] at hR hE
        have t2 : (d.kind == 2) = false := by simp [h2]
        have t3 : (d.kind == 3) = false := by simp [h3]
        have t4 : (d.kind == 4) = true := by simp [h4]
        have HR := Lib.hid hR
        have HE := Lib.hid hE
        clear hR hE h2 h3 h4
        go_enter Tryz.func128, Tryz.ntmps128
        go_wp2_with (first
          | (go_at_call 19; refine (hull_any _ _ _).mono ?_; rintro e w1 ⟨rfl, hb1⟩; have kZ1 := kZ.below hb1 (by rw [HZ.out]; omega))
          | (refine stV 4 50 rfl rfl kZ1 rfl rfl ?_))
        exact bodyPost_ret (resV2 rfl _ _ (kZ1.setRow _) rfl rfl) rfl ⟨by rw [HR.out, HE.out]; rfl, below_setRow (below_next hb0 (by rw [HZ.out]; omega) hb1) (by omega) _⟩
      · rw [if_neg h2, if_neg h3, if_neg h4] at hR hE
        have t2 : (d.kind == 2) = false := by simp [h2]
        have t3 : (d.kind == 3) = false := by simp [h3]
        have t4 : (d.kind == 4) = false := by simp [h4]
        have HR := Lib.hid hR
        have HE := Lib.hid hE
        clear hR hE h2 h3 h4
        go_enter Tryz.func128, Tryz.ntmps128
        go_wp2_with (first
          | (refine ldDays 52 rfl rfl kD rfl ?_)
          | (refine stV 4 53 rfl rfl kZ rfl rfl ?_))
        exact bodyPost_ret (resV2 rfl _ _ (kZ.setRow _) rfl rfl) rfl ⟨by rw [HR.out, HE.out]; rfl, below_setRow hb0 (by omega) _⟩
end Go.Proofs.YtbhiphjifdnhmaaGreatDoor

/- meaning, where what a name rests on comes in an order. -/
namespace Go.Proofs.YtbhiphjifdnhmaaGreatDoor
open Go.RowKit Go.Maps

/-- a meaning: days and an error -/
def mnA (v : Nat → Int) (e : Int) : Array Value := (va v).push (.int .i64 e)
theorem mnA_size (v : Nat → Int) (e : Int) : (mnA v e).size = 25 := by simp [mnA, va_size]
theorem mnA_one (v : Nat → Int) (e : Int) : (mnA v e).all (·.oneCell') = true := by
  rw [Array.all_eq_true]
  intro i hi
  simp only [mnA, Array.getElem_push]
  split
  · rename_i h
    have := va_one v
    rw [Array.all_eq_true] at this
    exact this i h
  · rfl
theorem info128 (v : Nat → Int) (e : Int) : (Tryz.prog.info? 128).map (·.size) = some (mnA v e).size := by
  rw [mnA_size]; kernel_rfl
theorem zmn : (#[.int .i64 0, .int .i64 0, .int .i64 0, .int .i64 0, .int .i64 0, .int .i64 0, .int .i64 0, .int .i64 0, .int .i64 0, .int .i64 0, .int .i64 0, .int .i64 0, .int .i64 0, .int .i64 0, .int .i64 0, .int .i64 0, .int .i64 0, .int .i64 0, .int .i64 0, .int .i64 0, .int .i64 0, .int .i64 0, .int .i64 0, .int .i64 0, .int .i64 0] : Array Value) = mnA zeroV 0 := by kernel_rfl
theorem run_buildE (e : Int) (w : World) : (Instr.build 128 #[(1, .int .i64 e)]).run Tryz.prog w = .ok (.agg (mnA zeroV e)) w := by kernel_rfl
theorem run_buildV (v : Nat → Int) (w : World) : (Instr.build 128 #[(0, .agg (va v))]).run Tryz.prog w = .ok (.agg (mnA v 0)) w := by kernel_rfl
/-- a meaning stored whole at slot t -/
theorem stM {ops : Array Oper} {rest : List Oper} {o : Oper} {a : Act} {w : World} {Q : Exit → Act → World → Prop} (t s : Tmp) (hgd : o.guard = none) (ho : o.op = .store 128 (.tmp t) (.tmp s))
    {g : Nat} {T : TypeId} {v u : Nat → Int} {e i : Int} (hB : Blk w g T (mnA u i)) (hx : a.eval (.tmp t) = .pointer (some ⟨g, 0, none⟩)) (hy : a.eval (.tmp s) = .agg (mnA v e)) (h : wpList Tryz.prog ops Q rest (a.put o.dst undef) (w.setRow g (mnA v e))) : wpList Tryz.prog ops Q (o :: rest) a w :=
  wpList_store_row hgd 128 _ _ ho g _ hx hy T _ hB (info128 _ _) (by rw [mnA_size, mnA_size]) (mnA_one _ _) h
/-- 'meaning{days: v}' -/
theorem wpl_buildV {ops : Array Oper} {rest : List Oper} {o : Oper} {a : Act} {w : World} {Q : Exit → Act → World → Prop} (hgd : o.guard = none) (x : Operand) (ho : o.op = .build 128 #[(0, x)]) (v : Nat → Int) (hx : a.eval x = .agg (va v))
    (h : wpList Tryz.prog ops Q rest (a.put o.dst (.agg (mnA v 0))) w) : wpList Tryz.prog ops Q (o :: rest) a w :=
  wpList_plain hgd fun _ hK => by
    unfold Oper.wp
    simp [execOp, ho, hx, run_buildV, Result.andThen]
    exact hK _ _ h
/-- meanings one after the other -/
def runM (b : List UInt8 → Option Df) : List ByteArray → (List UInt8 → Option (Nat → Int)) → Int × (List UInt8 → Option (Nat → Int))
  | [], mv => (0, mv)
  | x :: t, mv => if madeE ((b x.data.toList).getD df0) mv ≠ 0 then (madeE ((b x.data.toList).getD df0) mv, mv) else runM b t (fun s => if s = x.data.toList then some (madeR ((b x.data.toList).getD df0) mv) else mv s)
/-- what a name means -/
def meanE (b : List UInt8 → Option Df) (wb : Bool) (L : List ByteArray) : Int := if wb then (runM b L fun _ => none).1 else 5
def meanR (b : List UInt8 → Option Df) (wb : Bool) (L : List ByteArray) (n : ByteArray) : Nat → Int := if meanE b wb L = 0 then getV (runM b L fun _ => none).2 n else zeroV
set_option maxRecDepth 100000 in
set_option maxHeartbeats 2000000 in
theorem meaning_any (b : List UInt8 → Option Df) (m n0 : Nat) (n : ByteArray) (wb : Bool) (L : List ByteArray) (w : World) (hm : MapIs w Tryz.prog 9 m n0 (bookV b)) (hn : n.size ≤ maxLen) (hLs : ∀ x ∈ L, x.size ≤ maxLen) (hlen : L.length ≤ 1000)
    (hbs : ∀ s, ((b s).getD df0).of.size ≤ maxLen ∧ ((b s).getD df0).wth.size ≤ maxLen)
    (hw : ∀ w, MapIs w Tryz.prog 9 m n0 (bookV b) → Calls Tryz.prog 126 #[.map (some m), .string n] w fun e w' => e = .returned (.bool wb) ∧ Below w.heap.size w w')
    (hO : wb = true → ∀ w, MapIs w Tryz.prog 9 m n0 (bookV b) → Calls Tryz.prog 127 #[.map (some m), .string n] w (RetStrsE w L)) :
    Calls Tryz.prog 87 #[.map (some m), .string n] w fun e w' => e = .returned (.agg (mnA (meanR b wb L n) (meanE b wb L))) ∧ Below w.heap.size w w' := by
  have hml := hm.lt
  have hbE := run_buildE
  have hbV := run_buildV
  have hmm := @run_makeMap Tryz.prog
  have k0 : Blk (w.alloc (.cells #[.int .i64 0, .int .i64 0, .int .i64 0, .int .i64 0, .int .i64 0, .int .i64 0, .int .i64 0, .int .i64 0, .int .i64 0, .int .i64 0, .int .i64 0, .int .i64 0, .int .i64 0, .int .i64 0, .int .i64 0, .int .i64 0, .int .i64 0, .int .i64 0, .int .i64 0, .int .i64 0, .int .i64 0, .int .i64 0, .int .i64 0, .int .i64 0, .int .i64 0] 128)) w.heap.size 128 (mnA zeroV 0) := by rw [zmn]; exact Blk.new _ _ _
  have hb0 := below_new w (.cells #[.int .i64 0, .int .i64 0, .int .i64 0, .int .i64 0, .int .i64 0, .int .i64 0, .int .i64 0, .int .i64 0, .int .i64 0, .int .i64 0, .int .i64 0, .int .i64 0, .int .i64 0, .int .i64 0, .int .i64 0, .int .i64 0, .int .i64 0, .int .i64 0, .int .i64 0, .int .i64 0, .int .i64 0, .int .i64 0, .int .i64 0, .int .i64 0, .int .i64 0] 128)
  have hm0 := hm.below hb0 hml
  cases wb
  · have hW := hw _ hm0
    have HW := Lib.hid hW
    clear hW hw hO
    go_enter Tryz.func87, Tryz.ntmps87
    go_wp2_with (first
      | (go_at_call 126; refine HW.out.mono ?_; rintro e w1 ⟨rfl, hb1⟩; have k1 := k0.below hb1 (by simp))
      | (refine stM 4 16 rfl rfl k1 rfl (v := zeroV) (e := 5) (by kernel_rfl) ?_))
    exact bodyPost_ret (results_cell_row rfl _ _ w.heap.size 128 (mnA zeroV 5) (0, 0) _ rfl (k1.setRow _) Tryz.underlying128 rfl (info128 _ _)) rfl ⟨rfl, below_setRow (below_next hb0 (by simp) hb1) (Nat.le_refl _) _⟩
  · have hW := hw _ hm0
    have HW := Lib.hid hW
    have HO := Lib.hid (hO rfl)
    clear hW hw hO
    obtain ⟨R0, hR0⟩ : ∃ R0, R0 = runM b L fun _ => none := ⟨_, rfl⟩
    have e1 : meanE b true L = R0.1 := by rw [hR0]; rfl
    have e2 : meanR b true L n = if R0.1 = 0 then getV R0.2 n else zeroV := by unfold meanR; rw [e1, hR0]
    rw [e1, e2]
    have hr0 : Hid (R0 = runM b (L.drop 0) fun _ => none) := hR0
    obtain ⟨RE, hRE⟩ : ∃ RE, RE = R0.1 := ⟨_, rfl⟩
    obtain ⟨RV, hRV⟩ : ∃ RV, RV = if R0.1 = 0 then getV R0.2 n else zeroV := ⟨_, rfl⟩
    rw [← hRV, ← hRE]
    have HRE := Lib.hid hRE
    have HRV := Lib.hid hRV
    clear e1 e2 hR0 hRE hRV
    have hml2 := hm0.lt
    go_enter Tryz.func87, Tryz.ntmps87
    go_wp2_with (first
      | (go_at_call 126; refine HW.out.mono ?_; rintro e w1 ⟨rfl, hb1⟩; have k1 := k0.below hb1 (by simp); have hm1 := hm0.below hb1 hml2)
      | (go_at_call 127; refine (HO.out _ hm1).mono ?_; rintro e w2 ⟨A, c, rfl, ho2, hb2⟩))
    have hS2 : Strs w2 w2.heap.size A L := Strs.of_own ho2
    have hm2 := hm1.below hb2 (hm1.lt)
    have k2 := k1.below hb2 k1.lt
    have hbw2 : Below w.heap.size w w2 := below_next (below_next hb0 (by simp) hb1) (by have := hb1.size; simp at this; omega) hb2
    have hmv : MapIs (w2.alloc (.map #[] 0)) Tryz.prog 9 w2.heap.size 0 (mvV fun _ => none) := MapIs.made w2 Tryz.prog 9
    have hbm := below_new w2 (.map #[] 0)
    have k2l := k2.lt
    have hm2l := hm2.lt
    clear ho2 hb1 hb2 hm1 k1 hb0 hm0 k0 HW HO
    go_loopw [30] (fun t30 wq => ∃ (k kk : Nat) (mv : List UInt8 → Option (Nat → Int)), k ≤ L.length ∧ t30 = .int .i64 k ∧ kk ≤ k ∧ MapIs wq Tryz.prog 9 w2.heap.size kk (mvV mv) ∧ Hid (R0 = runM b (L.drop k) mv) ∧ Below w2.heap.size w2 wq) (fun t30 _ => L.length - (intOf t30).toNat)
    case atStart => exact ⟨0, 0, _, by omega, rfl, Nat.le_refl _, hmv, hr0, hbm⟩
    case round =>
      obtain ⟨k, kk, mv, hk, rfl, hkk, hM, hR, hb3⟩ := hrel
      clear hmv hbm hr0
      have hMl := hM.lt
      have k3 := k2.below hb3 k2l
      have hm3 := hm2.below hb3 hm2l
      by_cases hlt : k < L.length
      · obtain ⟨ad, rfl, hab, hcell⟩ := hS2.get hlt
        obtain ⟨x, hx⟩ : ∃ x, x = L[k] := ⟨_, rfl⟩
        have hxs : x.size ≤ maxLen := hLs x (hx ▸ List.getElem_mem hlt)
        rw [← hx] at hcell
        obtain ⟨d, hd⟩ : ∃ d, d = (b x.data.toList).getD df0 := ⟨_, rfl⟩
        have hds := hbs x.data.toList
        have hdr : runM b (L.drop k) mv = if madeE d mv ≠ 0 then (madeE d mv, mv) else runM b (L.drop (k + 1)) (fun s => if s = x.data.toList then some (madeR d mv) else mv s) := by
          rw [List.drop_eq_getElem_cons hlt, ← hx, hd]; rfl
        have hlk := hm3.look keyT Tryz.underlying130 (zero60 wr) (key_any x hxs)
        rw [bookV_get, ← hd] at hlk
        rw [← hd] at hds
        have hcell3 : wr.cell? (ad.add k) = some (.string x) := (hb3.cell (by rw [addr_block]; exact hab)).trans hcell
        obtain ⟨E, hE⟩ : ∃ E, E = madeE d mv := ⟨_, rfl⟩
        obtain ⟨V, hV⟩ : ∃ V, V = madeR d mv := ⟨_, rfl⟩
        have hMA := made_any d mv w2.heap.size kk wr hM hds.1 hds.2
        rw [← hE, ← hV] at hMA hdr
        have HM := Lib.hid hMA
        have HD := Lib.hid hdr
        clear hMA hdr hE hV hd hx hcell
        have kN : ∀ W : World, Blk (W.alloc (.cells #[.int .i64 0, .int .i64 0, .int .i64 0, .int .i64 0, .int .i64 0, .int .i64 0, .int .i64 0, .int .i64 0, .int .i64 0, .int .i64 0, .int .i64 0, .int .i64 0, .int .i64 0, .int .i64 0, .int .i64 0, .int .i64 0, .int .i64 0, .int .i64 0, .int .i64 0, .int .i64 0, .int .i64 0, .int .i64 0, .int .i64 0, .int .i64 0] 26)) W.heap.size 26 (va zeroV) := fun W => by rw [z24]; exact Blk.new _ _ _
        have k3l := k3.lt
        by_cases hE0 : E = 0
        · have hDD : runM b (L.drop k) mv = runM b (L.drop (k + 1)) (fun s => if s = x.data.toList then some V else mv s) := by rw [HD.out, if_neg (by simp [hE0])]
          have HDD := Lib.hid hDD
          clear hDD
          subst hE0
          go_wp2_with (first
            | (go_at_call 128; refine HM.out.mono ?_; rintro e w3 ⟨rfl, hb4⟩; have hM4 := hM.below hb4 hMl; have kN3 := kN w3; have hMl3 := hM4.lt; have hM5 := hM4.below (below_setRow (below_new w3 (.cells #[.int .i64 0, .int .i64 0, .int .i64 0, .int .i64 0, .int .i64 0, .int .i64 0, .int .i64 0, .int .i64 0, .int .i64 0, .int .i64 0, .int .i64 0, .int .i64 0, .int .i64 0, .int .i64 0, .int .i64 0, .int .i64 0, .int .i64 0, .int .i64 0, .int .i64 0, .int .i64 0, .int .i64 0, .int .i64 0, .int .i64 0, .int .i64 0] 26)) (Nat.le_refl _) (va V)) hM4.lt)
            | (refine stV 10 40 rfl rfl kN3 rfl rfl ?_)
            | (refine ldV 10 rfl rfl (kN3.setRow _) rfl ?_)
            | (refine wpl_put rfl (.tmp 46) (.tmp 47) (.tmp 48) 160 26 rfl Tryz.underlying160 hM5 (by unfold maxLen; omega) x hxs (.agg (va V)) rfl rfl rfl ?_; intro w5 hM6 hg6 hz6; clear hz6))
          have hb5 := (below_setRow ((below_next hb3 hb3.size hb4).alloc (by have := hb4.size; omega) (.cells #[.int .i64 0, .int .i64 0, .int .i64 0, .int .i64 0, .int .i64 0, .int .i64 0, .int .i64 0, .int .i64 0, .int .i64 0, .int .i64 0, .int .i64 0, .int .i64 0, .int .i64 0, .int .i64 0, .int .i64 0, .int .i64 0, .int .i64 0, .int .i64 0, .int .i64 0, .int .i64 0, .int .i64 0, .int .i64 0, .int .i64 0, .int .i64 0] 26)) (by have := hb4.size; omega) (va V)).grown hg6 (by have := hb4.size; simp; omega) (fun i e => by injection e with e; omega)
          go_roundw
          case rel => exact ⟨k + 1, kk + 1, _, by omega, by go_num, by omega, hM6.congr fun s => by unfold mvV; by_cases e : s = x.data.toList <;> simp [e], (hR.out.trans HDD.out : Hid _), hb5⟩
          case measure => simp [intOf]; omega
        · have hE1 : (E == 0) = false := by simp [hE0]
          have hDD : runM b (L.drop k) mv = (E, mv) := by rw [HD.out, if_pos hE0]
          have HDD := Lib.hid hDD
          clear hDD
          go_wp2_with (first
            | (go_at_call 128; refine HM.out.mono ?_; rintro e w3 ⟨rfl, hb4⟩; have k4 := k3.below hb4 k3l; have kN3 := kN w3; have k5 := ((k4.alloc (.cells #[.int .i64 0, .int .i64 0, .int .i64 0, .int .i64 0, .int .i64 0, .int .i64 0, .int .i64 0, .int .i64 0, .int .i64 0, .int .i64 0, .int .i64 0, .int .i64 0, .int .i64 0, .int .i64 0, .int .i64 0, .int .i64 0, .int .i64 0, .int .i64 0, .int .i64 0, .int .i64 0, .int .i64 0, .int .i64 0, .int .i64 0, .int .i64 0] 26)).farRow (g' := w3.heap.size) (by have := k4.lt; omega) (va V)))
            | (refine stV 10 40 rfl rfl kN3 rfl rfl ?_)
            | (refine stM 4 45 rfl rfl k5 rfl (v := zeroV) (e := E) (by kernel_rfl) ?_))
          simp only [Act.put]
          exact bodyPost_ret (results_cell_row rfl _ _ w.heap.size 128 (mnA zeroV E) (0, 0) _ rfl (k5.setRow _) Tryz.underlying128 rfl (info128 _ _)) rfl ⟨by rw [HRE.out, HRV.out, hR.out, HDD.out]; simp [hE0], below_setRow (below_setRow ((below_next hbw2 hbw2.size (below_next hb3 hb3.size hb4)).alloc (by have := hb4.size; omega) _) (by have := hb4.size; omega) _) (Nat.le_refl _) _⟩
      · obtain rfl : k = L.length := by omega
        have hRL : R0 = (0, mv) := by rw [hR.out, List.drop_length]; rfl
        have HRL := Lib.hid hRL
        clear hRL
        have hlk := hM.look keyT Tryz.underlying160 (zero26 wr) (key_any n hn)
        rw [mvV_get] at hlk
        obtain ⟨X, hX⟩ : ∃ X, X = getV mv n := ⟨_, rfl⟩
        rw [show (mv n.data.toList).getD zeroV = X from hX.symm] at hlk
        have HX := Lib.hid hX
        clear hX
        clear hbE hbV
        go_wp2_with (first
          | (refine wpl_buildV rfl (.tmp 52) rfl X rfl ?_)
          | (refine stM 4 53 rfl rfl k3 rfl (v := X) (e := 0) rfl ?_))
        first
          | simp only [Act.put]
          | skip
        exact bodyPost_ret (results_cell_row rfl _ _ w.heap.size 128 (mnA X 0) (0, 0) _ rfl (k3.setRow _) Tryz.underlying128 rfl (info128 _ _)) rfl ⟨by rw [HRE.out, HRV.out, HRL.out, HX.out]; simp, below_setRow (below_next hbw2 hbw2.size hb3) (Nat.le_refl _) _⟩
end Go.Proofs.YtbhiphjifdnhmaaGreatDoor

