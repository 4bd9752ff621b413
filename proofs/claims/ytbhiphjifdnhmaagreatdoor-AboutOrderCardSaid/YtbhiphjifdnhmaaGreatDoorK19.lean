import Derived.Test.YtbhiphjifdnhmaaGreatDoorK18
import Derived.Test.YtbhiphjifdnhmaaGreatDoorR1
set_option linter.unusedSimpArgs false
set_option linter.unusedVariables false
/- Changes, at a book. -/
namespace Go.Proofs.YtbhiphjifdnhmaaGreatDoor
open Go.RowKit Go.Maps

theorem mn_extract (v : Nat → Int) (e : Int) : (mnA v e).extract 0 (0 + 24) = va v := by
  apply Array.ext_getElem?
  intro i
  rw [Array.getElem?_extract]
  by_cases hi : i < 24
  · rw [if_pos (by rw [mnA_size]; omega), Nat.zero_add, mnA, Array.getElem?_push_lt (by rw [va_size]; exact hi), Array.getElem?_eq_getElem (by rw [va_size]; exact hi)]
  · rw [if_neg (by rw [mnA_size]; omega), va_past v i (by omega)]
theorem mn_24 (v : Nat → Int) (e : Int) : (mnA v e)[24]? = some (.int .i64 e) := by
  have : (va v).size = 24 := va_size v
  rw [mnA, ← this, Array.getElem?_push_size]
theorem sz26 (w : World) : (sizeOf 26).run Tryz.prog w = .ok 24 w := by
  have h3 : (Tryz.prog.info? 26).map (·.size) = some 24 := by kernel_rfl
  cases hq : Tryz.prog.info? 26 with
  | none => simp [hq] at h3
  | some i =>
    have hs : i.size = 24 := by simpa [hq] using h3
    simp [sizeOf, typeInfo, hq, hs]
theorem eq_mean (d : Nat) (w : World) (v u : Nat → Int) (e i : Int) : (Op.equalIn (d + 5) 128 (.agg (mnA v e)) (.agg (mnA u i))).run Tryz.prog w = .ok (sameV v u && e == i) w := by
  have p0 : ∀ (w : World) (v : Nat → Int) (e : Int), (part 26 (mnA v e) 0).run Tryz.prog w = .ok (.agg (va v)) w := fun w v e => by
    simp [part, isAgg, run_underlying Tryz.underlying26, sz26]
    simpa using mn_extract v e
  have p1 : ∀ (w : World) (v : Nat → Int) (e : Int), (part 27 (mnA v e) 24).run Tryz.prog w = .ok (.int .i64 e) w := fun w v e => by
    have := mn_24 v e
    simp [part, isAgg, run_underlying Tryz.underlying27, this]
  rw [run_equalIn_struct w (d + 4) 128 _ _ (by kernel_rfl) (by kernel_rfl)]
  have hv := fun w => eq_vague d w v u
  simp only [Program.fieldsOf, Tryz.underlying128, Op.eqFields, p0, p1, Sem.run_bind, Result.andThen_ok, Sem.run_pure]
  simp [p0, p1, hv, Op.eqFields, run_equalIn_int _ _ 27 .i64 .i64 _ _ Tryz.underlying27]
  by_cases he : e = i <;> cases sameV v u <;> simp [he]
theorem guard128 (x y : Operand) (xs ys : Array Value) (w : World) : (eqGuard .neq 128 x y (.agg xs) (.agg ys)).run Tryz.prog w = .ok () w := by
  have hT : Tryz.prog.eqGuardType Tryz.prog.depth 128 = false := by kernel_rfl
  simp [eqGuard, hT]
set_option maxRecDepth 100000 in
theorem wpl_neqM {ops : Array Oper} {rest : List Oper} {o : Oper} {a : Act} {w : World} {Q : Exit → Act → World → Prop} (hgd : o.guard = none) (x y : Operand) (t : TypeId) (ho : o.op = .binOp .neq 128 x y t) (v u : Nat → Int) (e i : Int) (hx : a.eval x = .agg (mnA v e)) (hy : a.eval y = .agg (mnA u i))
    (h : wpList Tryz.prog ops Q rest (a.put o.dst (.bool (!(sameV v u && e == i)))) w) : wpList Tryz.prog ops Q (o :: rest) a w :=
  wpList_plain hgd fun _ hK => by
    have hq : (Op.equalIn 10000 128 (.agg (mnA v e)) (.agg (mnA u i))).run Tryz.prog w = .ok (sameV v u && e == i) w := eq_mean 9995 w v u e i
    have hr : (binOp .neq 128 (.agg (mnA v e)) (.agg (mnA u i))).run Tryz.prog w = .ok (.bool (!(sameV v u && e == i))) w := by rw [run_neq_struct, hq]; rfl
    unfold Oper.wp execOp
    simp only [ho, hx, hy, Sem.run_bind, guard128, hr, Result.andThen_ok, Sem.run_pure]
    exact hK _ _ h
/-- a meaning loaded whole out of slot t -/
theorem ldM {ops : Array Oper} {rest : List Oper} {o : Oper} {a : Act} {w : World} {Q : Exit → Act → World → Prop} (t : Tmp) (hgd : o.guard = none) (ho : o.op = .load 128 (.tmp t))
    {g : Nat} {T : TypeId} {v : Nat → Int} {e : Int} (hB : Blk w g T (mnA v e)) (hx : a.eval (.tmp t) = .pointer (some ⟨g, 0, none⟩)) (h : wpList Tryz.prog ops Q rest (a.put o.dst (.agg (mnA v e))) w) : wpList Tryz.prog ops Q (o :: rest) a w :=
  wpList_load_row hgd 128 _ ho g hx T _ (0, 0) _ hB Tryz.underlying128 rfl (info128 _ _) h
theorem grown_setRow (w : World) (g : Nat) (cs : Array Value) : w.grownBy (w.setRow g cs) (some g) := ⟨rfl, rfl, rfl, by simp, fun i _ hne => setRow_other w g i cs (fun e => hne (by rw [e]))⟩
theorem own_setRow {w : World} {base : Nat} {e : TypeId} {size n : Nat} {v : Value} {xs : List Value} (h : w.ownsRow base e size v n xs) {g : Nat} (hg : g < base) (cs : Array Value) : (w.setRow g cs).ownsRow base e size v n xs := by
  refine h.kept (grown_setRow w g cs) ?_
  cases hv : v.ownBlock with
  | none => exact .inl rfl
  | some i => have := (h.lt i hv).1; right; simp; omega
/-- the days on which the meaning is another one than before -/
def chgL (M : Int → (Nat → Int) × Int) : List Int → (Nat → Int) × Int → List Int
  | [], _ => []
  | d :: t, p => if sameV (M d).1 p.1 && (M d).2 == p.2 then chgL M t (M d) else d :: chgL M t (M d)
/-- numbers and no error are returned -/
def RetIntsE (w : World) (l : List Int) (e : Ending) (w' : World) : Prop :=
  ∃ A c, e = .returned (.tuple #[.slice A l.length c, .int .i64 0]) ∧ w'.ownsRow w.heap.size 3 1 (.slice A l.length c) l.length (l.map (Value.int .i64)) ∧ Below w.heap.size w w'
set_option maxRecDepth 100000 in
set_option maxHeartbeats 4000000 in
theorem changes_ok {A : Option Addr} {cap : Nat} {l : List Df} (h : CalOk A cap l) (n : ByteArray) (hn : n.size ≤ maxLen) (w : World) (hD : Defs w w.heap.size A l) (hb : nameB n = true) (M : Int → (Nat → Int) × Int) (days : List Int) (hdays : days = cmpt (srt (l.map (·.known)))) (hM : ∀ d ∈ days, MeanIs l n d (M d).1 (M d).2) :
    Calls Tryz.prog 37 #[.slice A l.length cap, .string n] w (RetIntsE w (chgL M days (zeroV, 5))) := by
  have HM : Hid (∀ d ∈ days, MeanIs l n d (M d).1 (M d).2) := hM
  have HD := Lib.hid hdays
  have hk0 : dayB 0 = true := by decide
  have hll := h.len
  obtain ⟨R, hR⟩ : ∃ R, R = chgL M days (zeroV, 5) := ⟨_, rfl⟩
  rw [← hR]
  have HR := Lib.hid hR
  clear hM hdays hR
  go_enter Tryz.func37, Tryz.ntmps37
  go_wp2_with (go_at_call 85; refine (checkName_ok h n hn 0 _ hD hb hk0).mono ?_; rintro e w1 ⟨rfl, hb1⟩)
  have hD1 := hD.behind hb1
  go_loopw [7, 23] (fun t7 t23 wq => ∃ (k : Nat) (A2 : Option Addr) (c2 : Nat), k ≤ l.length ∧ t23 = .int .i64 k ∧ t7 = .slice A2 (((l.take k).map (·.known)).length) c2 ∧ wq.ownsRow w1.heap.size 3 1 (.slice A2 (((l.take k).map (·.known)).length) c2) (((l.take k).map (·.known)).length) (((l.take k).map (·.known)).map (Value.int .i64)) ∧ Below w1.heap.size w1 wq) (fun _ t23 _ => l.length - (intOf t23).toNat)
  case atStart => exact ⟨0, none, 0, by omega, rfl, rfl, own_none _ _ 3, Below.refl _ _⟩
  case round =>
    obtain ⟨k, A2, c2, hk, rfl, rfl, ho2, hb2⟩ := hrel
    by_cases hlt : k < l.length
    · obtain ⟨x, hx⟩ : ∃ x, l[k]? = some x := ⟨_, List.getElem?_eq_getElem hlt⟩
      obtain ⟨ag, ao, hA, hag, hcx⟩ := (hD1.below hb2) k x hx
      subst hA
      have htk : (l.take (k + 1)).map (·.known) = (l.take k).map (·.known) ++ [x.known] := by rw [List.take_add_one, hx, List.map_append]; rfl
      obtain ⟨T, hT⟩ : ∃ T, T = (l.take k).map (·.known) := ⟨_, rfl⟩
      rw [← hT] at htk ho2 ⊢
      have hTl : T.length ≤ 30 := by rw [hT, List.length_map, List.length_take]; omega
      have HT := Lib.hid htk
      clear htk hx hT
      have hr : wr.rangeAt ag (ao + k * 29) (dfL x) := hcx
      have kZ : Blk (wr.alloc (.cells #[.string ⟨#[]⟩, .int .i64 0, .int .i64 0, .string ⟨#[]⟩, .string ⟨#[]⟩, .int .i64 0, .int .i64 0, .int .i64 0, .int .i64 0, .int .i64 0, .int .i64 0, .int .i64 0, .int .i64 0, .int .i64 0, .int .i64 0, .int .i64 0, .int .i64 0, .int .i64 0, .int .i64 0, .int .i64 0, .int .i64 0, .int .i64 0, .int .i64 0, .int .i64 0, .int .i64 0, .int .i64 0, .int .i64 0, .int .i64 0, .int .i64 0] 60)) wr.heap.size 60 (dfA df0) := by rw [z60]; exact Blk.new _ _ _
      have kX := kZ.setRow (dfA x)
      have hbx : Below wr.heap.size wr ((wr.alloc (.cells #[.string ⟨#[]⟩, .int .i64 0, .int .i64 0, .string ⟨#[]⟩, .string ⟨#[]⟩, .int .i64 0, .int .i64 0, .int .i64 0, .int .i64 0, .int .i64 0, .int .i64 0, .int .i64 0, .int .i64 0, .int .i64 0, .int .i64 0, .int .i64 0, .int .i64 0, .int .i64 0, .int .i64 0, .int .i64 0, .int .i64 0, .int .i64 0, .int .i64 0, .int .i64 0, .int .i64 0, .int .i64 0, .int .i64 0, .int .i64 0, .int .i64 0] 60)).setRow wr.heap.size (dfA x)) := below_setRow (below_new _ _) (Nat.le_refl _) _
      have ho3 := own_below ho2 hbx
      have hszx : ((wr.alloc (.cells #[.string ⟨#[]⟩, .int .i64 0, .int .i64 0, .string ⟨#[]⟩, .string ⟨#[]⟩, .int .i64 0, .int .i64 0, .int .i64 0, .int .i64 0, .int .i64 0, .int .i64 0, .int .i64 0, .int .i64 0, .int .i64 0, .int .i64 0, .int .i64 0, .int .i64 0, .int .i64 0, .int .i64 0, .int .i64 0, .int .i64 0, .int .i64 0, .int .i64 0, .int .i64 0, .int .i64 0, .int .i64 0, .int .i64 0, .int .i64 0, .int .i64 0] 60)).setRow wr.heap.size (dfA x)).heap.size = wr.heap.size + 1 := by simp
      have ho4 := own_below ho3 (below_new _ (.cells #[.int .i64 x.known] 3))
      have kN : Blk (((wr.alloc (.cells #[.string ⟨#[]⟩, .int .i64 0, .int .i64 0, .string ⟨#[]⟩, .string ⟨#[]⟩, .int .i64 0, .int .i64 0, .int .i64 0, .int .i64 0, .int .i64 0, .int .i64 0, .int .i64 0, .int .i64 0, .int .i64 0, .int .i64 0, .int .i64 0, .int .i64 0, .int .i64 0, .int .i64 0, .int .i64 0, .int .i64 0, .int .i64 0, .int .i64 0, .int .i64 0, .int .i64 0, .int .i64 0, .int .i64 0, .int .i64 0, .int .i64 0] 60)).setRow wr.heap.size (dfA x)).alloc (.cells #[.int .i64 x.known] 3)) (wr.heap.size + 1) 3 #[.int .i64 x.known] := Blk.newAt hszx
      have hle : w1.heap.size ≤ (((wr.alloc (.cells #[.string ⟨#[]⟩, .int .i64 0, .int .i64 0, .string ⟨#[]⟩, .string ⟨#[]⟩, .int .i64 0, .int .i64 0, .int .i64 0, .int .i64 0, .int .i64 0, .int .i64 0, .int .i64 0, .int .i64 0, .int .i64 0, .int .i64 0, .int .i64 0, .int .i64 0, .int .i64 0, .int .i64 0, .int .i64 0, .int .i64 0, .int .i64 0, .int .i64 0, .int .i64 0, .int .i64 0, .int .i64 0, .int .i64 0, .int .i64 0, .int .i64 0] 60)).setRow wr.heap.size (dfA x)).alloc (.cells #[.int .i64 x.known] 3)).heap.size := by have := hb2.size; simp; omega
      obtain ⟨x0, x1, x2, x3, x4⟩ := kX.df
      clear hszx ho3
      go_wp2_with (first
        | (refine ldD 25 rfl rfl hr rfl ?_)
        | (refine stD 9 26 rfl rfl kZ rfl rfl ?_)
        | (refine wpl_appN rfl (.tmp 27) (.tmp 30) rfl w1.heap.size (.slice A2 T.length c2) T x.known rfl ho4 (wr.heap.size + 1) rfl (kN.cell 0) (by omega) hle ?_; intro g4 c4 w4 ho5 hb4 hg4))
      have hb6 := ((below_next hb2 hb2.size hbx).alloc (by have := hb2.size; simp; omega) (.cells #[.int .i64 x.known] 3)).trans hb4
      go_roundw
      case rel => exact ⟨k + 1, some ⟨g4, 0, none⟩, c4, by omega, by go_num, by rw [HT.out]; simp, by rw [HT.out]; exact ho5, hb6⟩
      case measure => simp [intOf]; omega
    · obtain rfl : k = l.length := by omega
      rw [List.take_length] at ho2 ⊢
      obtain ⟨T, hT⟩ : ∃ T, T = l.map (·.known) := ⟨_, rfl⟩
      rw [← hT] at ho2 ⊢
      have hTl : T.length ≤ 30 := by rw [hT, List.length_map]; omega
      have HT := Lib.hid hT
      clear hT
      have kN : ∀ W : World, Blk (W.alloc (.cells #[.int .i64 0, .int .i64 0, .int .i64 0, .int .i64 0, .int .i64 0, .int .i64 0, .int .i64 0, .int .i64 0, .int .i64 0, .int .i64 0, .int .i64 0, .int .i64 0, .int .i64 0, .int .i64 0, .int .i64 0, .int .i64 0, .int .i64 0, .int .i64 0, .int .i64 0, .int .i64 0, .int .i64 0, .int .i64 0, .int .i64 0, .int .i64 0, .int .i64 0] 128)) W.heap.size 128 (mnA zeroV 0) := fun W => by rw [zmn]; exact Blk.new _ _ _
      have hbM : ∀ W : World, Below W.heap.size W ((W.alloc (.cells #[.int .i64 0, .int .i64 0, .int .i64 0, .int .i64 0, .int .i64 0, .int .i64 0, .int .i64 0, .int .i64 0, .int .i64 0, .int .i64 0, .int .i64 0, .int .i64 0, .int .i64 0, .int .i64 0, .int .i64 0, .int .i64 0, .int .i64 0, .int .i64 0, .int .i64 0, .int .i64 0, .int .i64 0, .int .i64 0, .int .i64 0, .int .i64 0, .int .i64 0] 128)).setRow W.heap.size (mnA zeroV 5)) := fun W => below_setRow (below_new _ _) (Nat.le_refl _) _
      have HBM := Lib.hid hbM
      clear hbM
      have hsl : (srt T).length = T.length := srt_len T
      have HSL := Lib.hid hsl
      clear hsl
      go_wp2_with (first
        | (go_at_call 89; refine (sort_own w1.heap.size A2 c2 T _ hb2.size (by omega) ho2).mono ?_; rintro e w2 ⟨rfl, ho3, hb3⟩; rw [← HSL.out] at ho3 ⊢; have kN2 := kN w2; have ho4 := own_below ho3 (HBM.out w2))
        | (refine stM 11 35 rfl rfl kN2 rfl (v := zeroV) (e := 5) (by kernel_rfl) ?_)
        | (go_at_call 90; refine (compact_own w1.heap.size A2 c2 (srt T) _ (by have := hb2.size; have := hb3.size; have := (HBM.out w2).size; omega) (by rw [HSL.out]; omega) ho4).mono ?_; rintro e w3 ⟨rfl, ho5, hg5⟩))
      have hBl : w2.heap.size < ((w2.alloc (.cells #[.int .i64 0, .int .i64 0, .int .i64 0, .int .i64 0, .int .i64 0, .int .i64 0, .int .i64 0, .int .i64 0, .int .i64 0, .int .i64 0, .int .i64 0, .int .i64 0, .int .i64 0, .int .i64 0, .int .i64 0, .int .i64 0, .int .i64 0, .int .i64 0, .int .i64 0, .int .i64 0, .int .i64 0, .int .i64 0, .int .i64 0, .int .i64 0, .int .i64 0] 128)).setRow w2.heap.size (mnA zeroV 5)).heap.size := by simp
      have hb4 := (hb2.trans hb3).trans ((HBM.out w2).mono (by have := hb2.size; have := hb3.size; omega))
      have hb5 : Below w1.heap.size w1 w3 := hb4.grown hg5 hb4.size (fun i e => (ho4.lt i e).1)
      have k3 : Blk w3 w2.heap.size 128 (mnA zeroV 5) := (kN2.setRow (mnA zeroV 5)).grown hg5 (fun e => by have := (ho3.lt _ e.symm).2; omega)
      have hdd : cmpt (srt T) = days := by rw [HD.out, HT.out]
      rw [hdd] at ho5 ⊢
      have hdl : days.length ≤ 30 := by rw [← hdd]; have := cmpt_len (srt T); rw [HSL.out] at this; omega
      have hI : Ints w3 w2.heap.size A2 days := fun j x hx => by
        obtain ⟨ad, e1, _, hc⟩ := Ints.of_own ho5 j x hx
        subst e1
        rcases ho3.2 with ⟨hv, _⟩ | ⟨g, cp, cur, hv, _⟩
        · cases hv
        · injection hv with hv
          injection hv with hv
          subst hv
          exact ⟨_, rfl, (ho3.lt g rfl).2, hc⟩
      have hw3 : w2.heap.size < w3.heap.size := k3.lt
      obtain ⟨B, hB⟩ : ∃ B, B = w2.heap.size := ⟨_, rfl⟩
      have hB1 : w1.heap.size ≤ B := by have := hb2.size; have := hb3.size; omega
      rw [← hB] at k3 hI hw3 ⊢
      have hr0 : Hid (R = [] ++ chgL M (days.drop 0) (zeroV, 5)) := HR
      clear hBl hb4 hg5 ho4 ho3 kN2 hdd hb2 hb3 ho2 HBM hB ho5
      go_loopw [10, 39] (fun t10 t39 wq => ∃ (k : Nat) (A4 : Option Addr) (c4 : Nat) (out : List Int) (p1 : Nat → Int) (p2 : Int), k ≤ days.length ∧ out.length ≤ k ∧ t39 = .int .i64 k ∧ t10 = .slice A4 out.length c4 ∧ wq.ownsRow w3.heap.size 3 1 (.slice A4 out.length c4) out.length (out.map (Value.int .i64)) ∧ Blk wq B 128 (mnA p1 p2) ∧ Hid (R = out ++ chgL M (days.drop k) (p1, p2)) ∧ Below B w3 wq) (fun _ t39 _ => days.length - (intOf t39).toNat)
      case atStart => exact ⟨0, none, 0, [], zeroV, 5, by omega, by simp, rfl, rfl, own_none _ _ 3, k3, hr0, Below.refl _ _⟩
      case round =>
        obtain ⟨k, A4, c4, out, p1, p2, hk, hol, rfl, rfl, ho6, kB, hRk, hb6⟩ := hrel
        clear k3 hr0
        have hB6 := kB.lt
        have hbw := hb5.trans (hb6.mono hB1)
        have hD6 : Defs wr wr.heap.size A l := (hD1.below hbw).more hbw.size
        by_cases hlt : k < days.length
        · obtain ⟨x, hx⟩ : ∃ x, x = days[k] := ⟨_, rfl⟩
          obtain ⟨ad, rfl, hab, hcell⟩ := hI.get hlt
          have hmem : x ∈ days := hx ▸ List.getElem_mem hlt
          rw [← hx] at hcell
          have hcell3 : wr.cell? (ad.add k) = some (.int .i64 x) := (hb6.cell (by rw [addr_block]; exact hab)).trans hcell
          have hdr : chgL M (days.drop k) (p1, p2) = if sameV (M x).1 p1 && (M x).2 == p2 then chgL M (days.drop (k + 1)) (M x) else x :: chgL M (days.drop (k + 1)) (M x) := by
            rw [List.drop_eq_getElem_cons hlt, ← hx]; rfl
          have hMx := HM.out x hmem
          obtain ⟨V, hV⟩ : ∃ V, V = (M x).1 := ⟨_, rfl⟩
          obtain ⟨E, hE⟩ : ∃ E, E = (M x).2 := ⟨_, rfl⟩
          have hMM : M x = (V, E) := by rw [hV, hE]
          rw [← hV, ← hE, hMM] at hdr
          rw [← hV, ← hE] at hMx
          have HX : Hid (MeanIs l n x V E) := hMx
          have HDR := Lib.hid hdr
          clear hdr hMx hV hE hMM hx hcell
          obtain ⟨q, hq⟩ : ∃ q, q = (sameV V p1 && E == p2) := ⟨_, rfl⟩
          have HQ := Lib.hid hq
          clear hq
          cases q
          · have hR1 : R = (out ++ [x]) ++ chgL M (days.drop (k + 1)) (V, E) := by
              rw [hRk.out, HDR.out, if_neg (by rw [← HQ.out]; simp)]; simp
            have HR1 : Hid (R = (out ++ [x]) ++ chgL M (days.drop (k + 1)) (V, E)) := hR1
            clear hR1
            go_wp2_with (first
            | (go_at_call 86; refine (bookOf_any A cap l x _ (by have := h.len; omega) hD6 h.names).mono ?_; rintro e w4 ⟨m, k2, rfl, hk2, hmw, hm2, hb7⟩)
            | (go_at_call 87; refine (HX.out m k2 _ hk2 hm2).mono ?_; rintro e w5 ⟨rfl, hb8⟩; have kN5 := kN w5; have kB5 := ((kB.below hb7 hB6).below hb8 (by have := hb7.size; omega)); have kB6 := (kB5.alloc (.cells #[.int .i64 0, .int .i64 0, .int .i64 0, .int .i64 0, .int .i64 0, .int .i64 0, .int .i64 0, .int .i64 0, .int .i64 0, .int .i64 0, .int .i64 0, .int .i64 0, .int .i64 0, .int .i64 0, .int .i64 0, .int .i64 0, .int .i64 0, .int .i64 0, .int .i64 0, .int .i64 0, .int .i64 0, .int .i64 0, .int .i64 0, .int .i64 0, .int .i64 0] 128)).farRow (g' := w5.heap.size) (by have := kB5.lt; omega) (mnA V E); have hb7' := below_next hb7 hb7.size hb8; have ho7 := own_below ((own_below ((own_below ho6 hb7')) (below_setRow (below_new w5 (.cells #[.int .i64 0, .int .i64 0, .int .i64 0, .int .i64 0, .int .i64 0, .int .i64 0, .int .i64 0, .int .i64 0, .int .i64 0, .int .i64 0, .int .i64 0, .int .i64 0, .int .i64 0, .int .i64 0, .int .i64 0, .int .i64 0, .int .i64 0, .int .i64 0, .int .i64 0, .int .i64 0, .int .i64 0, .int .i64 0, .int .i64 0, .int .i64 0, .int .i64 0] 128)) (Nat.le_refl _) (mnA V E)))) (below_new _ (.cells #[.int .i64 x] 3)); have kI : Blk (((w5.alloc (.cells #[.int .i64 0, .int .i64 0, .int .i64 0, .int .i64 0, .int .i64 0, .int .i64 0, .int .i64 0, .int .i64 0, .int .i64 0, .int .i64 0, .int .i64 0, .int .i64 0, .int .i64 0, .int .i64 0, .int .i64 0, .int .i64 0, .int .i64 0, .int .i64 0, .int .i64 0, .int .i64 0, .int .i64 0, .int .i64 0, .int .i64 0, .int .i64 0, .int .i64 0] 128)).setRow w5.heap.size (mnA V E)).alloc (.cells #[.int .i64 x] 3)) (w5.heap.size + 1) 3 #[.int .i64 x] := Blk.newAt (by simp))
            | (refine stM 14 47 rfl rfl kN5 rfl (v := V) (e := E) rfl ?_)
            | (refine ldM 14 rfl rfl (kN5.setRow _) rfl ?_)
            | (refine ldM 11 rfl rfl kB6 rfl ?_)
            | (refine wpl_neqM rfl (.tmp 48) (.tmp 49) _ rfl V p1 E p2 rfl rfl ?_; rw [← HQ.out])
            | (refine wpl_appN rfl (.tmp 51) (.tmp 53) rfl w3.heap.size (.slice A4 out.length c4) out x rfl ho7 (w5.heap.size + 1) rfl (kI.cell 0) (by omega) (by have := hb6.size; have := hb7'.size; simp; omega) ?_; intro g8 c8 w8 ho8 hb8' hg8; have kN8 := ((kN5.setRow (mnA V E)).alloc (.cells #[.int .i64 x] 3)).grown hg8 (fun e => by have := (ho6.lt _ e.symm).2; have := hb7'.size; omega); have kB8 := (kB6.alloc (.cells #[.int .i64 x] 3)).grown hg8 (fun e => by have := (ho6.lt _ e.symm).1; omega))
            | (refine ldM 14 rfl rfl kN8 rfl ?_)
            | (refine stM 11 55 rfl rfl kB8 rfl (v := V) (e := E) rfl ?_))
            have hb10 := ((below_setRow ((below_next hb6 (by have := hb6.size; omega) hb7').alloc (by have := hb7'.size; have := hb6.size; omega) (.cells #[.int .i64 0, .int .i64 0, .int .i64 0, .int .i64 0, .int .i64 0, .int .i64 0, .int .i64 0, .int .i64 0, .int .i64 0, .int .i64 0, .int .i64 0, .int .i64 0, .int .i64 0, .int .i64 0, .int .i64 0, .int .i64 0, .int .i64 0, .int .i64 0, .int .i64 0, .int .i64 0, .int .i64 0, .int .i64 0, .int .i64 0, .int .i64 0, .int .i64 0] 128)) (g := w5.heap.size) (by have := hb7'.size; have := hb6.size; omega) (mnA V E)).alloc (by have := hb7'.size; have := hb6.size; simp; omega) (.cells #[.int .i64 x] 3)).trans (hb8'.mono (Nat.le_of_lt hw3))
            go_roundw
            case rel => exact ⟨k + 1, some ⟨g8, 0, none⟩, c8, out ++ [x], V, E, by omega, by simp; omega, by go_num, by simp, own_setRow ho8 hw3 _, kB8.setRow _, HR1, below_setRow hb10 (Nat.le_refl _) _⟩
            case measure => simp [intOf]; omega
          · have hR1 : R = out ++ chgL M (days.drop (k + 1)) (V, E) := by
              rw [hRk.out, HDR.out, if_pos (by rw [← HQ.out])]
            have HR1 : Hid (R = out ++ chgL M (days.drop (k + 1)) (V, E)) := hR1
            clear hR1
            go_wp2_with (first
            | (go_at_call 86; refine (bookOf_any A cap l x _ (by have := h.len; omega) hD6 h.names).mono ?_; rintro e w4 ⟨m, k2, rfl, hk2, hmw, hm2, hb7⟩)
            | (go_at_call 87; refine (HX.out m k2 _ hk2 hm2).mono ?_; rintro e w5 ⟨rfl, hb8⟩; have kN5 := kN w5; have kB5 := ((kB.below hb7 hB6).below hb8 (by have := hb7.size; omega)); have kB6 := (kB5.alloc (.cells #[.int .i64 0, .int .i64 0, .int .i64 0, .int .i64 0, .int .i64 0, .int .i64 0, .int .i64 0, .int .i64 0, .int .i64 0, .int .i64 0, .int .i64 0, .int .i64 0, .int .i64 0, .int .i64 0, .int .i64 0, .int .i64 0, .int .i64 0, .int .i64 0, .int .i64 0, .int .i64 0, .int .i64 0, .int .i64 0, .int .i64 0, .int .i64 0, .int .i64 0] 128)).farRow (g' := w5.heap.size) (by have := kB5.lt; omega) (mnA V E); have hb7' := below_next hb7 hb7.size hb8)
            | (refine stM 14 47 rfl rfl kN5 rfl (v := V) (e := E) rfl ?_)
            | (refine ldM 14 rfl rfl (kN5.setRow _) rfl ?_)
            | (refine ldM 11 rfl rfl kB6 rfl ?_)
            | (refine wpl_neqM rfl (.tmp 48) (.tmp 49) _ rfl V p1 E p2 rfl rfl ?_; rw [← HQ.out])
            | (refine stM 11 55 rfl rfl kB6 rfl (v := V) (e := E) rfl ?_))
            have ho7 := own_below (own_below ho6 hb7') (below_setRow (below_new w5 (.cells #[.int .i64 0, .int .i64 0, .int .i64 0, .int .i64 0, .int .i64 0, .int .i64 0, .int .i64 0, .int .i64 0, .int .i64 0, .int .i64 0, .int .i64 0, .int .i64 0, .int .i64 0, .int .i64 0, .int .i64 0, .int .i64 0, .int .i64 0, .int .i64 0, .int .i64 0, .int .i64 0, .int .i64 0, .int .i64 0, .int .i64 0, .int .i64 0, .int .i64 0] 128)) (Nat.le_refl _) (mnA V E))
            have hb10 := below_setRow ((below_next hb6 (by have := hb6.size; omega) hb7').alloc (by have := hb7'.size; have := hb6.size; omega) (.cells #[.int .i64 0, .int .i64 0, .int .i64 0, .int .i64 0, .int .i64 0, .int .i64 0, .int .i64 0, .int .i64 0, .int .i64 0, .int .i64 0, .int .i64 0, .int .i64 0, .int .i64 0, .int .i64 0, .int .i64 0, .int .i64 0, .int .i64 0, .int .i64 0, .int .i64 0, .int .i64 0, .int .i64 0, .int .i64 0, .int .i64 0, .int .i64 0, .int .i64 0] 128)) (g := w5.heap.size) (by have := hb7'.size; have := hb6.size; omega) (mnA V E)
            go_roundw
            case rel => exact ⟨k + 1, A4, c4, out, V, E, by omega, by omega, by go_num, rfl, own_setRow ho7 hw3 _, kB6.setRow _, HR1, below_setRow hb10 (Nat.le_refl _) _⟩
            case measure => simp [intOf]; omega
        · obtain rfl : k = days.length := by omega
          go_wp2_with fail
          go_ret2
          have e : R = out := by rw [hRk.out, List.drop_length]; simp [chgL]
          rw [e]
          exact ⟨A4, c4, rfl, ho6.mono (by have := hb1.size; omega), below_next hb1 hb1.size hbw⟩
end Go.Proofs.YtbhiphjifdnhmaaGreatDoor
