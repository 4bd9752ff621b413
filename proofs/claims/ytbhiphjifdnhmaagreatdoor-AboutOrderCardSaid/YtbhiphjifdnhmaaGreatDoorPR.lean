import Derived.Test.YtbhiphjifdnhmaaGreatDoorPQ
import Derived.Test.YtbhiphjifdnhmaaGreatDoorPB
set_option linter.unusedSimpArgs false
set_option linter.unusedVariables false
/- Rows of definitions of one's own, and appends to them; in. -/
namespace Go.Proofs.YtbhiphjifdnhmaaGreatDoor
open Go.RowKit Go.Maps
/-- definitions in a row of one's own -/
def OwnD (w : World) (base : Nat) (A : Option Addr) (c : Nat) (l : List Df) : Prop := w.ownsRow base 60 29 (.slice A l.length c) l.length (dfCells l)
theorem OwnD.nil (w : World) (base : Nat) : OwnD w base none 0 [] := ⟨rfl, .inl ⟨rfl, rfl⟩⟩
theorem OwnD.below {w w' : World} {base : Nat} {A : Option Addr} {c : Nat} {l : List Df} (h : OwnD w base A c l) (hb : Below w.heap.size w w') : OwnD w' base A c l := own_below h hb
theorem OwnD.kept {w w' : World} {base : Nat} {A : Option Addr} {c : Nat} {l : List Df} {row : Option Nat} (h : OwnD w base A c l) (hg : w.grownBy w' row) (hne : blkOf A = none ∨ blkOf A ≠ row) : OwnD w' base A c l :=
  World.ownsRow.kept h hg (by rw [blkOf_own]; exact hne)
theorem OwnD.caps {w : World} {base : Nat} {A : Option Addr} {c : Nat} {l : List Df} (h : OwnD w base A c l) : l.length ≤ c ∧ c ≤ maxLen := by
  obtain ⟨A', c', e, h1, h2⟩ := own_form h
  cases e
  exact ⟨h1, h2⟩
theorem OwnD.lt {w : World} {base : Nat} {A : Option Addr} {c : Nat} {l : List Df} (h : OwnD w base A c l) {g : Nat} (e : blkOf A = some g) : base ≤ g ∧ g < w.heap.size :=
  World.ownsRow.lt h g (by rw [blkOf_own]; exact e)
theorem OwnD.defs {w : World} {base : Nat} {A : Option Addr} {c : Nat} {l : List Df} (h : OwnD w base A c l) : Defs w w.heap.size A l := by
  intro k d hd
  have h0 := h
  rcases h.2 with ⟨hv, hl⟩ | ⟨g, cap, cur, hv, _⟩
  · have hl : l = [] := List.eq_nil_of_length_eq_zero hl
    subst hl
    simp at hd
  · injection hv with hA
    subst hA
    refine ⟨g, 0, rfl, (h0.lt rfl).2, fun j v hj => ?_⟩
    have := DefsAt.of_own h0 k d hd j v hj
    rwa [show 0 + k * 29 + j = k * 29 + j by omega]
/-- 'l = append(l, d)' at the operation -/
theorem wp_appO {o : Oper} {a : Act} {K : Act → World → Prop} {Q : Exit → Act → World → Prop} {w : World} (s x : Operand)
    (ho : o.op = .call { callee := .builtin .append, args := #[s, x], argTypes := #[58, 58] }) {base : Nat} {A : Option Addr} {c : Nat} {l : List Df} (hown : OwnD w base A c l) (d : Df)
    (hs : a.eval s = .slice A l.length c) (g : Nat) (hx : a.eval x = .slice (some ⟨g, 0, none⟩) 1 1) (hg : Blk w g 60 (dfA d)) (hl : l.length ≤ 1000000) (hbase : base ≤ w.heap.size)
    (h : ∀ A' c' w', OwnD w' base A' c' (l ++ [d]) → w.grownBy w' (blkOf A) → (blkOf A' = blkOf A ∨ blkOf A' = some w.heap.size) → Below base w w' → K (a.put o.dst (.slice A' (l ++ [d]).length c')) w') :
    o.wp Tryz.prog a w K Q := by
  refine wp_appD s x ho base (.slice A l.length c) l d hs hown g hx hg hl hbase fun g' c' w' h1 h2 h3 => ?_
  rw [blkOf_own] at h2 h3
  refine h _ c' w' h1 h2 ?_ ((Below.refl base w).grown h2 hbase fun i e => (hown.lt e).1)
  rcases h3 with h3 | h3
  · exact .inl h3
  · exact .inr (by rw [h3]; rfl)
theorem wpl_appO {ops : Array Oper} {rest : List Oper} {o : Oper} {a : Act} {Q : Exit → Act → World → Prop} {w : World} (hgd : o.guard = none) (s x : Operand)
    (ho : o.op = .call { callee := .builtin .append, args := #[s, x], argTypes := #[58, 58] }) {base : Nat} {A : Option Addr} {c : Nat} {l : List Df} (hown : OwnD w base A c l) (d : Df)
    (hs : a.eval s = .slice A l.length c) (g : Nat) (hx : a.eval x = .slice (some ⟨g, 0, none⟩) 1 1) (hg : Blk w g 60 (dfA d)) (hl : l.length ≤ 1000000) (hbase : base ≤ w.heap.size)
    (h : ∀ A' c' w', OwnD w' base A' c' (l ++ [d]) → w.grownBy w' (blkOf A) → (blkOf A' = blkOf A ∨ blkOf A' = some w.heap.size) → Below base w w' → wpList Tryz.prog ops Q rest (a.put o.dst (.slice A' (l ++ [d]).length c')) w') :
    wpList Tryz.prog ops Q (o :: rest) a w :=
  wpList_plain hgd fun _ hK => wp_appO s x ho hown d hs g hx hg hl hbase fun A' c' w' h1 h2 h3 h4 => hK _ _ (h A' c' w' h1 h2 h3 h4)
theorem wpl_bldO {ops : Array Oper} {rest : List Oper} {o : Oper} {a : Act} {Q : Exit → Act → World → Prop} {w : World} (hgd : o.guard = none) (x : Operand) (ho : o.op = .buildSlice 58 1 #[(0, x)]) (d : Df) (hx : a.eval x = .agg (dfA d))
    (h : wpList Tryz.prog ops Q rest (a.put o.dst (.slice (some ⟨w.heap.size, 0, none⟩) 1 1)) (w.alloc (.cells (dfA d) 60))) : wpList Tryz.prog ops Q (o :: rest) a w :=
  wpList_plain hgd fun _ hK => wp_build1 x ho d hx (hK _ _ h)
theorem run_build0D (w : World) : (Instr.buildSlice 58 0 #[]).run Tryz.prog w = .ok (.slice (some ⟨w.heap.size, 0, none⟩) 0 0) (w.alloc (.cells #[] 60)) := by
  simp [go_sem]
/-- '[]Define{}' at the operation -/
theorem wp_build0O {o : Oper} {a : Act} {K : Act → World → Prop} {Q : Exit → Act → World → Prop} {w : World} (ho : o.op = .buildSlice 58 0 #[]) (base : Nat) (hb : base ≤ w.heap.size)
    (h : ∀ w', OwnD w' base (some ⟨w.heap.size, 0, none⟩) 0 [] → Below w.heap.size w w' → w'.heap.size = w.heap.size + 1 → K (a.put o.dst (.slice (some ⟨w.heap.size, 0, none⟩) ([] : List Df).length 0)) w') : o.wp Tryz.prog a w K Q := by
  unfold Oper.wp
  simp [execOp, ho, run_build0D, Result.andThen]
  refine h (w.alloc (.cells #[] 60)) ⟨rfl, .inr ⟨w.heap.size, 0, #[], rfl, hb, ?_, Nat.le_refl _, by simp [maxLen], rfl, rfl⟩⟩ ((Below.refl _ _).alloc (Nat.le_refl _) _) (by simp)
  exact heap_alloc_new w _
/-- '[]Define{d}' at the operation -/
theorem wp_build1O {o : Oper} {a : Act} {K : Act → World → Prop} {Q : Exit → Act → World → Prop} {w : World} (x : Operand) (ho : o.op = .buildSlice 58 1 #[(0, x)]) (d : Df) (hx : a.eval x = .agg (dfA d))
    (h : ∀ w', Blk w' w.heap.size 60 (dfA d) → Below w.heap.size w w' → w'.heap.size = w.heap.size + 1 → K (a.put o.dst (.slice (some ⟨w.heap.size, 0, none⟩) 1 1)) w') : o.wp Tryz.prog a w K Q :=
  wp_build1 x ho d hx (h _ (Blk.new w 60 (dfA d)) (below_new w _) (by simp))
theorem dfCells_at {l : List Df} {j : Nat} {v : Value} (h : (dfCells l)[j]? = some v) : ∃ d, l[j / 29]? = some d ∧ (dfL d)[j % 29]? = some v := by
  have hj := (List.getElem?_eq_some_iff.1 h).1
  rw [dfCells_len] at hj
  have hk : j / 29 < l.length := by omega
  refine ⟨l[j / 29], List.getElem?_eq_getElem hk, ?_⟩
  have hm : j % 29 < (dfL l[j / 29]).length := by rw [dfL_len]; omega
  have := dfCells_get l (j / 29) (j % 29) l[j / 29] _ (List.getElem?_eq_getElem hk) (List.getElem?_eq_getElem hm)
  rw [show j / 29 * 29 + j % 29 = j by omega, h] at this
  rw [List.getElem?_eq_getElem hm]
  exact this.symm
theorem dfCells_one (l : List Df) : ∀ u ∈ dfCells l, u.oneCell' = true := by
  intro u hu
  obtain ⟨d, _, hd⟩ := List.mem_flatMap.1 hu
  exact dfL_one d u hd
set_option maxRecDepth 100000 in
/-- 'append([]Define{}, m...)' at the operation -/
theorem wp_appDs {o : Oper} {a : Act} {K : Act → World → Prop} {Q : Exit → Act → World → Prop} {w : World} (s x : Operand)
    (ho : o.op = .call { callee := .builtin .append, args := #[s, x], argTypes := #[58, 58] }) {base : Nat} {A : Option Addr} (hown : OwnD w base A 0 []) (m : List Df) {A2 : Option Addr} {c2 : Nat} (hD : Defs w w.heap.size A2 m)
    (hs : a.eval s = .slice A ([] : List Df).length 0) (hx : a.eval x = .slice A2 m.length c2) (hm : 0 < m.length) (hl : m.length ≤ 1000000) (hbase : base ≤ w.heap.size)
    (h : ∀ A' c' w', OwnD w' base A' c' m → w.grownBy w' (blkOf A) → Below base w w' → K (a.put o.dst (.slice A' m.length c')) w') :
    o.wp Tryz.prog a w K Q := by
  obtain ⟨i, z, hi, hz, hzs, h1, h2⟩ := df_parts
  obtain ⟨g, ao, rfl, _, _⟩ := hD 0 m[0] (List.getElem?_eq_getElem hm)
  obtain ⟨v', w', hr, q1, q2, _, q4⟩ := run_append_own_at (P := Tryz.prog) w base 58 o.type 60 i z 29 256 Tryz.underlying58 hi hz h1 h2 hzs (by decide) (.slice A ([] : List Df).length 0) 0 (dfCells []) hown ⟨g, ao, none⟩ m.length c2 (dfCells m) (dfCells_len m) (fun j u hj => by
      obtain ⟨d, hd1, hd2⟩ := dfCells_at hj
      obtain ⟨g', ao', e, _, hc⟩ := hD _ d hd1
      cases e
      have := hc _ u hd2
      rw [← this]
      congr 1
      unfold Addr.add
      split
      · rename_i h0; subst h0; rfl
      · congr 1
        show ao + j = ao + j / 29 * 29 + j % 29
        omega) (dfCells_one m) (by simp only [maxLen]; omega) (by omega) hbase
  have q1' : w'.ownsRow base 60 29 v' m.length (dfCells m) := by
    have := q1
    rw [Nat.zero_add, show dfCells [] ++ dfCells m = dfCells m by simp [dfCells]] at this
    exact this
  obtain ⟨g', c', rfl, _⟩ := own_shape q1' hm
  rw [blkOf_own] at q2
  unfold Oper.wp execOp
  simp only [ho, resolve, invoke, builtin, Sem.run_bind, Sem.run_pure, Result.andThen_ok, List.map_toArray, List.map_cons, List.map_nil, hs, hx, hr]
  exact h _ c' w' q1' q2 ((Below.refl base w).grown q2 hbase fun i e => (hown.lt e).1)
theorem Defs.rowO {w : World} {B g o : Nat} {l : List Df} {i : Nat} {d : Df} (h : Defs w B (some ⟨g, o, none⟩) l) (hd : l[i]? = some d) : w.rangeAt g (o + i * 29) (dfL d) := by
  obtain ⟨g', o', e, _, hc⟩ := h i d hd
  cases e
  exact hc
/-- what a law's walk carries from world to world -/
structure St (w0 : World) (A : Option Addr) (l : List Df) (ev : Value) (w : World) : Prop where
  below : Below w0.heap.size w0 w
  defs : Defs w w.heap.size A l
  err : ErrAt w ev
  pos : 0 < w.heap.size
theorem St.next {w0 : World} {A : Option Addr} {l : List Df} {ev : Value} {w w' : World} (h : St w0 A l ev w) (hb : Below w.heap.size w w') : St w0 A l ev w' :=
  ⟨below_next h.below h.below.size hb, h.defs.behind hb, h.err.fr (m := 0) h.pos hb, Nat.lt_of_lt_of_le h.pos hb.size⟩
theorem St.drewN {w0 : World} {A : Option Addr} {l : List Df} {ev : Value} {w : World} (h : St w0 A l ev w) (n : Nat) : St w0 A l ev (w.drewN n) := ⟨below_drewN h.below n, h.defs, h.err, h.pos⟩
theorem St.begin {A : Option Addr} {l : List Df} {ev : Value} {w : World} (hD : Defs w w.heap.size A l) (hE : ErrAt w ev) (h0 : 0 < w.heap.size) : St w A l ev w := ⟨Below.refl _ _, hD, hE, h0⟩
/-- two days that are the same, compared -/
theorem wpl_sameG {ops : Array Oper} {rest : List Oper} {o : Oper} {a : Act} {w : World} {Q : Exit → Act → World → Prop} (hgd : Region.wanted o (yielded ops a.tmps) = true) (x y : Operand) (t : TypeId) (ho : o.op = .binOp .eql 26 x y t) (v : Nat → Int) (hx : a.eval x = .agg (va v)) (hy : a.eval y = .agg (va v))
    (h : wpList Tryz.prog ops Q rest (a.put o.dst (.bool true)) w) : wpList Tryz.prog ops Q (o :: rest) a w :=
  wpList_step fun _ hK => by
    rw [if_pos hgd]
    unfold Oper.wp execOp
    simp only [ho, hx, hy, Sem.run_bind, guard26, run_eq26, sameV_self, Result.andThen_ok, Sem.run_pure]
    exact hK _ _ h
theorem wpl_diffG {ops : Array Oper} {rest : List Oper} {o : Oper} {a : Act} {w : World} {Q : Exit → Act → World → Prop} (hgd : Region.wanted o (yielded ops a.tmps) = true) (x y : Operand) (t : TypeId) (ho : o.op = .binOp .neq 26 x y t) (v : Nat → Int) (hx : a.eval x = .agg (va v)) (hy : a.eval y = .agg (va v))
    (h : wpList Tryz.prog ops Q rest (a.put o.dst (.bool false)) w) : wpList Tryz.prog ops Q (o :: rest) a w :=
  wpList_step fun _ hK => by
    rw [if_pos hgd]
    unfold Oper.wp execOp
    simp only [ho, hx, hy, Sem.run_bind, guard26, run_ne26, sameV_self, Result.andThen_ok, Sem.run_pure, Bool.not_true]
    exact hK _ _ h
set_option maxRecDepth 100000 in
set_option maxHeartbeats 1000000 in
theorem lawIn_any (A : Option Addr) (c B : Nat) (l : List ByteArray) (s : ByteArray) (w : World) (hl : l.length ≤ 1000000) (hA : Strs w B A l) :
    Calls Tryz.prog 36 #[.slice A l.length c, .string s] w fun e w' => e = .returned (.bool (l.any fun x => decide (x = s))) ∧ w = w' := by
  obtain ⟨R, hR⟩ : ∃ R, R = l.any fun x => decide (x = s) := ⟨_, rfl⟩
  rw [← hR]
  have hR0 : Hid (R = (l.drop 0).any fun x => decide (x = s)) := Lib.hid hR
  clear hR
  go_enter Tryz.func36, Tryz.ntmps36
  go_wp2_with fail
  go_loopw [5] (fun t5 wq => ∃ k : Nat, k ≤ l.length ∧ t5 = .int .i64 k ∧ Hid (R = (l.drop k).any fun x => decide (x = s)) ∧ w = wq) (fun t5 _ => l.length - (intOf t5).toNat)
  case atStart => exact ⟨0, by omega, rfl, hR0, rfl⟩
  case round =>
    obtain ⟨k, hk, rfl, HRk, rfl⟩ := hrel
    clear hR0
    by_cases hlt : k < l.length
    · obtain ⟨ad, rfl, hab, hcell⟩ := hA.get hlt
      obtain ⟨x, hx⟩ : ∃ x, x = l[k] := ⟨_, rfl⟩
      have hdr : ((l.drop k).any fun x => decide (x = s)) = (decide (x = s) || (l.drop (k + 1)).any fun x => decide (x = s)) := by rw [List.drop_eq_getElem_cons hlt, ← hx]; rfl
      rw [← hx] at hcell
      rw [hdr] at HRk
      have hq : IntKind.i64.wrap ((k : Int) + 1) = (k : Int) + 1 := IntWalk.i64_in _ (by omega)
      clear hdr hx
      by_cases he : x = s
      · have HR1 := Lib.hid (show R = true by rw [HRk.out, decide_eq_true he]; rfl)
        rw [he] at hcell
        go_wp2_with fail
        go_ret
        exact ⟨ret_bool HR1.out.symm, rfl⟩
      · have HR1 := Lib.hid (show R = (l.drop (k + 1)).any fun x => decide (x = s) by rw [HRk.out, decide_eq_false he]; rfl)
        have hnl : ¬ x.toList = s.toList := fun e => he (bytes_eq (by rwa [ByteArray.toList_eq, ByteArray.toList_eq] at e))
        have hnb : (x.toList == s.toList) = false := beq_eq_false_iff_ne.2 hnl
        go_wp2_with fail
        go_roundw
        case rel => exact ⟨k + 1, by omega, by go_num, HR1, trivial⟩
        case measure => simp [intOf]; omega
    · obtain rfl : k = l.length := by omega
      have HR0 := Lib.hid (show R = false by rw [HRk.out, List.drop_length]; rfl)
      go_wp2_with fail
      go_ret
      exact ⟨ret_bool HR0.out.symm, rfl⟩
end Go.Proofs.YtbhiphjifdnhmaaGreatDoor
