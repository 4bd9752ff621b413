import Derived.Test.YtieclenlldjfjaaGreatM1
set_option linter.unusedSimpArgs false
set_option linter.unusedVariables false
/- Rounds, step by step; lists of numbers as cells. -/
namespace Go.Proofs.YtieclenlldjfjaaGreat
open Go.RowKit

theorem fold_next {l : List Mkg} {k : Nat} (hk : k < l.length) (out : List Int) : (l.take (k + 1)).foldl relax out = relax ((l.take k).foldl relax out) l[k] := by
  rw [List.take_succ_eq_append_getElem hk, List.foldl_append]
  rfl
theorem fold_bd {N : Nat} : ∀ {ms : List Mkg} {out : List Int}, out.length = N → Bd out → (∀ m ∈ ms, Fit N m) → Bd (ms.foldl relax out)
  | [], _, _, hb, _ => hb
  | m :: ms, out, hl, hb, hf => by
    rw [List.foldl_cons]
    exact fold_bd (out := relax out m) (by rw [relax_len]; exact hl) (relax_bd hl hb (hf m (by simp))) fun x hx => hf x (by simp [hx])
theorem fold_pot {N : Nat} (hN : N ≤ 12) : ∀ {ms : List Mkg} {out : List Int}, out.length = N → Bd out → (∀ m ∈ ms, Fit N m) → ms.foldl relax out = out ∨ pot (ms.foldl relax out) < pot out
  | [], _, _, _, _ => .inl rfl
  | m :: ms, out, hl, hb, hf => by
    have h1 := relax_pot hN hl hb (hf m (by simp))
    have h2 := fold_pot hN (ms := ms) (out := relax out m) (by rw [relax_len]; exact hl) (relax_bd hl hb (hf m (by simp))) fun x hx => hf x (by simp [hx])
    rw [List.foldl_cons]
    rcases h1 with h1 | h1
    · rw [h1] at h2 ⊢; exact h2
    · rcases h2 with h2 | h2
      · rw [h2]; exact .inr h1
      · exact .inr (by omega)

/-- a state of the search -/
structure StOk (N : Nat) (out : List Int) : Prop where
  len : out.length = N
  bd : Bd out
theorem StOk.fold {N : Nat} {out : List Int} (h : StOk N out) {ms : List Mkg} (hf : ∀ m ∈ ms, Fit N m) : StOk N (ms.foldl relax out) :=
  ⟨by rw [foldl_len]; exact h.len, fold_bd h.len h.bd hf⟩
theorem StOk.iter {N : Nat} {out : List Int} (h : StOk N out) {ms : List Mkg} (hf : ∀ m ∈ ms, Fit N m) : ∀ j, StOk N (iter ms out j)
  | 0 => h
  | j + 1 => (StOk.iter h hf j).fold hf
theorem StOk.start (N : Nat) : StOk N (List.replicate N (-1)) := by
  refine ⟨by simp, fun x hx => ?_, fun x hx => ?_⟩
  · rw [List.eq_of_mem_replicate hx]; omega
  · rw [List.eq_of_mem_replicate hx]; have := pow_pos3 (defs (List.replicate N (-1))); omega
theorem StOk.le {N : Nat} {out : List Int} (h : StOk N out) (hN : N ≤ 12) {x : Int} (hx : x ∈ out) : -1 ≤ x ∧ x ≤ 531441 := by
  refine ⟨h.bd.low x hx, ?_⟩
  have h1 := h.bd.high x hx
  have h2 := pow_mono3 (show defs out ≤ 12 by have := defs_le out; have := h.len; omega)
  have e : (3 : Int) ^ 12 = 531441 := by decide
  omega
/-- what changes a state, changes it for the whole round -/
theorem fold_moved {N : Nat} (hN : N ≤ 12) {out0 : List Int} (h : StOk N out0) {ms : List Mkg} (hf : ∀ m ∈ ms, Fit N m) {m : Mkg} (hm : Fit N m)
    (hc : relax (ms.foldl relax out0) m ≠ ms.foldl relax out0) : relax (ms.foldl relax out0) m ≠ out0 := by
  intro e
  have h1 := fold_pot hN h.len h.bd hf
  have h2 := relax_pot hN (h.fold hf).len (h.fold hf).bd hm
  rcases h2 with h2 | h2
  · exact hc h2
  · rw [e] at h2
    rcases h1 with h1 | h1
    · rw [h1] at h2; omega
    · omega
theorem relax_yes {N : Nat} (hN : N ≤ 12) {out : List Int} (h : StOk N out) {m : Mkg} (hm : Fit N m) (hok : okL out m.items = true) (hlt : out.getD (m.sym - 1).toNat (-1) < 0 ∨ sumL out m.items < out.getD (m.sym - 1).toNat (-1)) :
    relax out m = out.set (m.sym - 1).toNat (sumL out m.items) ∧ relax out m ≠ out := by
  have e : relax out m = out.set (m.sym - 1).toNat (sumL out m.items) := if_pos ⟨hok, hlt⟩
  refine ⟨e, fun h2 => ?_⟩
  have h0 := sum_nonneg hok
  have hi : (m.sym - 1).toNat < out.length := by have := hm.1; have := hm.2.1; have := h.len; omega
  rw [e] at h2
  have : (out.set (m.sym - 1).toNat (sumL out m.items)).getD (m.sym - 1).toNat (-1) = sumL out m.items := by
    rw [List.getD_eq_getElem?_getD, List.getElem?_set_self hi]; rfl
  rw [h2] at this
  omega
theorem relax_no {out : List Int} {m : Mkg} (h : ¬ (okL out m.items = true ∧ (out.getD (m.sym - 1).toNat (-1) < 0 ∨ sumL out m.items < out.getD (m.sym - 1).toNat (-1)))) : relax out m = out := if_neg h

theorem sum_next {out l : List Int} {k : Nat} (hk : k < l.length) : sumL out (l.take (k + 1)) = sumL out (l.take k) + val out l[k] := by
  unfold sumL
  rw [List.take_succ_eq_append_getElem hk, List.map_append, List.sum_append]
  simp
theorem ok_next {out l : List Int} {k : Nat} (hk : k < l.length) : okL out (l.take (k + 1)) = (okL out (l.take k) && decide (0 ≤ val out l[k])) := by
  unfold okL
  rw [List.take_succ_eq_append_getElem hk, List.all_append]
  simp

theorem val_bound {N : Nat} {out : List Int} (h : StOk N out) (hN : N ≤ 12) (n : Int) : -1 ≤ val out n ∧ val out n ≤ 531441 := by
  unfold val
  split
  · omega
  · rw [List.getD_eq_getElem?_getD]
    cases h2 : out[(n - 1).toNat]? with
    | none => simp
    | some x => exact h.le hN (List.mem_of_getElem? h2)
theorem sum_bound {N : Nat} {out : List Int} (h : StOk N out) (hN : N ≤ 12) : ∀ l : List Int, -(l.length : Int) ≤ sumL out l ∧ sumL out l ≤ 531441 * (l.length : Int)
  | [] => by simp [sumL]
  | n :: l => by
    have ih := sum_bound h hN l
    have := val_bound h hN n
    simp only [sumL, List.map_cons, List.sum_cons, List.length_cons] at ih ⊢
    omega

/-- a flag as a number -/
def vN : Value → Nat | .bool true => 1 | _ => 0

/-- numbers as cells -/
def nums (l : List Int) : Array Value := (l.map (Value.int .i64)).toArray
theorem nums_get {l : List Int} {k : Nat} (hk : k < l.length) : (nums l)[k]? = some (.int .i64 l[k]) := by simp [nums, hk]
theorem nums_set (l : List Int) (k : Nat) (v : Int) : (nums l).setIfInBounds k (.int .i64 v) = nums (l.set k v) := by
  apply Array.toList_inj.1
  simp [nums]
theorem nums_size (l : List Int) : (nums l).size = l.length := by simp [nums]
theorem nums_inj {l m : List Int} (h : nums l = nums m) : l = m := by
  have := congrArg Array.toList h
  simp only [nums] at this
  exact List.map_inj_right (fun a b e => by injection e) |>.1 this

/-- the numbers of a block -/
def readW (g : Nat) (w : World) : List Int := match w.heap[g]? with
  | some (.cells cs _ _) => cs.toList.map fun v => match v with | .int _ n => n | _ => 0
  | _ => []
theorem readW_eq {g : Nat} {w : World} {t : TypeId} {l : List Int} (h : Blk w g t (nums l)) : readW g w = l := by
  unfold Blk at h
  unfold readW
  rw [h]
  show (nums l).toList.map (fun v => match v with | .int _ n => n | _ => 0) = l
  simp only [nums]
  rw [List.map_map]
  conv => rhs; rw [← List.map_id l]
  exact List.map_congr_left fun x _ => rfl
end Go.Proofs.YtieclenlldjfjaaGreat
