import Derived.Test.YtieclenlldjfjaaGreatM2
set_option linter.unusedSimpArgs false
set_option linter.unusedVariables false
/- Plain mathematics: which symbols a tree of Start has, by rounds over the makings. -/
namespace Go.Proofs.YtieclenlldjfjaaGreat

section
variable {S T : Type} {f : S → T → S} {pot : S → Nat}
/-- steps that change nothing, or bring a number down -/
def Down (f : S → T → S) (pot : S → Nat) : Prop := ∀ s t, f s t = s ∨ pot (f s t) < pot s
theorem Down.fold (h : Down f pot) : ∀ (l : List T) (s : S), l.foldl f s = s ∨ pot (l.foldl f s) < pot s
  | [], _ => .inl rfl
  | t :: l, s => by
    rw [List.foldl_cons]
    rcases h s t with h1 | h1
    · rw [h1]; exact h.fold l s
    · rcases h.fold l (f s t) with h2 | h2
      · rw [h2]; exact .inr h1
      · exact .inr (by omega)
theorem Down.le (h : Down f pot) (l : List T) (s : S) : pot (l.foldl f s) ≤ pot s := by
  rcases h.fold l s with h1 | h1
  · rw [h1]; exact Nat.le_refl _
  · omega
end

/-- the symbol of an item is marked -/
def mark (u : List Bool) (n : Int) : List Bool := if 0 < n then u.set (n - 1).toNat true else u
def useM (X : List Int) (u : List Bool) (m : Mkg) : List Bool := if u.getD (m.sym - 1).toNat false = true ∧ okL X m.items = true then m.items.foldl mark u else u
def useR (X : List Int) (ms : List Mkg) (u : List Bool) : List Bool := ms.foldl (useM X) u
def useI (X : List Int) (ms : List Mkg) (u : List Bool) : Nat → List Bool
  | 0 => u
  | j + 1 => useR X ms (useI X ms u j)
/-- how many are not marked -/
def open_ (u : List Bool) : Nat := (u.filter fun b => !b).length

theorem mark_len (u : List Bool) (n : Int) : (mark u n).length = u.length := by unfold mark; split <;> simp
theorem marks_len : ∀ (l : List Int) (u : List Bool), (l.foldl mark u).length = u.length
  | [], _ => rfl
  | n :: l, u => by rw [List.foldl_cons, marks_len l, mark_len]
theorem useM_len (X : List Int) (u : List Bool) (m : Mkg) : (useM X u m).length = u.length := by unfold useM; split <;> simp [marks_len]
theorem useR_len (X : List Int) : ∀ (ms : List Mkg) (u : List Bool), (ms.foldl (useM X) u).length = u.length
  | [], _ => rfl
  | m :: ms, u => by rw [List.foldl_cons, useR_len X ms, useM_len]
theorem useI_len (X : List Int) (ms : List Mkg) (u : List Bool) : ∀ j, (useI X ms u j).length = u.length
  | 0 => rfl
  | j + 1 => by
    show (ms.foldl (useM X) (useI X ms u j)).length = _
    rw [useR_len, useI_len X ms u j]

theorem set_open : ∀ (u : List Bool) (i : Nat), u.set i true = u ∨ open_ (u.set i true) < open_ u
  | [], _ => .inl rfl
  | b :: u, 0 => by cases b <;> simp [open_]
  | b :: u, i + 1 => by
    rw [List.set_cons_succ]
    rcases set_open u i with h | h
    · exact .inl (by rw [h])
    · refine .inr ?_
      cases b <;> simp [open_] at h ⊢ <;> omega
theorem mark_down : Down mark open_ := fun u n => by
  unfold mark
  split
  · exact set_open u _
  · exact .inl rfl
theorem useM_down (X : List Int) : Down (useM X) open_ := fun u m => by
  unfold useM
  split
  · exact mark_down.fold _ _
  · exact .inl rfl
theorem mark_no {u : List Bool} {n : Int} (h : ¬ (0 < n ∧ u.getD (n - 1).toNat true = false)) : mark u n = u := by
  unfold mark
  split
  · rename_i h0
    have : u.getD (n - 1).toNat true = true := by
      cases hh : u.getD (n - 1).toNat true with
      | true => rfl
      | false => exact absurd ⟨h0, hh⟩ h
    rw [List.getD_eq_getElem?_getD] at this
    apply List.ext_getElem?
    intro i
    rw [List.getElem?_set]
    split
    · rename_i e
      subst e
      split
      · rename_i hl
        rw [List.getElem?_eq_getElem hl] at this ⊢
        simpa using this.symm
      · rename_i hl
        rw [List.getElem?_eq_none (by omega)]
    · rfl
  · rfl
theorem mark_yes {u : List Bool} {n : Int} (h0 : 0 < n) (h : u.getD (n - 1).toNat true = false) : mark u n = u.set (n - 1).toNat true ∧ open_ (mark u n) < open_ u := by
  have e : mark u n = u.set (n - 1).toNat true := if_pos h0
  refine ⟨e, ?_⟩
  rcases mark_down u n with h1 | h1
  · exfalso
    rw [e] at h1
    have hi : (n - 1).toNat < u.length := by
      rcases Nat.lt_or_ge (n - 1).toNat u.length with h | h2
      · exact h
      · rw [List.getD_eq_getElem?_getD, List.getElem?_eq_none h2] at h; cases h
    have := congrArg (fun l => l.getD (n - 1).toNat true) h1
    simp only [List.getD_eq_getElem?_getD, List.getElem?_set_self hi] at this
    rw [List.getD_eq_getElem?_getD] at h
    rw [h] at this
    cases this
  · exact h1

theorem useI_stable {X : List Int} {ms : List Mkg} {u : List Bool} {j : Nat} (h : useR X ms (useI X ms u j) = useI X ms u j) : ∀ d, useI X ms u (j + d) = useI X ms u j
  | 0 => rfl
  | d + 1 => by
    show useR X ms (useI X ms u (j + d)) = _
    rw [useI_stable h d, h]
theorem useI_same {X : List Int} {ms : List Mkg} {u : List Bool} {j k : Nat} (h : useR X ms (useI X ms u j) = useI X ms u j) (h' : useR X ms (useI X ms u k) = useI X ms u k) : useI X ms u j = useI X ms u k := by
  rcases Nat.le_total j k with hl | hl
  · have := useI_stable h (k - j)
    rw [show j + (k - j) = k by omega] at this
    exact this.symm
  · have := useI_stable h' (j - k)
    rw [show k + (j - k) = j by omega] at this
    exact this

/-- where the search begins -/
def use0 (N : Nat) (X : List Int) (St : Int) : List Bool := (List.replicate N false).set (St - 1).toNat (decide (0 ≤ X.getD (St - 1).toNat (-1)))
/-- the numbers of what is not marked, up to k -/
def openTo (u : List Bool) (k : Nat) : List Int := ((List.range k).filter fun i => !u.getD i true).map fun i : Nat => (i : Int) + 1
theorem openTo_yes {u : List Bool} {k : Nat} (h : u.getD k true = false) : openTo u (k + 1) = openTo u k ++ [(k : Int) + 1] := by
  unfold openTo
  rw [List.range_succ, List.filter_append, List.map_append, List.filter_cons_of_pos (by rw [h]; rfl)]
  rfl
theorem openTo_no {u : List Bool} {k : Nat} (h : u.getD k true = true) : openTo u (k + 1) = openTo u k := by
  unfold openTo
  rw [List.range_succ, List.filter_append, List.map_append, List.filter_cons_of_neg (by rw [h]; simp)]
  simp
theorem openTo_len (u : List Bool) (k : Nat) : (openTo u k).length ≤ k := by
  unfold openTo
  rw [List.length_map]
  exact Nat.le_trans (List.length_filter_le _ _) (by simp)

/-- what the search for useless symbols finds -/
def IsUseless (N : Nat) (St : Int) (ms : List Mkg) (L : List Int) : Prop :=
  ∃ j i, rnd ms (iter ms (List.replicate N (-1)) j) = iter ms (List.replicate N (-1)) j ∧
    useR (iter ms (List.replicate N (-1)) j) ms (useI (iter ms (List.replicate N (-1)) j) ms (use0 N (iter ms (List.replicate N (-1)) j) St) i) = useI (iter ms (List.replicate N (-1)) j) ms (use0 N (iter ms (List.replicate N (-1)) j) St) i ∧
    L = openTo (useI (iter ms (List.replicate N (-1)) j) ms (use0 N (iter ms (List.replicate N (-1)) j) St) i) N
theorem useless_same {N : Nat} {St : Int} {ms : List Mkg} {L L' : List Int} (h : IsUseless N St ms L) (h' : IsUseless N St ms L') : L = L' := by
  obtain ⟨j, i, h1, h2, rfl⟩ := h
  obtain ⟨j', i', h1', h2', rfl⟩ := h'
  have e := iter_same h1 h1'
  rw [← e] at h2' ⊢
  rw [useI_same h2 h2']

/-- flags as cells -/
def flags (l : List Bool) : Array Value := (l.map Value.bool).toArray
theorem flags_get {l : List Bool} {k : Nat} (hk : k < l.length) : (flags l)[k]? = some (.bool l[k]) := by simp [flags, hk]
theorem flags_set (l : List Bool) (k : Nat) (v : Bool) : (flags l).setIfInBounds k (.bool v) = flags (l.set k v) := by
  apply Array.toList_inj.1
  simp [flags]
def readF (g : Nat) (w : World) : List Bool := match w.heap[g]? with
  | some (.cells cs _ _) => cs.toList.map fun v => match v with | .bool b => b | _ => false
  | _ => []
theorem readF_eq {g : Nat} {w : World} {t : TypeId} {l : List Bool} (h : Blk w g t (flags l)) : readF g w = l := by
  unfold Blk at h
  unfold readF
  rw [h]
  show (flags l).toList.map (fun v => match v with | .bool b => b | _ => false) = l
  simp only [flags]
  rw [List.map_map]
  conv => rhs; rw [← List.map_id l]
  exact List.map_congr_left fun x _ => rfl
end Go.Proofs.YtieclenlldjfjaaGreat
