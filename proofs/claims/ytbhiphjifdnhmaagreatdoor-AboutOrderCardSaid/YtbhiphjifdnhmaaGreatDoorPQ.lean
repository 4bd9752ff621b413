import Derived.Test.YtbhiphjifdnhmaaGreatDoorPE
set_option linter.unusedSimpArgs false
set_option linter.unusedVariables false
/- Plain maths: definitions in another order, without some, with a further one. -/
namespace Go.Proofs.YtbhiphjifdnhmaaGreatDoor
open Go.RowKit Go.Maps
def Apart (x y : Df) : Prop := ¬ (x.name = y.name ∧ x.known = y.known)
theorem apart_symm {x y : Df} (h : Apart x y) : Apart y x := fun k => h ⟨k.1.symm, k.2.symm⟩
theorem noTwice_iff (l : List Df) : NoTwice l ↔ l.Pairwise Apart := by
  rw [List.pairwise_iff_getElem]
  constructor
  · intro h i j hi hj hij k
    exact h j i l[j] l[i] hij (List.getElem?_eq_getElem hj) (List.getElem?_eq_getElem hi) k
  · intro h i j x y hji hi hj k
    obtain ⟨h1, h2⟩ := List.getElem?_eq_some_iff.1 hi
    obtain ⟨h3, h4⟩ := List.getElem?_eq_some_iff.1 hj
    subst h2
    subst h4
    exact h j i h3 h1 hji k
theorem CalGood.perm {l m : List Df} (h : CalGood l) (hp : l.Perm m) : CalGood m where
  len := by rw [← hp.length_eq]; exact h.len
  form := fun d hd => h.form d (hp.mem_iff.2 hd)
  twice := (noTwice_iff m).2 ((hp.pairwise_iff (fun h => apart_symm h)).1 ((noTwice_iff l).1 h.twice))
theorem CalGood.sub {l m : List Df} (h : CalGood l) (hs : m.Sublist l) : CalGood m where
  len := Nat.le_trans hs.length_le h.len
  form := fun d hd => h.form d (hs.subset hd)
  twice := (noTwice_iff m).2 (((noTwice_iff l).1 h.twice).sublist hs)
theorem bookF_mem_same {l m : List Df} (hm : OneOf m) (h : ∀ x : Df, x ∈ l ↔ x ∈ m) (known : Int) : bookF l known = bookF m known :=
  funext fun s => bookF_same hm fun x _ _ => h x
theorem knownE_good {l : List Df} (h : CalGood l) (k : Int) : knownE l k = if dayB k then 0 else 1 := by
  unfold knownE
  rw [if_pos ((calE_iff l).2 h)]
theorem nameE_good {l m : List Df} (h : CalGood l) (h2 : CalGood m) (n : ByteArray) (k : Int) : nameE l n k = nameE m n k := by
  unfold nameE
  rw [knownE_good h, knownE_good h2]
theorem MeansIs.book {l m : List Df} (h : CalGood l) (h2 : CalGood m) {n : ByteArray} {k : Int} {v : Nat → Int} {e : Int} (hb : ∀ x, Upon (bookF l k) n x → bookF m k x.data.toList = bookF l k x.data.toList) (hM : MeansIs l n k v e) : MeansIs m n k v e := by
  rcases hM with ⟨h0, hM⟩ | ⟨h0, hv, he⟩
  · exact .inl ⟨(nameE_good h h2 n k).symm.trans h0, hM.agree hb⟩
  · exact .inr ⟨fun e => h0 ((nameE_good h h2 n k).trans e), hv, he.trans (nameE_good h h2 n k)⟩
theorem MeansIs.perm {l m : List Df} (h : CalGood l) (hp : l.Perm m) {n : ByteArray} {k : Int} {v : Nat → Int} {e : Int} (hM : MeansIs l n k v e) : MeansIs m n k v e :=
  hM.book h (h.perm hp) fun x _ => by rw [bookF_mem_same h.one (fun x => hp.mem_iff.symm) k]
/-- the definitions that are known so far -/
def earlyTo (l : List Df) (known : Int) (k : Nat) : List Df := (l.take k).filter fun d => decide (d.known ≤ known)
theorem earlyTo_succ {l : List Df} {known : Int} {k : Nat} {d : Df} (h : l[k]? = some d) : earlyTo l known (k + 1) = if d.known ≤ known then earlyTo l known k ++ [d] else earlyTo l known k := by
  obtain ⟨h1, h2⟩ := List.getElem?_eq_some_iff.1 h
  unfold earlyTo
  rw [List.take_succ_eq_append_getElem h1, h2, List.filter_append]
  by_cases hk : d.known ≤ known
  · rw [if_pos hk, List.filter_cons_of_pos (by simpa using hk)]
    rfl
  · rw [if_neg hk, List.filter_cons_of_neg (by simpa using hk)]
    simp
theorem earlyTo_len (l : List Df) (known : Int) (k : Nat) : (earlyTo l known k).length ≤ k := by
  unfold earlyTo
  exact Nat.le_trans (List.length_filter_le _ _) (by rw [List.length_take]; omega)
theorem earlyTo_sub (l : List Df) (known : Int) (k : Nat) : (earlyTo l known k).Sublist l := (List.filter_sublist).trans (List.take_sublist _ _)
theorem MeansIs.early {l : List Df} (h : CalGood l) {n : ByteArray} {k : Int} {v : Nat → Int} {e : Int} (hM : MeansIs l n k v e) : MeansIs (earlyTo l k l.length) n k v e :=
  hM.book h (h.sub (earlyTo_sub l k l.length)) fun x _ => bookF_same h.one fun y _ hy => by
    unfold earlyTo
    rw [List.take_length, List.mem_filter]
    exact ⟨fun h => h.1, fun h => ⟨h, decide_eq_true hy⟩⟩
theorem MeansIs.more {l : List Df} (h : CalGood l) {x : Df} (h2 : CalGood (l ++ [x])) {n : ByteArray} {k : Int} {v : Nat → Int} {e : Int} (hx : x.known ≤ k → x.name ≠ n ∧ ¬ Rch (prt (bookF l k)) n x.name) (hM : MeansIs l n k v e) : MeansIs (l ++ [x]) n k v e :=
  hM.book h h2 fun y hy => (bookF_same h2.one fun z hz hk => by
    rw [List.mem_append, List.mem_singleton]
    refine ⟨.inl, fun h => h.elim id fun e => ?_⟩
    subst e
    obtain ⟨h3, h4⟩ := hx hk
    have hzy : z.name = y := bytes_key hz
    rcases hy with rfl | hy
    · exact absurd hzy h3
    · rw [← hzy] at hy
      exact absurd hy h4).symm
/-- a turn of definitions, its first ones -/
def rotTo (l : List Df) (t : Nat) : Nat → List Df
  | 0 => []
  | k + 1 => rotTo l t k ++ [l.getD ((k + t) % l.length) df0]
theorem rotTo_len (l : List Df) (t : Nat) : ∀ k, (rotTo l t k).length = k
  | 0 => rfl
  | k + 1 => by rw [rotTo, List.length_append, rotTo_len l t k]; rfl
theorem rotTo_is (l : List Df) (t : Nat) : ∀ k, k ≤ l.length → rotTo l t k = (l.drop (t % l.length) ++ l.take (t % l.length)).take k
  | 0, _ => rfl
  | k + 1, hk => by
    have hn : 0 < l.length := by omega
    have hr := Nat.mod_lt t hn
    have hlen : k < (l.drop (t % l.length) ++ l.take (t % l.length)).length := by
      rw [List.length_append, List.length_drop, List.length_take]
      omega
    rw [rotTo, rotTo_is l t k (by omega), List.take_succ_eq_append_getElem hlen]
    congr 2
    have hm : (k + t) % l.length = if k + t % l.length < l.length then k + t % l.length else k + t % l.length - l.length := by
      rw [Nat.add_mod, Nat.mod_eq_of_lt (show k < l.length by omega)]
      split
      · rename_i h; exact Nat.mod_eq_of_lt h
      · rename_i h
        rw [Nat.mod_eq_sub_mod (by omega), Nat.mod_eq_of_lt (by omega)]
    rw [hm]
    by_cases h : k + t % l.length < l.length
    · rw [if_pos h, List.getElem_append_left (by rw [List.length_drop]; omega), List.getElem_drop, List.getD_eq_getElem?_getD, List.getElem?_eq_getElem h]
      simp [Nat.add_comm]
    · rw [if_neg h, List.getElem_append_right (by rw [List.length_drop]; omega), List.getElem_take, List.getD_eq_getElem?_getD, List.getElem?_eq_getElem (by omega)]
      simp only [Option.getD_some, List.length_drop]
      congr 1
      omega
theorem rotTo_perm (l : List Df) (t : Nat) : l.Perm (rotTo l t l.length) := by
  have hlen : (l.drop (t % l.length) ++ l.take (t % l.length)).length = l.length := by
    rw [List.length_append, List.length_drop, List.length_take]
    by_cases h : l.length = 0
    · rw [h]; simp
    · have := Nat.mod_lt t (Nat.pos_of_ne_zero h); omega
  rw [rotTo_is l t l.length (Nat.le_refl _), List.take_of_length_le (by rw [hlen]; exact Nat.le_refl _)]
  have h := List.perm_append_comm (l₁ := l.take (t % l.length)) (l₂ := l.drop (t % l.length))
  rwa [List.take_append_drop] at h
theorem rotTo_mem {l : List Df} {t k : Nat} (hk : k ≤ l.length) {d : Df} (h : d ∈ rotTo l t k) : d ∈ l := by
  rw [rotTo_is l t k hk] at h
  rcases List.mem_append.1 (List.mem_of_mem_take h) with h | h
  · exact List.mem_of_mem_drop h
  · exact List.mem_of_mem_take h
end Go.Proofs.YtbhiphjifdnhmaaGreatDoor
