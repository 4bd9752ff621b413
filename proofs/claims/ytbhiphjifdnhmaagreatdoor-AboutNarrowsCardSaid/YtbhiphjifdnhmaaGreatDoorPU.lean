import Derived.Test.YtbhiphjifdnhmaaGreatDoorPR
import Derived.Test.YtbhiphjifdnhmaaGreatDoorPS
set_option linter.unusedSimpArgs false
set_option linter.unusedVariables false
/- A day stored into a definition of one's own. -/
namespace Go.Proofs.YtbhiphjifdnhmaaGreatDoor
open Go.RowKit Go.Maps
theorem wpl_bld0O {ops : Array Oper} {rest : List Oper} {o : Oper} {a : Act} {Q : Exit → Act → World → Prop} {w : World} (hgd : o.guard = none) (ho : o.op = .buildSlice 58 0 #[]) (base : Nat) (hb : base ≤ w.heap.size)
    (h : ∀ w', OwnD w' base (some ⟨w.heap.size, 0, none⟩) 0 [] → Below w.heap.size w w' → w'.heap.size = w.heap.size + 1 → wpList Tryz.prog ops Q rest (a.put o.dst (.slice (some ⟨w.heap.size, 0, none⟩) ([] : List Df).length 0)) w') : wpList Tryz.prog ops Q (o :: rest) a w :=
  wpList_plain hgd fun _ hK => wp_build0O ho base hb fun w' h1 h2 h3 => hK _ _ (h w' h1 h2 h3)
theorem wpl_appDs {ops : Array Oper} {rest : List Oper} {o : Oper} {a : Act} {Q : Exit → Act → World → Prop} {w : World} (hgd : o.guard = none) (s x : Operand)
    (ho : o.op = .call { callee := .builtin .append, args := #[s, x], argTypes := #[58, 58] }) {base : Nat} {A : Option Addr} (hown : OwnD w base A 0 []) (m : List Df) {A2 : Option Addr} {c2 : Nat} (hD : Defs w w.heap.size A2 m)
    (hs : a.eval s = .slice A ([] : List Df).length 0) (hx : a.eval x = .slice A2 m.length c2) (hm : 0 < m.length) (hl : m.length ≤ 1000000) (hbase : base ≤ w.heap.size)
    (h : ∀ g' c' w', OwnD w' base (some ⟨g', 0, none⟩) c' m → Below base w w' → wpList Tryz.prog ops Q rest (a.put o.dst (.slice (some ⟨g', 0, none⟩) m.length c')) w') : wpList Tryz.prog ops Q (o :: rest) a w :=
  wpList_plain hgd fun _ hK => wp_appDs s x ho hown m hD hs hx hm hl hbase fun A' c' w' h1 _ h3 => by
    obtain ⟨g', c'', e, _⟩ := own_shape h1 hm
    injection e with e1 e2 e3
    subst e1
    exact hK _ _ (h g' c' w' h1 h3)
theorem set_there {w : World} {base g c k : Nat} {l : List Df} {y : Df} (h : OwnD w base (some ⟨g, 0, none⟩) c l) (hk : l[k]? = some y) : w.there g (k * 29 + 5) 24 := by
  intro j hj
  have hd := DefsAt.of_own h k y hk
  have hj2 : (dfL y)[5 + j]? = some (.int .i64 (y.days j)) := by
    have := dfA_days y j hj
    simpa [dfA] using this
  have hc := hd (5 + j) _ hj2
  have e : k * 29 + (5 + j) = k * 29 + 5 + j := by omega
  rw [e] at hc
  refine ⟨by rw [hc]; rfl, ?_⟩
  rcases h.2 with ⟨hv, _⟩ | ⟨g', cap, cur, hv, _, hg, _⟩
  · cases hv
  · injection hv with hv
    injection hv with hv
    injection hv with hv _ _
    subst hv
    exact (show Blk w g 60 cur from hg).frozen _
theorem dfL_front (y : Df) (nar : Nat → Int) (j : Nat) (hj : j < 5) : (dfL y)[j]? = (dfL { y with days := nar })[j]? := by
  unfold dfL
  generalize (va y.days).toList = P
  have : (va { y with days := nar }.days).toList = (va nar).toList := rfl
  rw [this]
  generalize (va nar).toList = Q
  match j, hj with
  | 0, _ => rfl
  | 1, _ => rfl
  | 2, _ => rfl
  | 3, _ => rfl
  | 4, _ => rfl
theorem sz_setCells (g : Nat) : ∀ (vs : List Value) (o : Nat) (w : World), (w.setCells g o vs).heap.size = w.heap.size
  | [], _, _ => rfl
  | v :: vs, o, w => by
    show (World.setCells (w.setCell ⟨g, o, none⟩ v) g (o + 1) vs).heap.size = _
    rw [sz_setCells g vs]
    simp [World.setCell]
set_option maxRecDepth 100000 in
theorem set_defs {w : World} {base g c k : Nat} {l : List Df} {y : Df} (h : OwnD w base (some ⟨g, 0, none⟩) c l) (hk : l[k]? = some y) (nar : Nat → Int) :
    Defs (w.setCells g (k * 29 + 5) (va nar).toList) (w.setCells g (k * 29 + 5) (va nar).toList).heap.size (some ⟨g, 0, none⟩) (l.set k { y with days := nar }) := by
  have ht := set_there h hk
  have hlen : (va nar).toList.length = 24 := by simp [va_size]
  have hsz := sz_setCells g (va nar).toList (k * 29 + 5) w
  obtain ⟨hkl, hke⟩ := List.getElem?_eq_some_iff.1 hk
  intro i d hd
  refine ⟨g, 0, rfl, by rw [hsz]; exact (h.lt rfl).2, fun j v hj => ?_⟩
  have hjl : j < 29 := by have := (List.getElem?_eq_some_iff.1 hj).1; rwa [dfL_len] at this
  rw [show 0 + i * 29 + j = i * 29 + j by omega]
  by_cases hik : k = i
  · subst hik
    rw [List.getElem?_set_self hkl] at hd
    have hd := Option.some.inj hd
    subst hd
    by_cases hj5 : j < 5
    · rw [World.cell?_setCells_out g _ _ _ _ (fun _ _ => .inl (by show k * 29 + j < k * 29 + 5; omega))]
      refine DefsAt.of_own h k y hk j v ?_
      rw [← hj]
      exact dfL_front y nar j hj5
    · have e : k * 29 + j = k * 29 + 5 + (j - 5) := by omega
      have hin := World.rangeAt_setCells_same w g (k * 29 + 5) (va nar).toList (by rw [hlen]; exact ht)
      rw [e]
      refine hin (j - 5) v ?_
      have h2 := dfA_days { y with days := nar } (j - 5) (by omega)
      rw [show 5 + (j - 5) = j by omega] at h2
      have h3 : (dfL { y with days := nar })[j]? = some (.int .i64 (nar (j - 5))) := by simpa [dfA] using h2
      rw [h3] at hj
      rw [Array.getElem?_toList, va_get _ _ (by omega)]
      exact hj
  · rw [List.getElem?_set_ne hik] at hd
    rw [World.cell?_setCells_out g _ _ _ _ (fun _ _ => by
      rw [hlen]
      show i * 29 + j < k * 29 + 5 ∨ k * 29 + 5 + 24 ≤ i * 29 + j
      rcases Nat.lt_or_gt_of_ne hik with h1 | h1
      · right; omega
      · left; omega)]
    exact DefsAt.of_own h i d hd j v hj
/-- a day stored whole into a definition of one's own -/
theorem wpl_stDays {ops : Array Oper} {rest : List Oper} {o : Oper} {a : Act} {w : World} {Q : Exit → Act → World → Prop} (t s : Tmp) (hgd : o.guard = none) (ho : o.op = .store 26 (.tmp t) (.tmp s))
    {base g c k : Nat} {l : List Df} {y : Df} (hown : OwnD w base (some ⟨g, 0, none⟩) c l) (hk : l[k]? = some y) (nar : Nat → Int) (hx : a.eval (.tmp t) = .pointer (some ⟨g, k * 29 + 5, none⟩)) (hy : a.eval (.tmp s) = .agg (va nar))
    (h : wpList Tryz.prog ops Q rest (a.put o.dst undef) (w.setCells g (k * 29 + 5) (va nar).toList)) : wpList Tryz.prog ops Q (o :: rest) a w :=
  wpList_store_mid hgd 26 _ _ ho g _ (va nar) hx hy (by rw [va_size]; exact set_there hown hk) (info26 _) (va_one _) h
end Go.Proofs.YtbhiphjifdnhmaaGreatDoor
