import Derived.Test.YtbhiphjifdnhmaaGreatDoorK3
import Derived.Test.YtbhiphjifdnhmaaGreatDoorM4
set_option linter.unusedSimpArgs false
set_option linter.unusedVariables false
/- bookOf: the definition of each name, as known on a day. -/
namespace Go.Proofs.YtbhiphjifdnhmaaGreatDoor
open Go.RowKit Go.Maps

/-- the definitions of a name that were known on a day -/
def grpL (l : List Df) (known : Int) (s : List UInt8) : List Df := l.filter fun d => decide (d.known ≤ known) && (d.name.data.toList == s)
theorem grpL_no (l : List Df) (known : Int) (x : Df) (h : ¬ x.known ≤ known) : grpL (l ++ [x]) known = grpL l known := by
  funext s
  simp [grpL, h]
theorem grpL_yes (l : List Df) (known : Int) (x : Df) (h : x.known ≤ known) : grpL (l ++ [x]) known = fun s => if s = x.name.data.toList then grpL l known x.name.data.toList ++ [x] else grpL l known s := by
  funext s
  by_cases e : s = x.name.data.toList
  · subst e
    simp [grpL, h]
  · have e' : ¬ x.name.data.toList = s := fun h => e h.symm
    simp [grpL, h, e, e']
theorem grpL_len (l : List Df) (known : Int) (s : List UInt8) : (grpL l known s).length ≤ l.length := List.length_filter_le _ _
/-- the definition of a name as known on a day -/
def bookF (l : List Df) (known : Int) (s : List UInt8) : Option Df :=
  match grpL l known s with
  | [] => none
  | d :: t => some (maxD d t)

set_option maxRecDepth 100000 in
set_option maxHeartbeats 4000000 in
theorem bookOf_any (A : Option Addr) (cap : Nat) (l : List Df) (known : Int) (w : World) (hl : l.length ≤ 1000) (hD : Defs w w.heap.size A l) (hN : ∀ d ∈ l, d.name.size ≤ maxLen) :
    Calls Tryz.prog 86 #[.slice A l.length cap, .int .i64 known] w fun e w' => ∃ m k, e = .returned (.map (some m)) ∧ k ≤ 1000 ∧ w.heap.size ≤ m ∧ MapIs w' Tryz.prog 9 m k (bookV (bookF l known)) ∧ Below w.heap.size w w' := by
  have hmm := @run_makeMap Tryz.prog
  have g0 : Grp (w.alloc (.map #[] 0)) (w.heap.size + 1) w.heap.size 0 (fun _ => none) (grpL (l.take 0) known) :=
    ⟨MapIs.made w Tryz.prog 9, fun s _ => rfl, fun s hs => by simp [grpL] at hs, fun s t v u _ hv _ => by simp at hv⟩
  have hb0 : Below w.heap.size w (w.alloc (.map #[] 0)) := below_new _ _
  go_enter Tryz.func86, Tryz.ntmps86
  go_wp2
  go_loopw [14] (fun t14 wr => ∃ (k k' : Nat) (f : List UInt8 → Option Value), k ≤ l.length ∧ t14 = .int .i64 k ∧ k' ≤ k ∧ Grp wr (w.heap.size + 1) w.heap.size k' f (grpL (l.take k) known) ∧ Below w.heap.size w wr) (fun t14 _ => l.length - (intOf t14).toNat)
  case atStart => exact ⟨0, 0, _, by omega, rfl, Nat.le_refl _, g0, hb0⟩
  case round =>
    obtain ⟨k, k', f, hk, rfl, hk', g1, hb1⟩ := hrel
    clear g0 hb0
    have hml := g1.map.lt
    by_cases hlt : k < l.length
    · obtain ⟨x, hx⟩ : ∃ x, l[k]? = some x := ⟨_, List.getElem?_eq_getElem hlt⟩
      obtain ⟨ag, ao, hA, hag, hc⟩ := (hD.below hb1) k x hx
      subst hA
      have hxs : x.name.size ≤ maxLen := hN x (List.mem_of_getElem? hx)
      have htk : l.take (k + 1) = l.take k ++ [x] := by rw [List.take_add_one, hx]; rfl
      have HT := Lib.hid htk
      clear htk hx
      have hr : wr.rangeAt ag (ao + k * 29) (dfL x) := hc
      have hlen1 : (l.take k).length ≤ 1000 := by have := List.length_take_le k l; omega
      have kZ : Blk (wr.alloc (.cells #[.string ⟨#[]⟩, .int .i64 0, .int .i64 0, .string ⟨#[]⟩, .string ⟨#[]⟩, .int .i64 0, .int .i64 0, .int .i64 0, .int .i64 0, .int .i64 0, .int .i64 0, .int .i64 0, .int .i64 0, .int .i64 0, .int .i64 0, .int .i64 0, .int .i64 0, .int .i64 0, .int .i64 0, .int .i64 0, .int .i64 0, .int .i64 0, .int .i64 0, .int .i64 0, .int .i64 0, .int .i64 0, .int .i64 0, .int .i64 0, .int .i64 0] 60)) wr.heap.size 60 (dfA df0) := by rw [z60]; exact Blk.new _ _ _
      have kX := kZ.setRow (dfA x)
      have hbx : Below wr.heap.size wr ((wr.alloc (.cells #[.string ⟨#[]⟩, .int .i64 0, .int .i64 0, .string ⟨#[]⟩, .string ⟨#[]⟩, .int .i64 0, .int .i64 0, .int .i64 0, .int .i64 0, .int .i64 0, .int .i64 0, .int .i64 0, .int .i64 0, .int .i64 0, .int .i64 0, .int .i64 0, .int .i64 0, .int .i64 0, .int .i64 0, .int .i64 0, .int .i64 0, .int .i64 0, .int .i64 0, .int .i64 0, .int .i64 0, .int .i64 0, .int .i64 0, .int .i64 0, .int .i64 0] 60)).setRow wr.heap.size (dfA x)) := below_setRow (below_new _ _) (Nat.le_refl _) _
      have g2 := g1.moved hbx
      obtain ⟨W2, hW2⟩ : ∃ W2, W2 = (wr.alloc (.cells #[.string ⟨#[]⟩, .int .i64 0, .int .i64 0, .string ⟨#[]⟩, .string ⟨#[]⟩, .int .i64 0, .int .i64 0, .int .i64 0, .int .i64 0, .int .i64 0, .int .i64 0, .int .i64 0, .int .i64 0, .int .i64 0, .int .i64 0, .int .i64 0, .int .i64 0, .int .i64 0, .int .i64 0, .int .i64 0, .int .i64 0, .int .i64 0, .int .i64 0, .int .i64 0, .int .i64 0, .int .i64 0, .int .i64 0, .int .i64 0, .int .i64 0] 60)).setRow wr.heap.size (dfA x) := ⟨_, rfl⟩
      obtain ⟨x0, x1, x2, x3, x4⟩ := kX.df
      by_cases hkn : x.known ≤ known
      · have hG := Lib.hid (grpL_yes (l.take k) known x hkn)
        go_wp2_with (first
          | (refine ldD 16 rfl rfl hr rfl ?_)
          | (refine stD 7 17 rfl rfl kZ rfl rfl ?_))
        rw [← hW2] at kX g2 hbx x0 x1 x2 x3 x4 ⊢
        clear hW2 kZ
        have hlk0 := fun (W : World) (h : MapIs W Tryz.prog 9 w.heap.size k' f) => h.look keyT Tryz.underlying155 (zero58 W) (key_any x.name hxs)
        have hown := g2.look x.name.data.toList
        obtain ⟨v0, hv0⟩ : ∃ v0, v0 = (f x.name.data.toList).getD (.slice none 0 0) := ⟨_, rfl⟩
        rw [← hv0] at hlk0 hown
        have HV := Lib.hid hv0
        clear hv0
        have hz2 := kX.lt
        have HVn : ∀ i, v0.ownBlock = some i → w.heap.size + 1 ≤ i ∧ i < wr.heap.size := fun i e => by
          rw [HV.out] at e
          cases hf : f x.name.data.toList with
          | none => rw [hf] at e; simp [Value.ownBlock] at e
          | some u =>
            rw [hf] at e
            obtain ⟨_, gg, cc, rfl, q1, q2, _⟩ := g1.some_row hf
            simp [Value.ownBlock] at e
            omega
        refine wp_region_held_drew (S := fun w' => Blk w' wr.heap.size 60 (dfA x) ∧ w'.cell? ⟨wr.heap.size, 0, none⟩ = some (.string x.name)) (by kernel_rfl) ⟨kX, x0⟩ (fun hHeld => ?_)
        (refine wpAnyH_take (i := 0) (v := ?_) rfl (by kernel_rfl) (by kernel_rfl) (by kernel_rfl) (fun _ _ _ h => h) (Or.inl ⟨by rfl, ?_⟩) (by assumption) ?_; rotate_left; (· intro w5 hS5; (try dsimp only at hS5); go_simp <;> with_reducible rfl); (try simp only [List.getElem_toArray, List.getElem_cons_zero, List.getElem_cons_succ, Act.put, List.setIfInBounds_toArray, List.set_cons_zero, List.set_cons_succ]))
        (refine wpAnyH_take (i := 1) (v := ?_) rfl (by kernel_rfl) (by kernel_rfl) (by kernel_rfl) (fun _ _ _ h => h) (Or.inl ⟨by rfl, ?_⟩) (by assumption) ?_; rotate_left; (· intro w5 hS5; (try dsimp only at hS5); go_simp <;> with_reducible rfl); (try simp only [List.getElem_toArray, List.getElem_cons_zero, List.getElem_cons_succ, Act.put, List.setIfInBounds_toArray, List.set_cons_zero, List.set_cons_succ]))
        (refine wpAnyH_take (i := 2) (v := ?_) rfl (by kernel_rfl) (by kernel_rfl) (by kernel_rfl) (fun _ _ _ h => h) (Or.inl ⟨by rfl, ?_⟩) (by assumption) ?_; rotate_left; (· intro w5 hS5; (try dsimp only at hS5); go_simp <;> with_reducible rfl); (try simp only [List.getElem_toArray, List.getElem_cons_zero, List.getElem_cons_succ, Act.put, List.setIfInBounds_toArray, List.set_cons_zero, List.set_cons_succ]))
        (refine wpAnyH_take (i := 3) (v := ?_) rfl (by kernel_rfl) (by kernel_rfl) (by kernel_rfl) (fun _ _ _ h => h) (Or.inl ⟨by rfl, ?_⟩) (by assumption) ?_; rotate_left; (· intro w5 hS5; (try dsimp only at hS5); go_simp <;> with_reducible rfl); (try simp only [List.getElem_toArray, List.getElem_cons_zero, List.getElem_cons_succ, Act.put, List.setIfInBounds_toArray, List.set_cons_zero, List.set_cons_succ]))
        (refine wpAnyH_take (i := 4) (v := ?_) rfl (by kernel_rfl) (by kernel_rfl) (by kernel_rfl) (fun _ _ _ h => h) (Or.inl ⟨by rfl, ?_⟩) (by assumption) ?_; rotate_left; (· intro w5 hS5; (try dsimp only at hS5); go_simp <;> with_reducible rfl); (try simp only [List.getElem_toArray, List.getElem_cons_zero, List.getElem_cons_succ, Act.put, List.setIfInBounds_toArray, List.set_cons_zero, List.set_cons_succ]))
        (refine wpAnyH_take (i := 5) (v := ?_) rfl (by kernel_rfl) (by kernel_rfl) (by kernel_rfl) (fun _ _ _ h => h) (Or.inl ⟨by rfl, ?_⟩) (by assumption) ?_; rotate_left; (· intro w5 hS5; (try dsimp only at hS5); go_simp <;> with_reducible rfl); (try simp only [List.getElem_toArray, List.getElem_cons_zero, List.getElem_cons_succ, Act.put, List.setIfInBounds_toArray, List.set_cons_zero, List.set_cons_succ]))
        (refine wpAnyH_take (i := 7) (v := .agg (dfA x)) rfl (by kernel_rfl) (by kernel_rfl) (by kernel_rfl) (fun _ _ _ h => h) (yieldsIf_load_row (by rfl) 60 _ rfl _ rfl 60 _ (0, 0) _ (fun w5 hS5 => hS5.1) Tryz.underlying60 rfl (info60 x)) (by assumption) ?_; (try simp only [List.getElem_toArray, List.getElem_cons_zero, List.getElem_cons_succ, Act.put, List.setIfInBounds_toArray, List.set_cons_zero, List.set_cons_succ]))
        refine wpAnyH_ready (rs := [6, 8]) (by kernel_rfl) (by simp) ?_
        refine AllReadyH.cons rfl (fun K hK => ?_) (AllReadyH.cons rfl (fun K hK => ?_) AllReadyH.nil)
        · have hl1 := hlk0 (W2.drew) g2.map
          go_simp
          refine hK.out _ _ ⟨kX, Blk.cell kX 0⟩ (fun hHeld => ?_)
          clear hK K hl1
          (try simp only [List.getElem_toArray, List.getElem_cons_zero, List.getElem_cons_succ, Act.put, List.setIfInBounds_toArray, List.set_cons_zero, List.set_cons_succ])
          (refine wpAnyH_ready (rs := [8]) (by kernel_rfl) (by simp) ?_; refine AllReadyH.cons rfl (fun K hK => ?_) AllReadyH.nil)
          rw [if_pos (by rfl)]
          refine wp_build1 _ (by rfl) x (by rfl) ?_
          have hbn := below_new (W2.drew) (.cells (dfA x) 60)
          have kX1 := Blk.alloc (w := W2.drew) kX (.cells (dfA x) 60)
          have g3 := Grp.moved (w := W2.drew) ⟨g2.map, g2.none, g2.row, g2.apart⟩ hbn
          refine hK.out _ _ ⟨kX1, kX1.cell 0⟩ (fun hHeld => ?_)
          clear hK K
          (try simp only [List.getElem_toArray, List.getElem_cons_zero, List.getElem_cons_succ, Act.put, List.setIfInBounds_toArray, List.set_cons_zero, List.set_cons_succ])
          (refine wpAnyH_ready (rs := [9]) (by kernel_rfl) (by simp) ?_; refine AllReadyH.cons rfl (fun K hK => ?_) AllReadyH.nil)
          rw [if_pos (by rfl)]
          refine wp_appD _ _ (by rfl) (w.heap.size + 1) v0 _ x (by rfl) (own_below (w := W2.drew) hown hbn) (W2.drew).heap.size (by rfl) (Blk.new _ _ _) (by have := grpL_len (l.take k) known x.name.data.toList; omega) (by have := hbx.size; simp; omega) ?_
          intro g' c' w5 hown5 hgr5 hat5
          have kX5 := kX1.grown hgr5 (fun e => by have := HVn _ e.symm; omega)
          have hM5 := g3.map.kept hgr5 (fun e => by have := HVn _ e.symm; omega)
          refine hK.out _ _ ⟨kX5, kX5.cell 0⟩ (fun hHeld => ?_)
          clear hK K
          (try simp only [List.getElem_toArray, List.getElem_cons_zero, List.getElem_cons_succ, Act.put, List.setIfInBounds_toArray, List.set_cons_zero, List.set_cons_succ])
          (refine wpAnyH_ready (rs := [10]) (by kernel_rfl) (by simp) ?_; refine AllReadyH.cons rfl (fun K hK => ?_) AllReadyH.nil)
          rw [if_pos (by rfl)]
          refine wp_put _ _ _ 155 58 (by rfl) Tryz.underlying155 hM5 (by unfold maxLen; omega) x.name hxs _ (by rfl) (by rfl) (by rfl) ?_
          intro w6 hM6 hgr6 hz6
          have kX6 := kX5.grown hgr6 (fun e => by injection e with e; omega)
          refine hK.out _ _ ⟨kX6, kX6.cell 0⟩ (fun hHeld => ?_)
          clear hK K
          (try simp only [List.getElem_toArray, List.getElem_cons_zero, List.getElem_cons_succ, Act.put, List.setIfInBounds_toArray, List.set_cons_zero, List.set_cons_succ])
          refine wpAnyH_done (by kernel_rfl) ?_ _
          clear hHeld
          rw [HV.out] at hgr5 hat5
          have g6 := g3.put (by omega) x.name.data.toList x g' c' hown5 hgr5 hat5 hM6 hgr6
          have hb6 : Below w.heap.size w w6 := ((((below_next hb1 (by omega) hbx).drew).alloc (by have := hbx.size; simp; omega) _).grown hgr5 (by have := hbx.size; simp; omega) (fun i e => by rw [← HV.out] at e; have := HVn _ e; omega)).grown hgr6 (by have := hgr5.size; have := hbx.size; simp at *; omega) (fun i e => by injection e with e; omega)
          go_wp2
          go_roundw
          case rel => exact ⟨k + 1, k' + 1, _, by omega, by go_num, by omega, by rw [HT.out, hG.out]; exact g6, hb6⟩
          case measure => simp [intOf]; omega
        · rw [if_pos (by rfl)]
          refine wp_build1 _ (by rfl) x (by rfl) ?_
          have hbn := below_new (W2.drew) (.cells (dfA x) 60)
          have kX1 := Blk.alloc (w := W2.drew) kX (.cells (dfA x) 60)
          have g3 := Grp.moved (w := W2.drew) ⟨g2.map, g2.none, g2.row, g2.apart⟩ hbn
          refine hK.out _ _ ⟨kX1, kX1.cell 0⟩ (fun hHeld => ?_)
          clear hK K
          (try simp only [List.getElem_toArray, List.getElem_cons_zero, List.getElem_cons_succ, Act.put, List.setIfInBounds_toArray, List.set_cons_zero, List.set_cons_succ])
          (refine wpAnyH_ready (rs := [6]) (by kernel_rfl) (by simp) ?_; refine AllReadyH.cons rfl (fun K hK => ?_) AllReadyH.nil)
          have hl1 := hlk0 ((W2.alloc (.cells (dfA x) 60)).drew) g3.map
          go_simp
          refine hK.out _ _ ⟨kX1, Blk.cell kX1 0⟩ (fun hHeld => ?_)
          clear hK K hl1
          (try simp only [List.getElem_toArray, List.getElem_cons_zero, List.getElem_cons_succ, Act.put, List.setIfInBounds_toArray, List.set_cons_zero, List.set_cons_succ])
          (refine wpAnyH_ready (rs := [9]) (by kernel_rfl) (by simp) ?_; refine AllReadyH.cons rfl (fun K hK => ?_) AllReadyH.nil)
          rw [if_pos (by rfl)]
          refine wp_appD _ _ (by rfl) (w.heap.size + 1) v0 _ x (by rfl) (own_below (w := W2.drew) hown hbn) (W2.drew).heap.size (by rfl) (Blk.new _ _ _) (by have := grpL_len (l.take k) known x.name.data.toList; omega) (by have := hbx.size; simp; omega) ?_
          intro g' c' w5 hown5 hgr5 hat5
          have kX5 := kX1.grown hgr5 (fun e => by have := HVn _ e.symm; omega)
          have hM5 := g3.map.kept hgr5 (fun e => by have := HVn _ e.symm; omega)
          refine hK.out _ _ ⟨kX5, kX5.cell 0⟩ (fun hHeld => ?_)
          clear hK K
          (try simp only [List.getElem_toArray, List.getElem_cons_zero, List.getElem_cons_succ, Act.put, List.setIfInBounds_toArray, List.set_cons_zero, List.set_cons_succ])
          (refine wpAnyH_ready (rs := [10]) (by kernel_rfl) (by simp) ?_; refine AllReadyH.cons rfl (fun K hK => ?_) AllReadyH.nil)
          rw [if_pos (by rfl)]
          refine wp_put _ _ _ 155 58 (by rfl) Tryz.underlying155 hM5 (by unfold maxLen; omega) x.name hxs _ (by rfl) (by rfl) (by rfl) ?_
          intro w6 hM6 hgr6 hz6
          have kX6 := kX5.grown hgr6 (fun e => by injection e with e; omega)
          refine hK.out _ _ ⟨kX6, kX6.cell 0⟩ (fun hHeld => ?_)
          clear hK K
          (try simp only [List.getElem_toArray, List.getElem_cons_zero, List.getElem_cons_succ, Act.put, List.setIfInBounds_toArray, List.set_cons_zero, List.set_cons_succ])
          refine wpAnyH_done (by kernel_rfl) ?_ _
          clear hHeld
          rw [HV.out] at hgr5 hat5
          have g6 := g3.put (by omega) x.name.data.toList x g' c' hown5 hgr5 hat5 hM6 hgr6
          have hb6 : Below w.heap.size w w6 := ((((below_next hb1 (by omega) hbx).drew).alloc (by have := hbx.size; simp; omega) _).grown hgr5 (by have := hbx.size; simp; omega) (fun i e => by rw [← HV.out] at e; have := HVn _ e; omega)).grown hgr6 (by have := hgr5.size; have := hbx.size; simp at *; omega) (fun i e => by injection e with e; omega)
          go_wp2
          go_roundw
          case rel => exact ⟨k + 1, k' + 1, _, by omega, by go_num, by omega, by rw [HT.out, hG.out]; exact g6, hb6⟩
          case measure => simp [intOf]; omega
      · have hG := Lib.hid (grpL_no (l.take k) known x hkn)
        go_wp2_with (first
          | (refine ldD 16 rfl rfl hr rfl ?_)
          | (refine stD 7 17 rfl rfl kZ rfl rfl ?_))
        go_roundw
        case rel => exact ⟨k + 1, k', f, by omega, by go_num, by omega, by rw [HT.out, hG.out]; exact g2, below_next hb1 (by omega) hbx⟩
        case measure => simp [intOf]; omega
    · obtain rfl : k = l.length := by omega
      rw [List.take_length] at g1
      have hMa : MapIs (wr.alloc (.map #[] 0)) Tryz.prog 9 w.heap.size k' f := g1.map.alloc _
      have hM2 : MapIs (wr.alloc (.map #[] 0)) Tryz.prog 9 wr.heap.size 0 (fun _ => none) := MapIs.made wr Tryz.prog 9
      have hba := below_new wr (.map #[] 0)
      go_wp2_with (refine wpl_range rfl (.tmp 34) 155 rfl 58 keyT Tryz.underlying155 rfl hMa ?_; intro w1 cnt0 hr1 hb2 hz1)
      have hsz : (wr.alloc (.map #[] 0)).heap.size = wr.heap.size + 1 := by simp
      go_frame
      simp only [hsz] at hr1 hb2 ⊢
      have hM3 := hM2.below hb2 (by omega)
      go_loopw [36] (fun t36 wq => ∃ (cnt kk : Nat) (left : List UInt8 → Bool), RgIs wq Tryz.prog 9 w.heap.size (wr.heap.size + 1) k' f left cnt ∧ (∀ s, left s = true → (f s).isSome = true) ∧ kk + cnt ≤ k' ∧ MapIs wq Tryz.prog 9 wr.heap.size kk (fun s => if left s then none else bookV (bookF l known) s) ∧ Below wr.heap.size wr wq) (fun _ wq => wq.rangeLeft w.heap.size (wr.heap.size + 1))
      case atStart =>
        refine ⟨cnt0, 0, _, hr1, fun s h => h, by have := hr1.cnt_le; omega, hM3.congr fun s => ?_, hba.trans (hb2.mono (by omega))⟩
        cases hf : f s with
        | some v => rfl
        | none =>
          have : grpL l known s = [] := Classical.byContradiction fun e => by
            obtain ⟨g, c, e2, _⟩ := g1.row s e
            rw [hf] at e2; cases e2
          simp [bookV, bookF, this]
      case round =>
        obtain ⟨cnt, kk, left, hR, hL, hkk, hM, hbq⟩ := hrel
        clear hr1 hb2 hM3 hMa hM2 hba hsz
        go_wp2_with (refine wpl_next rfl (.tmp 35) rfl keyT Tryz.underlying9 rfl hR hL ?_ ?_)
        · intro hl0
          go_wp2_with fail
          go_ret
          exact ⟨_, kk, rfl, by omega, by omega, hM.congr fun s => by rw [hl0 s]; rfl, below_next hb1 (by omega) hbq⟩
        · intro s v w2 cnt' hs hls hfs hR2 hct hgr hsz2 hen
          have hGne : grpL l known s.data.toList ≠ [] := fun e => by rw [g1.none _ e] at hfs; cases hfs
          obtain ⟨g, c, e1, ho⟩ := g1.row _ hGne
          rw [hfs] at e1
          obtain rfl := Option.some.inj e1
          obtain ⟨d0, tl, hdt⟩ := List.exists_cons_of_ne_nil hGne
          rw [hdt] at ho hen ⊢
          have hlen : (d0 :: tl).length ≤ 1000000 := by rw [← hdt]; have := grpL_len l known s.data.toList; omega
          have hb2 := hbq.grown hgr hbq.size (fun i e => by injection e with e; omega)
          have hDA := DefsAt.of_own (own_below ho hb2)
          have hgl : g < w2.heap.size := Nat.lt_of_lt_of_le (ho.lt g rfl).2 hb2.size
          have hM2 := hM.kept hgr (by simp)
          have hT := Lib.hid hdt
          have hLE := Lib.hid hR.left_eq
          have hLn : ∀ x, (left x && !decide (x = s.data.toList)) = true → (f x).isSome = true := fun x e => hL x (by simp at e; exact e.1)
          have hlt3 := hR2.lt
          have hml2 := hM2.lt
          clear hdt ho hGne hfs hsz2 hL hR
          go_wp2_with (first
            | (go_at_call 123; refine (maxFunc_any g c d0 tl w2 hDA hlen hgl).mono ?_; rintro e w3 ⟨rfl, hb3⟩)
            | (refine wpl_put rfl (.tmp 41) (.tmp 42) (.tmp 44) 130 60 rfl Tryz.underlying130 (hM2.below hb3 hM2.lt) (by unfold maxLen; omega) s hs (.agg (dfA (maxD d0 tl))) rfl rfl rfl ?_; intro w4 hM4 hgr4 hz4))
          have hR3 := (hR2.below hb3 (by omega) hlt3).kept hgr4 (by simp; omega) (by simp)
          have hb4 := (below_next hb2 (by omega) hb3).grown hgr4 (by have := hb3.size; omega) (fun i e => by injection e with e; omega)
          simp only [Act.put]
          go_roundw
          case rel =>
            refine ⟨cnt', kk + 1, _, hR3, hLn, by omega, hM4.congr fun x => ?_, hb4⟩
            by_cases e : x = s.data.toList
            · have e2 : bookV (bookF l known) s.data.toList = some (.agg (dfA (maxD d0 tl))) := by unfold bookV bookF; rw [hT.out]; rfl
              simp [e, e2]
            · simp [e]
          case measure => rw [hR3.left_eq, hLE.out]; exact hct
end Go.Proofs.YtbhiphjifdnhmaaGreatDoor
