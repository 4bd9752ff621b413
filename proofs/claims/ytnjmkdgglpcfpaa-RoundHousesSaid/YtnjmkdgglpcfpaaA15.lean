import Derived.Test.YtnjmkdgglpcfpaaA14
namespace Go.Proofs.Ytnjmkdgglpcfpaa
open Go.RowKit

theorem cols_mem {q : Nat → Bool} {C : Int} (hq : ∀ i, q i = true → (i : Int) < C) {x : Int} (h : x ∈ cols q) : 0 ≤ x ∧ x < C := by
  obtain ⟨i, _, hi, rfl⟩ := colsTo_mem.1 h
  exact ⟨by omega, hq i hi⟩
theorem cols_len (q : Nat → Bool) : (cols q).length ≤ 120 := colsTo_len q 120
/-- with which stand a fewest round begins -/
def firstOf (C B F : Int) (p q : Nat → Bool) (c : Int) : Int := leastOf (costOf C B F p q) (opens C B F p c)
theorem leastGo_mem (cost : Int → Int) : ∀ (l : List Int) (best low : Int), leastGo cost best low l = best ∨ leastGo cost best low l ∈ l
  | [], _, _ => .inl rfl
  | t :: l, best, low => by
    unfold leastGo
    split
    · rcases leastGo_mem cost l t (cost t) with h | h
      · exact .inr (by rw [h]; simp)
      · exact .inr (by simp [h])
    · rcases leastGo_mem cost l best low with h | h
      · exact .inl h
      · exact .inr (by simp [h])
theorem leastOf_mem (cost : Int → Int) {l : List Int} (h : l ≠ []) : leastOf cost l ∈ l := by
  cases l with
  | nil => exact absurd rfl h
  | cons x l =>
    rcases leastGo_mem cost l x (cost x) with h | h
    · show leastGo cost x (cost x) l ∈ x :: l
      rw [h]
      simp
    · exact List.mem_cons_of_mem _ h
/-- the stands of a round that begins with the best stand, before they are sorted -/
def rawOf (C B F : Int) (p q : Nat → Bool) (c : Int) : List Int := afters C B F p q (firstOf C B F p q c) ++ [firstOf C B F p q c]

/-- the list sorted, as the library's sort does it -/
def srt (zs : List Int) : List Int := zs.mergeSort fun x y => decide (x ≤ y)
/-- what slices.Sort does to a slice of the caller's own -/
def SortSaid : Prop := ∀ (base : Nat) (A : Option Addr) (c : Nat) (zs : List Int) (W : World), base ≤ W.heap.size → zs.length ≤ 1000000 → W.ownsRow base 3 1 (.slice A zs.length c) zs.length (zs.map (Value.int .i64)) →
  Calls Try.prog 71 #[.slice A zs.length c] W fun e w' => e = .returned (.tuple #[]) ∧ w'.ownsRow base 3 1 (.slice A zs.length c) (srt zs).length ((srt zs).map (Value.int .i64)) ∧ Below base W w'
theorem srt_len (zs : List Int) : (srt zs).length = zs.length := List.length_mergeSort zs
/-- a fewest round, if there is one -/
def fewL (C B F : Int) (p q : Nat → Bool) : Option (List Int) :=
  match cols q with
  | [] => some []
  | c :: l => if (c :: l).all (fun x => !(opens C B F p x).isEmpty) then some (srt (rawOf C B F p q c)) else none
/-- what 'fewest' hands back -/
def RetFew (w : World) (r : Option (List Int)) (e : Ending) (w' : World) : Prop :=
  match r with
  | none => e = .returned (.tuple #[.slice none 0 0, .bool false]) ∧ Below w.heap.size w w'
  | some l => ∃ A c, e = .returned (.tuple #[.slice A l.length c, .bool true]) ∧ w'.ownsRow w.heap.size 3 1 (.slice A l.length c) l.length (l.map (Value.int .i64)) ∧ Below w.heap.size w w'
theorem own_facts {w : World} {base : Nat} {A : Option Addr} {c : Nat} {l : List Int} (h : w.ownsRow base 3 1 (.slice A l.length c) l.length (l.map (Value.int .i64))) : l.length ≤ c ∧ c ≤ maxLen ∧ Ints w w.heap.size A l := by
  obtain ⟨A', c', hv, h1, h2⟩ := own_form h
  cases hv
  exact ⟨h1, h2, Ints.of_own h⟩
theorem aft_len {C B F : Int} {p q : Nat → Bool} {s : Int} (h : 1 ≤ C) (hK : bhK C B F ≤ 120) : (afters C B F p q s).length ≤ 120 := by
  have h1 := (aft_fold (B := B) (F := F) (p := p) h (bhTo C F q s (bhK C B F)) [] (by simp)).1
  have h2 := bhTo_len C F q s (bhK C B F)
  unfold afters
  simp at h1
  omega

set_option maxRecDepth 100000 in
set_option maxHeartbeats 2000000 in
/-- the way of 'fewest' to the sort -/
theorem fewest_any (hsort : Hid SortSaid) (C R B F : Int) (sl : Value) (p q : Nat → Bool) (w : World) (h1 : 1 ≤ C) (h2 : C ≤ 120) (h7 : 0 ≤ B) (h8 : 0 ≤ F) (h9 : F < C - B) (hq : ∀ i, q i = true → (i : Int) < C) :
    Calls Try.prog 94 #[.agg (sv C R B F sl p q)] w (RetFew w (fewL C B F p q)) := by
  have hblk := Blk.new w 106 (sv C R B F sl p q)
  have hrow := hblk.svWantedRow
  have hcm : Hid (∀ x ∈ cols q, 0 ≤ x ∧ x < C) := fun x hx => cols_mem hq hx
  have hcl := cols_len q
  have hfew : fewL C B F p q = match cols q with | [] => some [] | c :: l => if (c :: l).all (fun x => !(opens C B F p x).isEmpty) then some (srt (rawOf C B F p q c)) else none := rfl
  generalize fewL C B F p q = res at hfew ⊢
  generalize hcs : cols q = cs at hcm hcl hfew
  have HCS := Lib.hid hcs
  clear hcs hq
  cases cs with
  | nil =>
    have HF : Hid (res = some []) := hfew
    clear hfew
    go_enter Try.func94, Try.ntmps94
    go_wp2_with (first
      | (refine wpList_load_mid (by rfl) 93 _ (by rfl) _ 125 (by rfl) _ _ hrow Try.underlying93 rfl (info93l _) ?_)
      | (go_at_call 78; refine (list_any q _).mono ?_; rw [HCS.out]; rintro e w1 ⟨A, c', rfl, e1, e2, e3, hb1⟩))
    go_ret2
    rw [HF.out]
    exact ⟨none, 0, rfl, World.ownsRow_nil _ _ _ _, below_next (below_new _ _) (by simp) hb1⟩
  | cons c0 cs =>
    have HF : Hid (res = if (c0 :: cs).all (fun x => !(opens C B F p x).isEmpty) then some (srt (rawOf C B F p q c0)) else none) := hfew
    clear hfew
    have hl0 : (((c0 :: cs).length : Nat) : Int) ≤ 120 := by omega
    have hl1 : (1 : Int) ≤ (((c0 :: cs).length : Nat) : Int) := by simp; omega
    have hl2 : ((((c0 :: cs).length : Nat) : Int) == 0) = false := by simp; omega
    have hc0 : Hid ((c0 :: cs)[0]? = some c0) := rfl
    generalize c0 :: cs = L at *
    go_enter Try.func94, Try.ntmps94
    go_wp2_with (first
      | (refine wpList_load_mid (by rfl) 93 _ (by rfl) _ 125 (by rfl) _ _ hrow Try.underlying93 rfl (info93l _) ?_)
      | (go_at_call 78; refine (list_any q _).mono ?_; rw [HCS.out]; rintro e w1 ⟨A, c', rfl, e1, e2, e3, hb1⟩))
    have hb : Below w.heap.size w w1 := below_next (below_new _ _) (by simp) hb1
    have hbs1 : Blk w1 w.heap.size 106 (sv C R B F sl p q) := hblk.below hb1 (by simp)
    clear hblk hrow hb1
    go_loopw [6, 17] (fun _ i wr => ∃ k : Nat, k ≤ L.length ∧ i = .int .i64 k ∧ Hid ((L.take k).all (fun x => !(opens C B F p x).isEmpty) = true) ∧ Below w1.heap.size w1 wr)
      (fun _ i _ => L.length - (intOf i).toNat)
    case atStart => exact ⟨0, Nat.zero_le _, rfl, rfl, Below.refl _ _⟩
    case round =>
      obtain ⟨k, hk, rfl, hall, hbw⟩ := hrel
      have hbr : Blk wr w.heap.size 106 (sv C R B F sl p q) := (hbw.block _ hbs1.lt).trans hbs1
      have hz := hbw.size
      by_cases hlt : k < L.length
      · obtain ⟨ad, rfl, hadb, hce⟩ := (e3.below hbw).get hlt
        have hm := hcm.out _ (List.getElem_mem hlt)
        by_cases ho : opens C B F p L[k] = []
        · have hn : Hid (none = res) := by
            unfold Hid
            rw [HF.out, if_neg]
            intro h
            have := List.all_eq_true.1 h _ (List.getElem_mem hlt)
            simp [ho] at this
          have HO := Lib.hid ho
          clear hall HF ho
          go_wp2_with (first
            | (refine wpList_load_row (by rfl) 106 _ (by rfl) _ (by rfl) 106 _ (0, 0) _ hbr Try.underlying106 rfl (info106 _ _ _ _ _ _ _) ?_)
            | (go_at_call 88; refine (sStands_any C R B F sl p q _ _ h1 h2 hm.1 hm.2 h7 h8 h9).mono ?_; rw [HO.out]; rintro e w3 ⟨A3, c3, rfl, f1, f2, f3, hb3⟩))
          go_ret2
          rw [← hn.out]
          exact ⟨rfl, below_next (below_next hb hb.size hbw) (Nat.le_trans hb.size hz) hb3⟩
        · have hn : Hid ((L.take (k + 1)).all (fun x => !(opens C B F p x).isEmpty) = true) := by
            unfold Hid
            rw [List.take_succ_eq_append_getElem hlt, List.all_append, hall.out]
            simp [ho]
          have hol := opens_len (C := C) (B := B) (F := F) (p := p) (c := L[k]) h2
          have ho1 : (((opens C B F p L[k]).length : Nat) == 0) = false := by simp [ho]
          have ho2 : ((((opens C B F p L[k]).length : Nat) : Int) == 0) = false := by
            have : 0 < (opens C B F p L[k]).length := List.length_pos_iff.2 ho
            simp; omega
          clear hall ho ho1
          go_wp2_with (first
            | (refine wpList_load_row (by rfl) 106 _ (by rfl) _ (by rfl) 106 _ (0, 0) _ hbr Try.underlying106 rfl (info106 _ _ _ _ _ _ _) ?_)
            | (go_at_call 88; refine (sStands_any C R B F sl p q _ _ h1 h2 hm.1 hm.2 h7 h8 h9).mono ?_; rintro e w3 ⟨A3, c3, rfl, f1, f2, f3, hb3⟩))
          go_roundw
          case rel => exact ⟨k + 1, by omega, by go_num, hn, below_next hbw hz hb3⟩
          case measure => simp [intOf]; try omega
      · have hn : Hid (some (srt (rawOf C B F p q c0)) = res) := by
          unfold Hid
          rw [HF.out, if_pos]
          have := hall.out
          rwa [List.take_of_length_le (by omega)] at this
        have ho : opens C B F p c0 ≠ [] := by
          have := hall.out
          rw [List.take_of_length_le (by omega)] at this
          have := List.all_eq_true.1 this c0 (List.mem_of_getElem? hc0.out)
          simpa using this
        have HO := Lib.hid ho
        obtain ⟨ad, rfl, hadb, hce⟩ := (e3.below hbw) 0 c0 hc0.out
        have hce' : wr.cell? ad = some (.int .i64 c0) := hce
        have hm := hcm.out _ (List.mem_of_getElem? hc0.out)
        clear hall HF ho hce
        go_wp2_with fail
        have hl3 : 0 < L.length := by omega
        obtain ⟨o0, os, hOS⟩ : ∃ o0 os, opens C B F p c0 = o0 :: os := by
          cases hh : opens C B F p c0 with
          | nil => exact absurd hh HO.out
          | cons o0 os => exact ⟨o0, os, rfl⟩
        have hol := opens_len (C := C) (B := B) (F := F) (p := p) (c := c0) h2
        have hom : ∀ x ∈ opens C B F p c0, 0 ≤ x ∧ x < C := fun x hx => opens_mem hx
        have hfm : 0 ≤ firstOf C B F p q c0 ∧ firstOf C B F p q c0 < C := hom _ (leastOf_mem _ HO.out)
        have hraw : Hid (rawOf C B F p q c0 = afters C B F p q (firstOf C B F p q c0) ++ [firstOf C B F p q c0]) := rfl
        have hfo : Hid (leastOf (costOf C B F p q) (o0 :: os) = firstOf C B F p q c0) := by unfold Hid firstOf; rw [hOS]
        rw [hOS] at hol hom
        have HOS := Lib.hid hOS
        generalize firstOf C B F p q c0 = fst at hfm hraw hfo
        have hal := aft_len (B := B) (F := F) (p := p) (q := q) (s := fst) h1 (by unfold bhK; omega)
        clear hOS
        refine wp_region_held_drew (S := fun w' => Blk w' w.heap.size 106 (sv C R B F sl p q) ∧ w'.cell? ad = some (.int .i64 c0)) (by kernel_rfl) ⟨hbr, hce'⟩ (fun hHeld => ?_)
        (refine wpAnyH_take (i := 0) (v := .agg (sv C R B F sl p q)) rfl (by kernel_rfl) (by kernel_rfl) (by kernel_rfl) (fun _ _ _ h => h) (yieldsIf_load_row (by rfl) 106 _ rfl _ rfl 106 _ (0, 0) _ (fun w5 hS5 => hS5.1) Try.underlying106 rfl (info106 _ _ _ _ _ _ _)) (by assumption) ?_; (try simp only [List.getElem_toArray, List.getElem_cons_zero, Act.put, List.setIfInBounds_toArray, List.set_cons_zero, List.set_cons_succ]))
        (refine wpAnyH_take (i := 1) (v := ?_) rfl (by kernel_rfl) (by kernel_rfl) (by kernel_rfl) (fun _ _ _ h => h) (Or.inl ⟨by rfl, ?_⟩) (by assumption) ?_; rotate_left; (· intro w5 hS5; (try dsimp only at hS5); go_simp <;> with_reducible rfl); (try simp only [List.getElem_toArray, List.getElem_cons_zero, List.getElem_cons_succ, Act.put, List.setIfInBounds_toArray, List.set_cons_zero, List.set_cons_succ]))
        (refine wpAnyH_take (i := 2) (v := ?_) rfl (by kernel_rfl) (by kernel_rfl) (by kernel_rfl) (fun _ _ _ h => h) (Or.inl ⟨by rfl, ?_⟩) (by assumption) ?_; rotate_left; (· intro w5 hS5; (try dsimp only at hS5); go_simp <;> with_reducible rfl); (try simp only [List.getElem_toArray, List.getElem_cons_zero, List.getElem_cons_succ, Act.put, List.setIfInBounds_toArray, List.set_cons_zero, List.set_cons_succ]))
        (refine wpAnyH_take (i := 3) (v := ?_) rfl (by kernel_rfl) (by kernel_rfl) (by kernel_rfl) (fun _ _ _ h => h) (Or.inl ⟨by rfl, ?_⟩) (by assumption) ?_; rotate_left; (· intro w5 hS5; (try dsimp only at hS5); go_simp <;> with_reducible rfl); (try simp only [List.getElem_toArray, List.getElem_cons_zero, List.getElem_cons_succ, Act.put, List.setIfInBounds_toArray, List.set_cons_zero, List.set_cons_succ]))
        (refine wpAnyH_take (i := 5) (v := ?_) rfl (by kernel_rfl) (by kernel_rfl) (by kernel_rfl) (fun _ _ _ h => h) (Or.inl ⟨by rfl, ?_⟩) (by assumption) ?_; rotate_left; (· intro w5 hS5; (try dsimp only at hS5); go_simp <;> with_reducible rfl); (try simp only [List.getElem_toArray, List.getElem_cons_zero, List.getElem_cons_succ, Act.put, List.setIfInBounds_toArray, List.set_cons_zero, List.set_cons_succ]))
        (refine wpAnyH_ready (rs := [4]) (by kernel_rfl) (by simp) ?_; refine AllReadyH.cons rfl (fun K hK => ?_) AllReadyH.nil)
        go_simp
        refine (sStands_any C R B F sl p q _ _ h1 h2 hm.1 hm.2 h7 h8 h9).mono ?_
        rw [HOS.out]
        rintro e w3 ⟨A3, c3, rfl, f1, f2, f3, hb3⟩
        have hbr3 : Blk w3 w.heap.size 106 (sv C R B F sl p q) := (hb3.block _ hbr.lt).trans hbr
        refine hK.out _ _ ⟨hbr3, (hb3.cell (p := ad) (World.block_lt_of_cell? wr _ hce')).trans hce'⟩ (fun hHeld => ?_)
        clear hK K
        (try simp only [List.getElem_toArray, List.getElem_cons_zero, List.getElem_cons_succ, Act.put, List.setIfInBounds_toArray, List.set_cons_zero, List.set_cons_succ])
        (refine wpAnyH_ready (rs := [6]) (by kernel_rfl) (by simp) ?_; refine AllReadyH.cons rfl (fun K hK => ?_) AllReadyH.nil)
        go_simp
        refine (least_any C R B F sl p q w.heap.size A3 c3 o0 os _ h1 h2 h7 h8 h9 hbr3 f3 hom (by simp at hol; omega) f1).mono ?_
        rw [hfo.out]
        rintro e w4 ⟨rfl, hb4⟩
        have hbr4 : Blk w4 w.heap.size 106 (sv C R B F sl p q) := (hb4.block _ hbr3.lt).trans hbr3
        have hz3 := hb3.size
        have hz4 := hb4.size
        refine hK.out _ _ ⟨hbr4, (hb4.cell (p := ad) (World.block_lt_of_cell? w3 _ ((hb3.cell (p := ad) (World.block_lt_of_cell? wr _ hce')).trans hce'))).trans ((hb3.cell (p := ad) (World.block_lt_of_cell? wr _ hce')).trans hce')⟩ (fun hHeld => ?_)
        clear hK K
        (try simp only [List.getElem_toArray, List.getElem_cons_zero, List.getElem_cons_succ, Act.put, List.setIfInBounds_toArray, List.set_cons_zero, List.set_cons_succ])
        (refine wpAnyH_take (i := 7) (v := ?_) rfl (by kernel_rfl) (by kernel_rfl) (by kernel_rfl) (fun _ _ _ h => h) (Or.inl ⟨by rfl, ?_⟩) (by assumption) ?_; rotate_left; (· intro w5 hS5; (try dsimp only at hS5); go_simp <;> with_reducible rfl); (try simp only [List.getElem_toArray, List.getElem_cons_zero, List.getElem_cons_succ, Act.put, List.setIfInBounds_toArray, List.set_cons_zero, List.set_cons_succ]))
        refine wpAnyH_done (by kernel_rfl) ?_ _
        clear hHeld
        have hb4w : Below w.heap.size w w4 := below_next (below_next (below_next hb hb.size hbw).drew (Nat.le_trans hb.size hz) hb3) (Nat.le_trans (Nat.le_trans hb.size hz) hz3) hb4
        go_wp2_with (first
          | (refine wpList_load_row (by rfl) 106 _ (by rfl) _ (by rfl) 106 _ (0, 0) _ hbr4 Try.underlying106 rfl (info106 _ _ _ _ _ _ _) ?_)
          | (go_at_call 97; refine (after_own C R B F sl p q fst _ h1 h2 hfm.1 hfm.2 h7 h8 h9).mono ?_; rintro e w5 ⟨A5, c5, rfl, hown5, hb5⟩)
          | (at_builtin; refine app1 (by rfl) _ _ (by rfl) w4.heap.size (afters C B F p q fst) fst _ (by rfl) hown5 (by rfl) (by omega) hb5.size ?_; intro A6 c6 w6 hown6 hb6; rw [← hraw.out] at hown6; have hlr : Hid ((rawOf C B F p q c0).length = (afters C B F p q fst ++ [fst]).length) := by unfold Hid; rw [hraw.out])
          | (go_at_call 71; rw [show (afters C B F p q fst).length + 1 = (rawOf C B F p q c0).length by rw [hraw.out]; simp]; refine (hsort.out w4.heap.size A6 c6 (rawOf C B F p q c0) _ (Nat.le_trans hb5.size hb6.size) (by rw [hraw.out]; simp; omega) hown6).mono ?_; rintro e w7 ⟨rfl, hown7, hb7⟩))
        go_ret2
        rw [← hn.out]
        have hsl := srt_len (rawOf C B F p q c0)
        rw [← hsl] at hown7 ⊢
        have hz4w := Nat.le_trans (Nat.le_trans (Nat.le_trans hb.size hz) hz3) hz4
        exact ⟨A6, c6, rfl, own_less hown7 hz4w, below_next hb4w hz4w ((hb5.trans hb6).trans hb7)⟩

theorem filt_yes {L : List Int} {k : Nat} {pu : Int → Bool} (hk : k < L.length) (h : pu L[k] = true) : (L.take (k + 1)).filter pu = (L.take k).filter pu ++ [L[k]] := by
  rw [List.take_succ_eq_append_getElem hk, List.filter_append]
  simp [h]
theorem filt_no {L : List Int} {k : Nat} {pu : Int → Bool} (hk : k < L.length) (h : pu L[k] = false) : (L.take (k + 1)).filter pu = (L.take k).filter pu := by
  rw [List.take_succ_eq_append_getElem hk, List.filter_append]
  simp [h]
theorem filt_len {L : List Int} {k : Nat} {pu : Int → Bool} : ((L.take k).filter pu).length ≤ L.length := by
  have := List.length_filter_le pu (L.take k)
  have := List.length_take_le' k L
  omega

end Go.Proofs.Ytnjmkdgglpcfpaa
