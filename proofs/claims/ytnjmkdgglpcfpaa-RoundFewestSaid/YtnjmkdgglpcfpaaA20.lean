import Derived.Test.YtnjmkdgglpcfpaaA19
namespace Go.Proofs.Ytnjmkdgglpcfpaa
open Go.RowKit

theorem sv_setShut (C R B F : Int) (sl : Value) (p q : Nat → Bool) (m : Nat) (b : Bool) (h : m < 120) : (sv C R B F sl p q).setIfInBounds (5 + m) (.bool b) = sv C R B F sl (fun i => if (i : Int) = (m : Int) then b else p i) q := by
  have h5 : (hcs C R B F sl).size = 5 := rfl
  have hm := mk_size p
  unfold sv
  rw [Array.setIfInBounds_append_left (by simp [h5, hm]; omega), Array.setIfInBounds_append_right (by simp [h5]), h5, show 5 + m - 5 = m by omega, mk_set _ _ _ h]
  have e : (fun i => if i = m then b else p i) = (fun i : Nat => if (i : Int) = (m : Int) then b else p i) := by
    funext i
    by_cases hi : i = m
    · rw [if_pos hi, if_pos (by omega)]
    · rw [if_neg hi, if_neg (by omega)]
  rw [e]
theorem sv_setWanted (C R B F : Int) (sl : Value) (p q : Nat → Bool) (m : Nat) (b : Bool) (h : m < 120) : (sv C R B F sl p q).setIfInBounds (125 + m) (.bool b) = sv C R B F sl p (fun i => if (i : Int) = (m : Int) then b else q i) := by
  have h5 : (hcs C R B F sl ++ mk p).size = 125 := by simp [hcs, mk_size]
  unfold sv
  rw [Array.setIfInBounds_append_right (by simp [hcs, mk_size]), h5, show 125 + m - 125 = m by omega, mk_set _ _ _ h]
  have e : (fun i => if i = m then b else q i) = (fun i : Nat => if (i : Int) = (m : Int) then b else q i) := by
    funext i
    by_cases hi : i = m
    · rw [if_pos hi, if_pos (by omega)]
    · rw [if_neg hi, if_neg (by omega)]
  rw [e]

theorem save_still {n : Nat} {q : Nat → Bool} {m : Nat} (h : ∀ i : Nat, q i = true → (i : Int) < (n : Int)) (i : Nat) (hi : (if (i : Int) = (m : Int) then false else q i) = true) : (i : Int) < (n : Int) := by
  split at hi
  · cases hi
  · exact h i hi
theorem fewL_mem {C B F : Int} {p q : Nat → Bool} {l : List Int} (h : 1 ≤ C) (hl : fewL C B F p q = some l) : ∀ x ∈ l, 0 ≤ x ∧ x < C := by
  unfold fewL at hl
  split at hl
  · cases hl
    simp
  · rename_i c cs _
    split at hl
    · rename_i hall
      cases hl
      intro x hx
      have hx : x ∈ rawOf C B F p q c := by
        have : x ∈ (rawOf C B F p q c).mergeSort fun x y => decide (x ≤ y) := hx
        simpa using this
      have ho : opens C B F p c ≠ [] := by
        have := List.all_eq_true.1 hall c (by simp)
        simpa using this
      rcases List.mem_append.1 hx with hx | hx
      · exact (aft_fold (B := B) (F := F) (p := p) h _ [] (by simp)).2 x hx
      · obtain rfl := List.mem_singleton.1 hx
        exact opens_mem (leastOf_mem _ ho)
    · cases hl
theorem fewL_len {C B F : Int} {p q : Nat → Bool} {l : List Int} (h : 1 ≤ C) (h2 : C ≤ 120) (h3 : 0 ≤ B) (h4 : 0 ≤ F) (hl : fewL C B F p q = some l) : l.length ≤ 121 := by
  unfold fewL at hl
  split at hl
  · cases hl
    simp
  · split at hl
    · cases hl
      rw [srt_len]
      have := aft_len (B := B) (F := F) (p := p) (q := q) (s := firstOf C B F p q ‹_›) h (by unfold bhK; omega)
      simp [rawOf]
      omega
    · cases hl
theorem findL_good {C R B F : Int} {cl l : List Int} (hf : findErr C R B F cl l = 0) : fewL C B F (isIn cl) (isIn (colm C l)) = some (findL C R B F cl l) := by
  have hk := findErr_ok hf
  cases h : fewL C B F (isIn cl) (isIn (colm C l)) with
  | none => rw [(findErr_none hk h).1] at hf; cases hf
  | some L => rw [(findErr_some hk h).2]

set_option maxRecDepth 100000 in
set_option maxHeartbeats 4000000 in
theorem needed_any {C R B F : Int} {A0 : Option Addr} {cap : Nat} {cl : List Int} {D : Option Addr} {dap : Nat} {l : List Int} (w : World) (hB : B ≤ 9223372036854775807) (hcl : cl.length ≤ 9223372036854775807) (hr : Ints w w.heap.size A0 cl) (hl : Ints w w.heap.size D l) (hll : l.length ≤ 9223372036854775807) :
    Calls Try.prog 43 #[.agg #[.int .i64 C, .int .i64 R, .int .i64 B, .int .i64 F, .slice A0 cl.length cap], .slice D l.length dap] w
      (RetInts2 w (if findErr C R B F cl l = 0 then (findL C R B F cl l).filter (neededP C B F (isIn cl) (isIn (colm C l)) (findL C R B F cl l).length) else []) (findErr C R B F cl l)) := by
  have hb0 := below_new w (.cells #[.int .i64 C, .int .i64 R, .int .i64 B, .int .i64 F, .slice A0 cl.length cap] 24)
  have hr1 := hr.behind hb0
  have hl1 := hl.behind hb0
  by_cases he : findErr C R B F cl l = 0
  · have hk := findErr_ok he
    have hok := hk.ok
    have k1 := hok.c3
    have k2 := hok.c120
    have k3 := hok.b0
    have k4 := hok.f0
    have k5 := hok.bf
    have hfew := findL_good he
    have hLm := Lib.hid (fewL_mem (by omega) hfew)
    have hLn := fewL_len (by omega) k2 k3 k4 hfew
    have hwq : Hid (∀ i : Nat, isIn (colm C l) i = true → (i : Int) < C) := fun i hi => (hk.cols (i : Int) (by simpa [isIn] using hi)).2
    obtain ⟨n, rfl⟩ := Int.eq_ofNat_of_zero_le (show 0 ≤ C by omega)
    rw [if_pos he, he]
    have HE := Lib.hid he
    generalize hL : findL n R B F cl l = L at hLm hLn
    generalize hp : neededP n B F (isIn cl) (isIn (colm n l)) L.length = pu
    have HL := Lib.hid hL
    have HP := Lib.hid hp
    clear hL hp he hfew
    go_enter Try.func43, Try.ntmps43
    go_wp2_with (first
      | (go_at_call 86; refine (find_any _ hB hcl hr1 hl1 hll).mono ?_; unfold RetFind; rw [HL.out, HE.out]; rintro e w0 ⟨vs, A1, c1, hvs, hone, hval, rfl, e1, e2, e3, hb1⟩; have HS := Lib.hid (hval rfl); have HV := Lib.hid hvs; have HO := Lib.hid hone; clear hvs hone hval)
      | (refine wpList_store_row (by rfl) 106 _ _ (by rfl) w0.heap.size _ (by rfl) (by rfl) 106 Try.zeroCells106 (Blk.new w0 106 _) (info106s HV.out) (Try.zeroCells106_size.trans HV.out.symm) HO.out ?_; have hbs0 := (Blk.new w0 106 Try.zeroCells106).setRow vs; have hb2 : Below w0.heap.size w0 ((w0.alloc (.cells Try.zeroCells106 106)).setRow w0.heap.size vs) := below_setRow (below_new _ _) (Nat.le_refl _) _)
      | fail)
    have hba : Below w.heap.size w ((w0.alloc (.cells Try.zeroCells106 106)).setRow w0.heap.size vs) := below_next (below_next hb0 (by simp) hb1) (by have := hb1.size; simp at this; omega) hb2
    have hI := e3.behind hb2
    have hg : w0.heap.size < ((w0.alloc (.cells Try.zeroCells106 106)).setRow w0.heap.size vs).heap.size := hbs0.lt
    have hz0 : w.heap.size ≤ w0.heap.size := by have := hb1.size; simp at this; omega
    generalize (w0.alloc (.cells Try.zeroCells106 106)).setRow w0.heap.size vs = w1 at hbs0 hba hI hg hb2 ⊢
    go_loopw [9, 11, 12, 13, 14, 27] (fun v _ _ _ _ i wr => ∃ k : Nat, ∃ A c', k ≤ L.length ∧ i = .int .i64 k ∧ v = .slice A ((L.take k).filter pu).length c' ∧ Below w1.heap.size w1 wr ∧ Blk wr w0.heap.size 106 vs ∧ wr.ownsRow w1.heap.size 3 1 (.slice A ((L.take k).filter pu).length c') ((L.take k).filter pu).length (((L.take k).filter pu).map (Value.int .i64)))
      (fun _ _ _ _ _ i _ => L.length - (intOf i).toNat)
    case atStart => exact ⟨0, none, 0, Nat.zero_le _, rfl, rfl, Below.refl _ _, hbs0, World.ownsRow_nil _ _ _ _⟩
    case round =>
      obtain ⟨k, A, c', hk, rfl, rfl, hb, hbs, hown⟩ := hrel
      have hlt1 := hbs.lt
      have hzr := hb.size
      by_cases hlt : k < L.length
      · obtain ⟨ad, hade, hadb, hce⟩ := (hI.below hb).get hlt
        subst hade
        have hx := hLm.out _ (List.getElem_mem hlt)
        obtain ⟨m, hm⟩ := Int.eq_ofNat_of_zero_le hx.1
        have hfl := filt_len (L := L) (k := k) (pu := pu)
        have hy := filt_yes (pu := pu) hlt
        have hn := filt_no (pu := pu) hlt
        rw [hm] at hce hx hy hn
        have HY := Lib.hid hy
        have HN := Lib.hid hn
        clear hm hy hn
        have hvm : Hid (vs[5 + m]? = some (.bool (isIn cl m))) := by unfold Hid; rw [HS.out]; exact sv_shut _ _ _ _ _ _ _ m (by omega)
        obtain ⟨us, hus⟩ : ∃ us, vs.setIfInBounds (5 + m) (.bool true) = us := ⟨_, rfl⟩
        have HU : Hid (vs.setIfInBounds (5 + m) (.bool true) = us) := hus
        have HUS : Hid (us.size = 245) := by unfold Hid; rw [← hus]; simp [HV.out]
        have hus2 : us = sv n R B F (.slice A0 cl.length cap) (fun i => if (i : Int) = (m : Int) then true else isIn cl i) (isIn (colm n l)) := by rw [← hus, HS.out]; exact sv_setShut _ _ _ _ _ _ _ m _ (by omega)
        have hfw : Hid (∀ w, Calls Try.prog 94 #[.agg us] w (RetFew w (fewL n B F (fun i => if (i : Int) = (m : Int) then true else isIn cl i) (isIn (colm n l))))) := fun w => by
          rw [hus2]
          exact fewest_any sort_any n R B F _ _ _ _ (by omega) k2 k3 k4 (by omega) (fun i hi => hwq.out i hi)
        clear hus hus2
        cases hf : fewL n B F (fun i => if (i : Int) = (m : Int) then true else isIn cl i) (isIn (colm n l)) with
        | none =>
          have HPU : Hid (pu m = true) := by unfold Hid; rw [← HP.out]; unfold neededP; rw [hf]
          rw [hf] at hfw
          clear hf
          go_wp2_with (first
            | (refine wpList_load_row (by rfl) 106 _ (by rfl) _ (by rfl) 106 _ (0, 0) _ hbs Try.underlying106 rfl (info106s HV.out) ?_)
            | (refine wpList_store_row (by rfl) 106 _ _ (by rfl) wr.heap.size _ (by rfl) (by rfl) 106 Try.zeroCells106 (Blk.new wr 106 _) (info106s HV.out) (Try.zeroCells106_size.trans HV.out.symm) HO.out ?_; have hbn := (Blk.new wr 106 Try.zeroCells106).setRow vs; have hcc := (hbn.cell (5 + m)).trans hvm.out; have hff := hbn.frozen (5 + m); have hbu := hbn.store (5 + m) (.bool true); rw [HU.out] at hbu; have hb2 : Below wr.heap.size wr (((wr.alloc (.cells Try.zeroCells106 106)).setRow wr.heap.size vs).setCell ⟨wr.heap.size, 5 + m, none⟩ (.bool true)) := (below_setRow (below_new _ _) (Nat.le_refl _) _).setCell (Nat.le_refl _) _)
            | (refine wpList_load_row (by rfl) 106 _ (by rfl) _ (by rfl) 106 _ (0, 0) _ hbu Try.underlying106 rfl (info106s HUS.out) ?_)
            | (go_at_call 94; refine (hfw.out _).mono ?_; rintro e w4 ⟨rfl, hb3⟩)
            | (at_builtin; refine app1 (by rfl) _ _ (by rfl) w1.heap.size ((L.take k).filter pu) m _ (by rfl) (own_below (own_below hown hb2) hb3) (by rfl) (by omega) (by have := hb3.size; have := hb2.size; omega) ?_; intro A' c'' w5 hown1 hb4))
          go_roundw
          case rel =>
            have hz2 := hb2.size
            have hz3 := hb3.size
            exact ⟨k + 1, A', c'', by omega, by go_num, by rw [HY.out HPU.out]; simp, (below_next (below_next hb (by omega) hb2) (by omega) hb3).trans hb4, ((hbs.below hb2 (by omega)).below hb3 (by omega)).below hb4 (by omega), by rw [HY.out HPU.out]; exact hown1⟩
          case measure => simp [intOf]; try omega
        | some L' =>
          have hLn' := fewL_len (by omega) k2 k3 k4 hf
          by_cases hc : L.length < L'.length
          · have HPU : Hid (pu m = true) := by unfold Hid; rw [← HP.out]; unfold neededP; rw [hf]; exact decide_eq_true hc
            have hq2 : ((L.length : Nat) : Int) < ((L'.length : Nat) : Int) := by omega
            have hq1 : (decide (((L.length : Nat) : Int) < ((L'.length : Nat) : Int))) = true := decide_eq_true hq2
            rw [hf] at hfw
            clear hf
            go_wp2_with (first
              | (refine wpList_load_row (by rfl) 106 _ (by rfl) _ (by rfl) 106 _ (0, 0) _ hbs Try.underlying106 rfl (info106s HV.out) ?_)
              | (refine wpList_store_row (by rfl) 106 _ _ (by rfl) wr.heap.size _ (by rfl) (by rfl) 106 Try.zeroCells106 (Blk.new wr 106 _) (info106s HV.out) (Try.zeroCells106_size.trans HV.out.symm) HO.out ?_; have hbn := (Blk.new wr 106 Try.zeroCells106).setRow vs; have hcc := (hbn.cell (5 + m)).trans hvm.out; have hff := hbn.frozen (5 + m); have hbu := hbn.store (5 + m) (.bool true); rw [HU.out] at hbu; have hb2 : Below wr.heap.size wr (((wr.alloc (.cells Try.zeroCells106 106)).setRow wr.heap.size vs).setCell ⟨wr.heap.size, 5 + m, none⟩ (.bool true)) := (below_setRow (below_new _ _) (Nat.le_refl _) _).setCell (Nat.le_refl _) _)
              | (refine wpList_load_row (by rfl) 106 _ (by rfl) _ (by rfl) 106 _ (0, 0) _ hbu Try.underlying106 rfl (info106s HUS.out) ?_)
              | (go_at_call 94; refine (hfw.out _).mono ?_; rintro e w4 ⟨A4, c4, rfl, hown4, hb3⟩; clear hown4)
              | (at_builtin; refine app1 (by rfl) _ _ (by rfl) w1.heap.size ((L.take k).filter pu) m _ (by rfl) (own_below (own_below hown hb2) hb3) (by rfl) (by omega) (by have := hb3.size; have := hb2.size; omega) ?_; intro A' c'' w5 hown1 hb4))
            go_roundw
            case rel =>
              have hz2 := hb2.size
              have hz3 := hb3.size
              exact ⟨k + 1, A', c'', by omega, by go_num, by rw [HY.out HPU.out]; simp, (below_next (below_next hb (by omega) hb2) (by omega) hb3).trans hb4, ((hbs.below hb2 (by omega)).below hb3 (by omega)).below hb4 (by omega), by rw [HY.out HPU.out]; exact hown1⟩
            case measure => simp [intOf]; try omega
          · have HPU : Hid (pu m = false) := by unfold Hid; rw [← HP.out]; unfold neededP; rw [hf]; exact decide_eq_false hc
            have hq2 : ¬ (((L.length : Nat) : Int) < ((L'.length : Nat) : Int)) := by omega
            have hq1 : (decide (((L.length : Nat) : Int) < ((L'.length : Nat) : Int))) = false := decide_eq_false hq2
            rw [hf] at hfw
            clear hf
            go_wp2_with (first
              | (refine wpList_load_row (by rfl) 106 _ (by rfl) _ (by rfl) 106 _ (0, 0) _ hbs Try.underlying106 rfl (info106s HV.out) ?_)
              | (refine wpList_store_row (by rfl) 106 _ _ (by rfl) wr.heap.size _ (by rfl) (by rfl) 106 Try.zeroCells106 (Blk.new wr 106 _) (info106s HV.out) (Try.zeroCells106_size.trans HV.out.symm) HO.out ?_; have hbn := (Blk.new wr 106 Try.zeroCells106).setRow vs; have hcc := (hbn.cell (5 + m)).trans hvm.out; have hff := hbn.frozen (5 + m); have hbu := hbn.store (5 + m) (.bool true); rw [HU.out] at hbu; have hb2 : Below wr.heap.size wr (((wr.alloc (.cells Try.zeroCells106 106)).setRow wr.heap.size vs).setCell ⟨wr.heap.size, 5 + m, none⟩ (.bool true)) := (below_setRow (below_new _ _) (Nat.le_refl _) _).setCell (Nat.le_refl _) _)
              | (refine wpList_load_row (by rfl) 106 _ (by rfl) _ (by rfl) 106 _ (0, 0) _ hbu Try.underlying106 rfl (info106s HUS.out) ?_)
              | (go_at_call 94; refine (hfw.out _).mono ?_; rintro e w4 ⟨A4, c4, rfl, hown4, hb3⟩; clear hown4)
              | (at_builtin; refine app1 (by rfl) _ _ (by rfl) w1.heap.size ((L.take k).filter pu) m _ (by rfl) (own_below (own_below hown hb2) hb3) (by rfl) (by omega) (by have := hb3.size; have := hb2.size; omega) ?_; intro A' c'' w5 hown1 hb4))
            go_roundw
            case rel =>
              have hz2 := hb2.size
              have hz3 := hb3.size
              exact ⟨k + 1, A, c', by omega, by go_num, by rw [HN.out HPU.out], below_next (below_next hb (by omega) hb2) (by omega) hb3, (hbs.below hb2 (by omega)).below hb3 (by omega), by rw [HN.out HPU.out]; exact own_below (own_below hown hb2) hb3⟩
            case measure => simp [intOf]; try omega
      · have ek : L.take k = L := List.take_of_length_le (by omega)
        rw [ek] at hown ⊢
        clear ek
        go_wp2_with fail
        go_ret2
        exact RetInts2.of_own hown (hba.trans (hb.mono hba.size))
  · have hn1 : (findErr C R B F cl l == 0) = false := by simpa using he
    have hn2 : (findErr C R B F cl l != 0) = true := by simpa using he
    rw [if_neg he]
    clear he
    go_enter Try.func43, Try.ntmps43
    go_wp2_with (first
      | (go_at_call 86; refine (find_any _ hB hcl hr1 hl1 hll).mono ?_; rintro e w1 ⟨vs, A1, c1, hvs, hone, hval, rfl, h1, h2, h3, hb1⟩; have HV := Lib.hid hvs; have HO := Lib.hid hone; clear hvs hone hval)
      | (refine wpList_store_row (by rfl) 106 _ _ (by rfl) w1.heap.size _ (by rfl) (by rfl) 106 Try.zeroCells106 (Blk.new w1 106 _) (info106s HV.out) (Try.zeroCells106_size.trans HV.out.symm) HO.out ?_))
    go_ret2
    exact RetInts2.err (below_setRow ((below_next hb0 (by simp) hb1).alloc (by have := hb1.size; simp at this; omega) _) (by have := hb1.size; simp at this; omega) _)

end Go.Proofs.Ytnjmkdgglpcfpaa
