import Derived.Test.YtnjmkdgglpcfpaaA20
namespace Go.Proofs.Ytnjmkdgglpcfpaa
open Go.RowKit

set_option maxRecDepth 100000 in
set_option maxHeartbeats 4000000 in
theorem saves_any {C R B F : Int} {A0 : Option Addr} {cap : Nat} {cl : List Int} {D : Option Addr} {dap : Nat} {l : List Int} (w : World) (hB : B ≤ 9223372036854775807) (hcl : cl.length ≤ 9223372036854775807) (hr : Ints w w.heap.size A0 cl) (hl : Ints w w.heap.size D l) (hll : l.length ≤ 9223372036854775807) :
    Calls Try.prog 47 #[.agg #[.int .i64 C, .int .i64 R, .int .i64 B, .int .i64 F, .slice A0 cl.length cap], .slice D l.length dap] w
      (RetInts2 w (if findErr C R B F cl l = 0 then (cols (isIn (colm C l))).filter (savesP C B F (isIn cl) (isIn (colm C l)) (findL C R B F cl l).length) else []) (findErr C R B F cl l)) := by
  have hb0 := below_new w (.cells #[.int .i64 C, .int .i64 R, .int .i64 B, .int .i64 F, .slice A0 cl.length cap] 24)
  have hr1 := hr.behind hb0
  have hl1 := hl.behind hb0
  by_cases he : findErr C R B F cl l = 0
  · have hk := findErr_ok he
    have hok := hk.ok
    have k1 := hok.c3
    have k2 := hok.c120
    have k3 := hok.b0
    have k4 := hok.f0
    have k5 := hok.bf
    have hfew := findL_good he
    have hLm := Lib.hid (fewL_mem (by omega) hfew)
    have hLn := fewL_len (by omega) k2 k3 k4 hfew
    have hwq : Hid (∀ i : Nat, isIn (colm C l) i = true → (i : Int) < C) := fun i hi => (hk.cols (i : Int) (by simpa [isIn] using hi)).2
    obtain ⟨n, rfl⟩ := Int.eq_ofNat_of_zero_le (show 0 ≤ C by omega)
    rw [if_pos he, he]
    have HE := Lib.hid he
    generalize hL : findL n R B F cl l = L at hLm hLn
    have hMm : Hid (∀ x ∈ cols (isIn (colm n l)), 0 ≤ x ∧ x < (n : Int)) := fun x hx => cols_mem hwq.out hx
    have hMn := cols_len (isIn (colm n l))
    obtain ⟨mq, hmq⟩ : ∃ mq, mk (isIn (colm n l)) = mq := ⟨_, rfl⟩
    have HMQ : Hid (mk (isIn (colm n l)) = mq) := hmq
    have HMI : Hid ((Try.prog.info? 93).map (·.size) = some mq.toList.length) := by unfold Hid; rw [← hmq]; exact info93l _
    have HCL : Hid (∀ w, Calls Try.prog 78 #[.agg mq] w (RetInts w (cols (isIn (colm n l))))) := fun w => by rw [← hmq]; exact list_any _ w
    clear hmq
    generalize hM : cols (isIn (colm n l)) = M at hMm hMn HCL
    have HM := Lib.hid hM
    clear hM
    generalize hp : savesP n B F (isIn cl) (isIn (colm n l)) L.length = pu
    have HL := Lib.hid hL
    have HP := Lib.hid hp
    clear hL hp he hfew
    go_enter Try.func47, Try.ntmps47
    go_wp2_with (first
      | (go_at_call 86; refine (find_any _ hB hcl hr1 hl1 hll).mono ?_; unfold RetFind; rw [HL.out, HE.out]; rintro e w0 ⟨vs, A1, c1, hvs, hone, hval, rfl, e1, e2, e3, hb1⟩; have HS := Lib.hid (hval rfl); have HV := Lib.hid hvs; have HO := Lib.hid hone; clear hvs hone hval)
      | (refine wpList_store_row (by rfl) 106 _ _ (by rfl) w0.heap.size _ (by rfl) (by rfl) 106 Try.zeroCells106 (Blk.new w0 106 _) (info106s HV.out) (Try.zeroCells106_size.trans HV.out.symm) HO.out ?_; have hbs0 := (Blk.new w0 106 Try.zeroCells106).setRow vs; have hb2 : Below w0.heap.size w0 ((w0.alloc (.cells Try.zeroCells106 106)).setRow w0.heap.size vs) := below_setRow (below_new _ _) (Nat.le_refl _) _; have hrow : World.rangeAt ((w0.alloc (.cells Try.zeroCells106 106)).setRow w0.heap.size vs) w0.heap.size 125 mq.toList := by have hbt := hbs0; rw [HS.out] at hbt ⊢; rw [← HMQ.out]; exact hbt.svWantedRow)
      | (refine wpList_load_mid (by rfl) 93 _ (by rfl) _ 125 (by rfl) _ _ hrow Try.underlying93 rfl HMI.out ?_)
      | (go_at_call 78; refine (HCL.out _).mono ?_; rintro e w1 ⟨A2, c2, rfl, e4, e5, e6, hb3⟩)
      | fail)
    have hba : Below w.heap.size w w1 := below_next (below_next (below_next hb0 (by simp) hb1) (by have := hb1.size; simp at this; omega) hb2) (by have := hb1.size; have := hb2.size; simp at *; omega) hb3
    have hbs0 : Blk w1 w0.heap.size 106 vs := hbs0.below hb3 hbs0.lt
    have hI := e6
    have hg : w0.heap.size < w1.heap.size := hbs0.lt
    have hz0 : w.heap.size ≤ w0.heap.size := by have := hb1.size; simp at this; omega
    go_loopw [9, 11, 12, 13, 14, 29] (fun v _ _ _ _ i wr => ∃ k : Nat, ∃ A c', k ≤ M.length ∧ i = .int .i64 k ∧ v = .slice A ((M.take k).filter pu).length c' ∧ Below w1.heap.size w1 wr ∧ Blk wr w0.heap.size 106 vs ∧ wr.ownsRow w1.heap.size 3 1 (.slice A ((M.take k).filter pu).length c') ((M.take k).filter pu).length (((M.take k).filter pu).map (Value.int .i64)))
      (fun _ _ _ _ _ i _ => M.length - (intOf i).toNat)
    case atStart => exact ⟨0, none, 0, Nat.zero_le _, rfl, rfl, Below.refl _ _, hbs0, World.ownsRow_nil _ _ _ _⟩
    case round =>
      obtain ⟨k, A, c', hk, rfl, rfl, hb, hbs, hown⟩ := hrel
      have hlt1 := hbs.lt
      have hzr := hb.size
      by_cases hlt : k < M.length
      · obtain ⟨ad, hade, hadb, hce⟩ := (hI.below hb).get hlt
        subst hade
        have hx := hMm.out _ (List.getElem_mem hlt)
        obtain ⟨m, hm⟩ := Int.eq_ofNat_of_zero_le hx.1
        have hfl := filt_len (L := M) (k := k) (pu := pu)
        have hy := filt_yes (pu := pu) hlt
        have hn := filt_no (pu := pu) hlt
        rw [hm] at hce hx hy hn
        have HY := Lib.hid hy
        have HN := Lib.hid hn
        clear hm hy hn
        have hvm : Hid (vs[125 + m]? = some (.bool (isIn (colm n l) m))) := by unfold Hid; rw [HS.out]; exact sv_wanted _ _ _ _ _ _ _ m (by omega)
        obtain ⟨us, hus⟩ : ∃ us, vs.setIfInBounds (125 + m) (.bool false) = us := ⟨_, rfl⟩
        have HU : Hid (vs.setIfInBounds (125 + m) (.bool false) = us) := hus
        have HUS : Hid (us.size = 245) := by unfold Hid; rw [← hus]; simp [HV.out]
        have hus2 : us = sv n R B F (.slice A0 cl.length cap) (isIn cl) (fun i => if (i : Int) = (m : Int) then false else isIn (colm n l) i) := by rw [← hus, HS.out]; exact sv_setWanted _ _ _ _ _ _ _ m _ (by omega)
        have hfw : Hid (∀ w, Calls Try.prog 94 #[.agg us] w (RetFew w (fewL n B F (isIn cl) (fun i => if (i : Int) = (m : Int) then false else isIn (colm n l) i)))) := fun w => by
          rw [hus2]
          exact fewest_any sort_any n R B F _ _ _ _ (by omega) k2 k3 k4 (by omega) (fun i hi => save_still hwq.out i hi)
        clear hus hus2
        cases hf : fewL n B F (isIn cl) (fun i => if (i : Int) = (m : Int) then false else isIn (colm n l) i) with
        | none =>
          have HPU : Hid (pu m = false) := by unfold Hid; rw [← HP.out]; unfold savesP; rw [hf]
          rw [hf] at hfw
          clear hf
          go_wp2_with (first
            | (refine wpList_load_row (by rfl) 106 _ (by rfl) _ (by rfl) 106 _ (0, 0) _ hbs Try.underlying106 rfl (info106s HV.out) ?_)
            | (refine wpList_store_row (by rfl) 106 _ _ (by rfl) wr.heap.size _ (by rfl) (by rfl) 106 Try.zeroCells106 (Blk.new wr 106 _) (info106s HV.out) (Try.zeroCells106_size.trans HV.out.symm) HO.out ?_; have hbn := (Blk.new wr 106 Try.zeroCells106).setRow vs; have hcc := (hbn.cell (125 + m)).trans hvm.out; have hff := hbn.frozen (125 + m); have hbu := hbn.store (125 + m) (.bool false); rw [HU.out] at hbu; have hb2 : Below wr.heap.size wr (((wr.alloc (.cells Try.zeroCells106 106)).setRow wr.heap.size vs).setCell ⟨wr.heap.size, 125 + m, none⟩ (.bool false)) := (below_setRow (below_new _ _) (Nat.le_refl _) _).setCell (Nat.le_refl _) _)
            | (refine wpList_load_row (by rfl) 106 _ (by rfl) _ (by rfl) 106 _ (0, 0) _ hbu Try.underlying106 rfl (info106s HUS.out) ?_)
            | (go_at_call 94; refine (hfw.out _).mono ?_; rintro e w4 ⟨rfl, hb3⟩)
            | (at_builtin; refine app1 (by rfl) _ _ (by rfl) w1.heap.size ((M.take k).filter pu) m _ (by rfl) (own_below (own_below hown hb2) hb3) (by rfl) (by omega) (by have := hb3.size; have := hb2.size; omega) ?_; intro A' c'' w5 hown1 hb4))
          go_roundw
          case rel =>
            have hz2 := hb2.size
            have hz3 := hb3.size
            exact ⟨k + 1, A, c', by omega, by go_num, by rw [HN.out HPU.out], below_next (below_next hb (by omega) hb2) (by omega) hb3, (hbs.below hb2 (by omega)).below hb3 (by omega), by rw [HN.out HPU.out]; exact own_below (own_below hown hb2) hb3⟩
          case measure => simp [intOf]; try omega
        | some L' =>
          have hLn' := fewL_len (by omega) k2 k3 k4 hf
          by_cases hc : L'.length < L.length
          · have HPU : Hid (pu m = true) := by unfold Hid; rw [← HP.out]; unfold savesP; rw [hf]; exact decide_eq_true hc
            have hq2 : ((L'.length : Nat) : Int) < ((L.length : Nat) : Int) := by omega
            have hq1 : (decide (((L'.length : Nat) : Int) < ((L.length : Nat) : Int))) = true := decide_eq_true hq2
            rw [hf] at hfw
            clear hf
            go_wp2_with (first
              | (refine wpList_load_row (by rfl) 106 _ (by rfl) _ (by rfl) 106 _ (0, 0) _ hbs Try.underlying106 rfl (info106s HV.out) ?_)
              | (refine wpList_store_row (by rfl) 106 _ _ (by rfl) wr.heap.size _ (by rfl) (by rfl) 106 Try.zeroCells106 (Blk.new wr 106 _) (info106s HV.out) (Try.zeroCells106_size.trans HV.out.symm) HO.out ?_; have hbn := (Blk.new wr 106 Try.zeroCells106).setRow vs; have hcc := (hbn.cell (125 + m)).trans hvm.out; have hff := hbn.frozen (125 + m); have hbu := hbn.store (125 + m) (.bool false); rw [HU.out] at hbu; have hb2 : Below wr.heap.size wr (((wr.alloc (.cells Try.zeroCells106 106)).setRow wr.heap.size vs).setCell ⟨wr.heap.size, 125 + m, none⟩ (.bool false)) := (below_setRow (below_new _ _) (Nat.le_refl _) _).setCell (Nat.le_refl _) _)
              | (refine wpList_load_row (by rfl) 106 _ (by rfl) _ (by rfl) 106 _ (0, 0) _ hbu Try.underlying106 rfl (info106s HUS.out) ?_)
              | (go_at_call 94; refine (hfw.out _).mono ?_; rintro e w4 ⟨A4, c4, rfl, hown4, hb3⟩; clear hown4)
              | (at_builtin; refine app1 (by rfl) _ _ (by rfl) w1.heap.size ((M.take k).filter pu) m _ (by rfl) (own_below (own_below hown hb2) hb3) (by rfl) (by omega) (by have := hb3.size; have := hb2.size; omega) ?_; intro A' c'' w5 hown1 hb4))
            go_roundw
            case rel =>
              have hz2 := hb2.size
              have hz3 := hb3.size
              exact ⟨k + 1, A', c'', by omega, by go_num, by rw [HY.out HPU.out]; simp, (below_next (below_next hb (by omega) hb2) (by omega) hb3).trans hb4, ((hbs.below hb2 (by omega)).below hb3 (by omega)).below hb4 (by omega), by rw [HY.out HPU.out]; exact hown1⟩
            case measure => simp [intOf]; try omega
          · have HPU : Hid (pu m = false) := by unfold Hid; rw [← HP.out]; unfold savesP; rw [hf]; exact decide_eq_false hc
            have hq2 : ¬ (((L'.length : Nat) : Int) < ((L.length : Nat) : Int)) := by omega
            have hq1 : (decide (((L'.length : Nat) : Int) < ((L.length : Nat) : Int))) = false := decide_eq_false hq2
            rw [hf] at hfw
            clear hf
            go_wp2_with (first
              | (refine wpList_load_row (by rfl) 106 _ (by rfl) _ (by rfl) 106 _ (0, 0) _ hbs Try.underlying106 rfl (info106s HV.out) ?_)
              | (refine wpList_store_row (by rfl) 106 _ _ (by rfl) wr.heap.size _ (by rfl) (by rfl) 106 Try.zeroCells106 (Blk.new wr 106 _) (info106s HV.out) (Try.zeroCells106_size.trans HV.out.symm) HO.out ?_; have hbn := (Blk.new wr 106 Try.zeroCells106).setRow vs; have hcc := (hbn.cell (125 + m)).trans hvm.out; have hff := hbn.frozen (125 + m); have hbu := hbn.store (125 + m) (.bool false); rw [HU.out] at hbu; have hb2 : Below wr.heap.size wr (((wr.alloc (.cells Try.zeroCells106 106)).setRow wr.heap.size vs).setCell ⟨wr.heap.size, 125 + m, none⟩ (.bool false)) := (below_setRow (below_new _ _) (Nat.le_refl _) _).setCell (Nat.le_refl _) _)
              | (refine wpList_load_row (by rfl) 106 _ (by rfl) _ (by rfl) 106 _ (0, 0) _ hbu Try.underlying106 rfl (info106s HUS.out) ?_)
              | (go_at_call 94; refine (hfw.out _).mono ?_; rintro e w4 ⟨A4, c4, rfl, hown4, hb3⟩; clear hown4)
              | (at_builtin; refine app1 (by rfl) _ _ (by rfl) w1.heap.size ((M.take k).filter pu) m _ (by rfl) (own_below (own_below hown hb2) hb3) (by rfl) (by omega) (by have := hb3.size; have := hb2.size; omega) ?_; intro A' c'' w5 hown1 hb4))
            go_roundw
            case rel =>
              have hz2 := hb2.size
              have hz3 := hb3.size
              exact ⟨k + 1, A, c', by omega, by go_num, by rw [HN.out HPU.out], below_next (below_next hb (by omega) hb2) (by omega) hb3, (hbs.below hb2 (by omega)).below hb3 (by omega), by rw [HN.out HPU.out]; exact own_below (own_below hown hb2) hb3⟩
            case measure => simp [intOf]; try omega
      · have ek : M.take k = M := List.take_of_length_le (by omega)
        rw [ek] at hown ⊢
        clear ek
        go_wp2_with fail
        go_ret2
        exact RetInts2.of_own hown (hba.trans (hb.mono hba.size))
  · have hn1 : (findErr C R B F cl l == 0) = false := by simpa using he
    have hn2 : (findErr C R B F cl l != 0) = true := by simpa using he
    rw [if_neg he]
    clear he
    go_enter Try.func47, Try.ntmps47
    go_wp2_with (first
      | (go_at_call 86; refine (find_any _ hB hcl hr1 hl1 hll).mono ?_; rintro e w1 ⟨vs, A1, c1, hvs, hone, hval, rfl, h1, h2, h3, hb1⟩; have HV := Lib.hid hvs; have HO := Lib.hid hone; clear hvs hone hval)
      | (refine wpList_store_row (by rfl) 106 _ _ (by rfl) w1.heap.size _ (by rfl) (by rfl) 106 Try.zeroCells106 (Blk.new w1 106 _) (info106s HV.out) (Try.zeroCells106_size.trans HV.out.symm) HO.out ?_))
    go_ret2
    exact RetInts2.err (below_setRow ((below_next hb0 (by simp) hb1).alloc (by have := hb1.size; simp at this; omega) _) (by have := hb1.size; simp at this; omega) _)

end Go.Proofs.Ytnjmkdgglpcfpaa
