import Derived.Test.YtbhiphjifdnhmaaGreatDoorE7a
set_option linter.unusedSimpArgs false
set_option linter.unusedVariables false
/- AboutOrder. -/
namespace Go.Proofs.YtbhiphjifdnhmaaGreatDoor
open Go.RowKit Go.Maps
theorem sep_new {A6 A5 A7 : Option Addr} {s : Nat} (hs : blkOf A6 = none ∨ blkOf A6 ≠ blkOf A5) (h : blkOf A7 = blkOf A5 ∨ blkOf A7 = some s) (hlt : ∀ g, blkOf A6 = some g → g < s) : blkOf A6 = none ∨ blkOf A6 ≠ blkOf A7 := by
  cases hA : blkOf A6 with
  | none => exact .inl rfl
  | some g =>
    refine .inr fun e => ?_
    rcases h with h | h
    · rcases hs with h2 | h2
      · rw [hA] at h2; cases h2
      · exact h2 (hA.trans (e.trans h))
    · rw [h] at e
      cases e
      exact absurd (hlt _ hA) (Nat.lt_irrefl _)
theorem sep_flip {A B : Option Addr} (h : blkOf A = none ∨ blkOf A ≠ blkOf B) : blkOf B = none ∨ blkOf B ≠ blkOf A := by
  rcases h with h | h
  · cases hB : blkOf B with
    | none => exact .inl rfl
    | some g => exact .inr (by rw [h]; simp)
  · exact .inr h.symm
set_option maxRecDepth 100000 in
set_option maxHeartbeats 64000000 in
theorem law7_in (hS : Hid SanityIs) (A : Option Addr) (cap : Nat) (l : List Df) (T : Nat) (x : Df) (n : ByteArray) (known : Int) (ev : Value) (V : Nat → Int) (E ER CM : Int) (LR : List ByteArray) (w : World)
    (hT : T ≤ 255) (hl9 : l.length ≤ 9) (hn : n.size ≤ 40) (hx1 : x.name.size ≤ 40) (hx2 : x.of.size ≤ 40) (hx3 : x.wth.size ≤ 40) (hLR : LR.length ≤ 1000000)
    (HF : Hid (∀ W, Defs W W.heap.size A l → Calls Tryz.prog 32 #[.slice A l.length cap] W fun e w' => e = .returned (.bool true) ∧ W = w'))
    (HC : Hid (∀ W, Defs W W.heap.size A l → Calls Tryz.prog 33 #[.slice A l.length cap] W fun e w' => e = .returned (.int .i64 0) ∧ Below W.heap.size W w'))
    (H34 : Hid (∀ W, Defs W W.heap.size A l → ErrAt W ev → 0 < W.heap.size → Calls Tryz.prog 34 #[.slice A l.length cap, .string n, .int .i64 known] W (RetV W V E)))
    (H35 : Hid (∀ W, Defs W W.heap.size A l → Calls Tryz.prog 35 #[.slice A l.length cap, .string n, .int .i64 known] W (RetStE W LR ER)))
    (H1 : Hid (∀ A' c' W, (rotTo l T l.length).length ≤ c' → c' ≤ maxLen → Defs W W.heap.size A' (rotTo l T l.length) → ErrAt W ev → 0 < W.heap.size → Calls Tryz.prog 34 #[.slice A' (rotTo l T l.length).length c', .string n, .int .i64 known] W (RetV W V E)))
    (H2 : Hid (∀ A' c' W, (earlyTo l known l.length).length ≤ c' → c' ≤ maxLen → Defs W W.heap.size A' (earlyTo l known l.length) → ErrAt W ev → 0 < W.heap.size → Calls Tryz.prog 34 #[.slice A' (earlyTo l known l.length).length c', .string n, .int .i64 known] W (RetV W V E)))
    (H3 : Hid (∀ A' c' W, (l ++ [x]).length ≤ c' → c' ≤ maxLen → Defs W W.heap.size A' (l ++ [x]) → Calls Tryz.prog 33 #[.slice A' (l ++ [x]).length c'] W fun e w' => e = .returned (.int .i64 CM) ∧ Below W.heap.size W w'))
    (H4 : Hid (ER = 0 → CM = 0 → (x.known ≤ known → x.name ≠ n ∧ x.name ∉ LR) → ∀ A' c' W, (l ++ [x]).length ≤ c' → c' ≤ maxLen → Defs W W.heap.size A' (l ++ [x]) → ErrAt W ev → 0 < W.heap.size → Calls Tryz.prog 34 #[.slice A' (l ++ [x]).length c', .string n, .int .i64 known] W (RetV W V E)))
    (HL : Hid (ER = 0 → 0 < l.length))
    (hD : Defs w w.heap.size A l) (hE : ErrAt w ev) (h0 : 0 < w.heap.size) :
    Calls Tryz.prog 7 #[.slice A l.length cap, .int .u8 (T : Int), .agg (dfA x), .string n, .int .i64 known] w fun e w' => e = .returned (.bool true) ∧ Below w.heap.size w w' := by
  have hs := (St.begin hD hE h0).next (below_new w (.cells (dfA x) 60))
  have kX := Blk.new w 60 (dfA x)
  have hK : AllB (w.alloc (.cells (dfA x) 60)) [(w.heap.size, 60, dfA x)] := fun q hq => by
    simp only [List.mem_cons, List.not_mem_nil, or_false] at hq
    subst hq
    exact kX
  obtain ⟨x0, _, _, x3, x4⟩ := kX.df
  have e0 : ¬ (9 : Int) < (l.length : Int) := by omega
  have e1 : ¬ (40 : Int) < (n.size : Int) := by omega
  have e2 : ¬ (40 : Int) < (x.name.size : Int) := by omega
  have e3 : ¬ (40 : Int) < (x.of.size : Int) := by omega
  have e4 : ¬ (40 : Int) < (x.wth.size : Int) := by omega
  clear hD hE h0 kX
  go_enter Tryz.func7, Tryz.ntmps7
  go_upto_region 5 with (first
    | go_skip
    | (go_at_call 32; refine (HF.out _ hs.defs).mono ?_; rintro e w1 ⟨rfl, rfl⟩)
    | (go_at_call 33; refine (HC.out _ hs.defs).mono ?_; rintro e w2 ⟨rfl, hb⟩; replace hs := hs.next hb; replace hK := hK.below hb; clear hb)
    | (go_at_call 34; refine (H34.out _ hs.defs hs.err hs.pos).mono ?_; rintro e w3 ⟨rfl, hb⟩; have hT2 := below26 w3 V; replace hs := (hs.next hb).next hT2; replace hK := (hK.below hb).push hT2 (new26 w3 V); clear hb hT2; have kN := new26z w3)
    | (refine stV 11 67 rfl rfl kN rfl rfl ?_)
    | (go_at_call 35; refine (H35.out _ hs.defs).mono ?_; rintro e w4 ⟨A4, c4, rfl, ho, hb⟩; replace hs := hs.next hb; replace hK := hK.below hb; have hS4 := Strs.of_own ho; clear ho hb))
  replace hK : AllB w4 [(w.heap.size, 60, dfA x), (w3.heap.size, 26, va V)] := hK
  clear HF HC H34 H35 kN x0 x3 x4 e0 e2 e3 e4
  go_wp2_with fail
  go_loopg [15, 16, 17] (l.length) (fun g t15 t16 t17 wq => ∃ (k : Nat) (A5 : Option Addr) (c5 : Nat) (A6 : Option Addr) (c6 : Nat), k ≤ l.length ∧ l.length - k ≤ g ∧ t17 = .int .i64 k ∧ t15 = .slice A5 (rotTo l T k).length c5 ∧ t16 = .slice A6 (earlyTo l known k).length c6 ∧ OwnD wq w4.heap.size A5 c5 (rotTo l T k) ∧ OwnD wq w4.heap.size A6 c6 (earlyTo l known k) ∧ Hid (blkOf A6 = none ∨ blkOf A6 ≠ blkOf A5) ∧ Below w4.heap.size w4 wq)
  case atStart => exact ⟨0, none, 0, none, 0, by omega, by omega, rfl, rfl, rfl, OwnD.nil _ _, OwnD.nil _ _, Lib.hid (.inl rfl), Below.refl _ _⟩
  case round =>
    obtain ⟨k, A5, c5, A6, c6, hk, hg, rfl, rfl, rfl, ho5, ho6, HS, hB⟩ := hrel
    have hq : IntKind.i64.wrap ((k : Int) + 1) = (k : Int) + 1 := IntWalk.i64_in _ (by omega)
    have HQ := Lib.hid hq
    clear hq
    by_cases hlt : k < l.length
    · obtain ⟨y, hy⟩ : ∃ y, l[k]? = some y := ⟨_, List.getElem?_eq_getElem hlt⟩
      obtain ⟨r, hr⟩ : ∃ r, r = (k + T) % l.length := ⟨_, rfl⟩
      have hrl : r < l.length := by rw [hr]; exact Nat.mod_lt _ (by omega)
      obtain ⟨z, hz⟩ : ∃ z, l[r]? = some z := ⟨_, List.getElem?_eq_getElem hrl⟩
      have hRS := Lib.hid (show rotTo l T (k + 1) = rotTo l T k ++ [z] by rw [rotTo, ← hr, List.getD_eq_getElem?_getD, hz]; rfl)
      have hES := Lib.hid (earlyTo_succ (known := known) hy)
      have hrr := rotTo_len l T k
      have hre := earlyTo_len l known k
      obtain ⟨ag, ao, hA, _, _⟩ := hs.defs k y hy
      subst hA
      have hDr := hs.defs.behind hB
      have hrz := hDr.rowO hz
      have hz4 := hB.size
      have q1 : IntKind.i64.wrap ((k : Int) + (T : Int)) = (k : Int) + (T : Int) := IntWalk.i64_in _ (by omega)
      have q2 : ((k : Int) + (T : Int)).tmod (l.length : Int) = (r : Int) := by
        rw [hr, Int.tmod_eq_emod_of_nonneg (by omega), Int.natCast_emod, Int.natCast_add]
      have q3 : ((l.length : Int) == 0) = false := beq_eq_false_iff_ne.2 (by omega)
      have q4 : (l.length : Int) ≠ 0 := by omega
      have q5 : IntKind.i64.wrap (r : Int) = (r : Int) := IntWalk.i64_in _ (by omega)
      have hbz := below_new wr (.cells (dfA z) 60)
      have kz := Blk.new wr 60 (dfA z)
      have ho5b := ho5.below hbz
      have ho6b := ho6.below hbz
      have hszz : (wr.alloc (.cells (dfA z) 60)).heap.size = wr.heap.size + 1 := by simp
      have HLT := Lib.hid hlt
      have HSZ := Lib.hid hszz
      clear hr hz hszz
      have HWI := Lib.hid hrr
      have HWE := Lib.hid hre
      clear hrr hre
      by_cases hkn : y.known ≤ known
      · have hN := Lib.hid (show earlyTo l known (k + 1) = earlyTo l known k ++ [y] by rw [hES.out, if_pos hkn])
        clear hES
        go_wp2_with (first
          | (refine ldD 91 rfl rfl hrz rfl ?_)
          | (refine wpl_bldO rfl (.tmp 92) rfl z rfl ?_)
          | (refine wpl_appO rfl (.tmp 82) (.tmp 93) rfl ho5b z rfl wr.heap.size rfl kz (by rw [HWI.out]; omega) (by rw [HSZ.out]; omega) ?_; intro A7 c7 w5 ho7 hg5 hbk5 hb5; have hB5 := (hB.alloc hz4 (.cells (dfA z) 60)).trans hb5; have ho8 := ho6b.kept hg5 HS.out; have hr5 := (hs.defs.behind hB5).rowO hy; have y1 : w5.cell? ⟨ag, ao + k * 29 + 1, none⟩ = some (.int .i64 y.known) := hr5 1 _ rfl; have hbz5 := below_new w5 (.cells (dfA y) 60); have ky := Blk.new w5 60 (dfA y); have ho8b := ho8.below hbz5; have ho7b := ho7.below hbz5; have hz5 := hB5.size; have HSZ5 := Lib.hid (show (w5.alloc (.cells (dfA y) 60)).heap.size = w5.heap.size + 1 by simp); have hS7 := Lib.hid (sep_flip (sep_new HS.out hbk5 fun g e => by have := (ho6.lt e).2; rw [HSZ.out]; omega)))
          | (refine ldD 105 rfl rfl hr5 rfl ?_)
          | (refine wpl_bldO rfl (.tmp 106) rfl y rfl ?_)
          | (refine wpl_appO rfl (.tmp 102) (.tmp 107) rfl ho8b y rfl w5.heap.size rfl ky (by have := HWE.out; omega) (by rw [HSZ5.out]; omega) ?_; intro A8 c8 w6 ho9 hg6 hbk6 hb6; have hB6 := (hB5.alloc hz5 (.cells (dfA y) 60)).trans hb6; have ho10 := ho7b.kept hg6 hS7.out))
        have hS8 := Lib.hid (sep_flip (sep_new hS7.out hbk6 fun g e => by have := (ho7.lt e).2; rw [HSZ5.out]; omega))
        go_roundg (l.length - (k + 1))
        case measure => have := HLT.out; omega
        case rel => exact ⟨k + 1, A7, c7, A8, c8, HLT.out, by omega, by go_num, by rw [hRS.out, List.length_append]; rfl, by rw [hN.out, List.length_append]; rfl, by rw [hRS.out]; exact ho10, by rw [hN.out]; exact ho9, hS8, hB6⟩
      · have hN := Lib.hid (show earlyTo l known (k + 1) = earlyTo l known k by rw [hES.out, if_neg hkn])
        have hkd : decide (y.known ≤ known) = false := decide_eq_false hkn
        clear hES
        go_wp2_with (first
          | (refine ldD 91 rfl rfl hrz rfl ?_)
          | (refine wpl_bldO rfl (.tmp 92) rfl z rfl ?_)
          | (refine wpl_appO rfl (.tmp 82) (.tmp 93) rfl ho5b z rfl wr.heap.size rfl kz (by rw [HWI.out]; omega) (by rw [HSZ.out]; omega) ?_; intro A7 c7 w5 ho7 hg5 hbk5 hb5; have hB5 := (hB.alloc hz4 (.cells (dfA z) 60)).trans hb5; have ho8 := ho6b.kept hg5 HS.out; have hr5 := (hs.defs.behind hB5).rowO hy; have y1 : w5.cell? ⟨ag, ao + k * 29 + 1, none⟩ = some (.int .i64 y.known) := hr5 1 _ rfl))
        have hS7 := Lib.hid (sep_new HS.out hbk5 fun g e => by have := (ho6.lt e).2; rw [HSZ.out]; omega)
        go_roundg (l.length - (k + 1))
        case measure => have := HLT.out; omega
        case rel => exact ⟨k + 1, A7, c7, A6, c6, HLT.out, by omega, by go_num, by rw [hRS.out, List.length_append]; rfl, by rw [hN.out], by rw [hRS.out]; exact ho7, by rw [hN.out]; exact ho8, hS7, hB5⟩
    · obtain rfl : k = l.length := by omega
      obtain ⟨p5, p6⟩ := ho5.caps
      obtain ⟨p7, p8⟩ := ho6.caps
      have d5 := ho5.defs
      have hsr := hs.next hB
      have hKr := hK.below hB
      have hS4r := hS4.behind hB
      clear hs hK hS4 hB hk hg hlt
      go_upto_region 15 with (first
        | go_skip
        | (go_at_call 34; (with_reducible refine (H1.out A5 c5 _ p5 p6 d5 hsr.err hsr.pos).mono ?_); rintro e w7 ⟨rfl, hb⟩; have hT2 := below26 w7 V; replace hsr := (hsr.next hb).next hT2; replace hKr := (hKr.below hb).push hT2 (new26 w7 V); replace hS4r := (hS4r.behind hb).behind hT2; have d6 := ((ho6.below hb).below hT2).defs; clear hb hT2; have kN := new26z w7)
        | (go_at_call 34; (with_reducible refine (H2.out A6 c6 _ p7 p8 d6 hsr.err hsr.pos).mono ?_); rintro e w8 ⟨rfl, hb⟩; have hT2 := below26 w8 V; replace hsr := (hsr.next hb).next hT2; replace hKr := (hKr.below hb).push hT2 (new26 w8 V); replace hS4r := (hS4r.behind hb).behind hT2; clear hb hT2; have kM := new26z w8)
        | (refine stV 18 114 rfl rfl kN rfl rfl ?_; (try simp only [List.getElem_toArray, List.getElem_cons_zero, List.getElem_cons_succ, Act.put, List.setIfInBounds_toArray, List.set_cons_zero, List.set_cons_succ]))
        | (refine stV 20 121 rfl rfl kM rfl rfl ?_; (try simp only [List.getElem_toArray, List.getElem_cons_zero, List.getElem_cons_succ, Act.put, List.setIfInBounds_toArray, List.set_cons_zero, List.set_cons_succ])))
      replace hKr : AllB _ [(w.heap.size, 60, dfA x), (w3.heap.size, 26, va V), (w7.heap.size, 26, va V), (w8.heap.size, 26, va V)] := hKr
      obtain ⟨wz, hwz⟩ : ∃ wz, wz = (w8.alloc (.cells #[.int .i64 0, .int .i64 0, .int .i64 0, .int .i64 0, .int .i64 0, .int .i64 0, .int .i64 0, .int .i64 0, .int .i64 0, .int .i64 0, .int .i64 0, .int .i64 0, .int .i64 0, .int .i64 0, .int .i64 0, .int .i64 0, .int .i64 0, .int .i64 0, .int .i64 0, .int .i64 0, .int .i64 0, .int .i64 0, .int .i64 0, .int .i64 0] 26)).setRow w8.heap.size (va V) := ⟨_, rfl⟩
      rw [← hwz] at hsr hKr hS4r ⊢
      clear hwz kN kM H1 H2 ho5 ho6 HS p5 p6 p7 p8 d5 d6
      go_upto_region 17 with (first
        | go_skip
        | (refine ldVG 11 (by rfl) rfl (hKr.get 1 rfl) rfl ?_; (try simp only [List.getElem_toArray, List.getElem_cons_zero, List.getElem_cons_succ, Act.put, List.setIfInBounds_toArray, List.set_cons_zero, List.set_cons_succ]))
        | (refine ldVG 18 (by rfl) rfl (hKr.get 2 rfl) rfl ?_; (try simp only [List.getElem_toArray, List.getElem_cons_zero, List.getElem_cons_succ, Act.put, List.setIfInBounds_toArray, List.set_cons_zero, List.set_cons_succ]))
        | (refine ldVG 20 (by rfl) rfl (hKr.get 3 rfl) rfl ?_; (try simp only [List.getElem_toArray, List.getElem_cons_zero, List.getElem_cons_succ, Act.put, List.setIfInBounds_toArray, List.set_cons_zero, List.set_cons_succ]))
        | (refine wpl_diffG (by rfl) (.tmp 123) (.tmp 124) _ rfl V rfl rfl ?_; (try simp only [List.getElem_toArray, List.getElem_cons_zero, List.getElem_cons_succ, Act.put, List.setIfInBounds_toArray, List.set_cons_zero, List.set_cons_succ]))
        | (refine wpl_diffG (by rfl) (.tmp 127) (.tmp 128) _ rfl V rfl rfl ?_; (try simp only [List.getElem_toArray, List.getElem_cons_zero, List.getElem_cons_succ, Act.put, List.setIfInBounds_toArray, List.set_cons_zero, List.set_cons_succ])))
      obtain ⟨x0, x1, _, _, _⟩ := (hKr.get 0 rfl).df
      by_cases hER : ER = 0
      · have hl0 := HL.out hER
        subst hER
        by_cases hkx : x.known ≤ known
        · by_cases hxn : x.name = n
          · rw [hxn] at x0
            go_wp2_with (first
              | go_skip
              | (go_at_call 15; refine (hS.out _).mono ?_; rintro e w ⟨rfl, hb⟩; replace hsr := hsr.next hb; replace hKr := hKr.below hb; clear hb))
            go_ret
            exact ⟨rfl, hsr.below⟩
          · have hnl : ¬ x.name.toList = n.toList := fun e => hxn (bytes_eq (by rwa [ByteArray.toList_eq, ByteArray.toList_eq] at e))
            have hnb : (x.name.toList == n.toList) = false := beq_eq_false_iff_ne.2 hnl
            cases hin : LR.any fun y => decide (y = x.name) with
            | true =>
              have HI := Lib.hid hin
              clear hin
              go_wp2_with (first
                | go_skip
                | (go_at_call 36; refine (lawIn_any _ _ _ LR x.name _ hLR hS4r).mono ?_; rw [HI.out]; rintro e w ⟨rfl, rfl⟩)
                | (go_at_call 15; refine (hS.out _).mono ?_; rintro e w ⟨rfl, hb⟩; replace hsr := hsr.next hb; replace hKr := hKr.below hb; clear hb))
              go_ret
              exact ⟨rfl, hsr.below⟩
            | false =>
              have HI := Lib.hid hin
              have HX := Lib.hid (fun h => H4.out rfl h fun _ => ⟨hxn, fun hm => by
                have : (LR.any fun y => decide (y = x.name)) = true := List.any_eq_true.2 ⟨x.name, hm, by simp⟩
                rw [hin] at this
                cases this⟩)
              clear hin H4
              go_upto_region 19 with (first
                | go_skip
                | (go_at_call 36; refine (lawIn_any _ _ _ LR x.name _ hLR hS4r).mono ?_; rw [HI.out]; rintro e w ⟨rfl, rfl⟩))
              clear HI hS4r x0 x1 hnl hnb hxn hkx
              have hsd := hsr.next (show Below wz.heap.size wz wz.drew from (Below.refl _ _).drew)
              have hKd := hKr.below (show Below wz.heap.size wz wz.drew from (Below.refl _ _).drew)
              clear hsr hKr
              refine wp_region_held_drew (S := fun w' => Blk w' w.heap.size 60 (dfA x)) (by kernel_rfl) (hKd.get 0 rfl) (fun hHeld => ?_)
              obtain ⟨WD, hWD⟩ : ∃ WD, WD = wz.drew := ⟨_, rfl⟩
              rw [← hWD] at hsd hKd ⊢
              clear hWD
              have kXd := hKd.get 0 rfl
              (refine wpAnyH_take (i := 1) (v := ?_) rfl (by kernel_rfl) (by kernel_rfl) (by kernel_rfl) (fun _ _ _ h => h) (Or.inl ⟨by rfl, ?_⟩) (by assumption) ?_; rotate_left; (· intro w5 hS5; (try dsimp only at hS5); go_simp <;> with_reducible rfl); (try simp only [List.getElem_toArray, List.getElem_cons_zero, List.getElem_cons_succ, Act.put, List.setIfInBounds_toArray, List.set_cons_zero, List.set_cons_succ]))
              (refine wpAnyH_take (i := 3) (v := .agg (dfA x)) rfl (by kernel_rfl) (by kernel_rfl) (by kernel_rfl) (fun _ _ _ h => h) (yieldsIf_load_row (by rfl) 60 _ rfl w.heap.size rfl 60 (dfA x) (0, 0) _ (fun w5 hS5 => hS5) Tryz.underlying60 rfl (info60 x)) (by assumption) ?_; (try simp only [List.getElem_toArray, List.getElem_cons_zero, List.getElem_cons_succ, Act.put, List.setIfInBounds_toArray, List.set_cons_zero, List.set_cons_succ]))
              have hb0 := Below.refl WD.heap.size WD
              (refine wpAnyH_ready (rs := [0, 4]) (by kernel_rfl) (by simp) ?_)
              refine AllReadyH.cons rfl (fun K hK => ?_) (AllReadyH.cons rfl (fun K hK => ?_) AllReadyH.nil)
              · refine Eq.mpr (if_pos (by kernel_rfl)) ?_
                refine wp_build0O rfl WD.heap.size hb0.size ?_
                intro v1 hq hv hn0
                replace hb0 := below_next hb0 hb0.size hv
                refine hK.out _ _ (kXd.below hb0 kXd.lt) (fun hHeld => ?_)
                clear hK K hv
                (try simp only [List.getElem_toArray, List.getElem_cons_zero, List.getElem_cons_succ, Act.put, List.setIfInBounds_toArray, List.set_cons_zero, List.set_cons_succ])
                (refine wpAnyH_ready (rs := [2, 4]) (by kernel_rfl) (by simp) ?_)
                refine AllReadyH.cons rfl (fun K hK => ?_) (AllReadyH.cons rfl (fun K hK => ?_) AllReadyH.nil)
                · refine Eq.mpr (if_pos (by kernel_rfl)) ?_
                  refine wp_appDs (.tmp 162) (.tmp 163) rfl hq l (hsd.next hb0).defs rfl rfl hl0 (by omega) hb0.size ?_
                  intro AQ2 cQ2 v2 hq2 hg2 hv
                  replace hb0 := hb0.trans hv
                  refine hK.out _ _ (kXd.below hb0 kXd.lt) (fun hHeld => ?_)
                  clear hK K hv
                  (try simp only [List.getElem_toArray, List.getElem_cons_zero, List.getElem_cons_succ, Act.put, List.setIfInBounds_toArray, List.set_cons_zero, List.set_cons_succ])
                  (refine wpAnyH_ready (rs := [4]) (by kernel_rfl) (by simp) ?_)
                  refine AllReadyH.cons rfl (fun K hK => ?_) AllReadyH.nil
                  refine Eq.mpr (if_pos (by kernel_rfl)) ?_
                  refine wp_build1O (.tmp 165) rfl x rfl ?_
                  intro v3 ht hv hn4
                  replace hb0 := below_next hb0 hb0.size hv
                  replace hq2 := hq2.below hv
                  refine hK.out _ _ (kXd.below hb0 kXd.lt) (fun hHeld => ?_)
                  clear hK K hv
                  (try simp only [List.getElem_toArray, List.getElem_cons_zero, List.getElem_cons_succ, Act.put, List.setIfInBounds_toArray, List.set_cons_zero, List.set_cons_succ])
                  (refine wpAnyH_ready (rs := [5]) (by kernel_rfl) (by simp) ?_)
                  refine AllReadyH.cons rfl (fun K hK => ?_) AllReadyH.nil
                  refine Eq.mpr (if_pos (by kernel_rfl)) ?_
                  refine wp_appO (.tmp 164) (.tmp 166) rfl hq2 x rfl _ rfl ht (by omega) hb0.size ?_
                  intro AQ5 cQ5 v4 hq5 _ _ hv
                  replace hb0 := hb0.trans hv
                  refine hK.out _ _ (kXd.below hb0 kXd.lt) (fun hHeld => ?_)
                  clear hK K hv
                  (try simp only [List.getElem_toArray, List.getElem_cons_zero, List.getElem_cons_succ, Act.put, List.setIfInBounds_toArray, List.set_cons_zero, List.set_cons_succ])
                  (refine wpAnyH_take (i := 6) (v := ?_) rfl (by kernel_rfl) (by kernel_rfl) (by kernel_rfl) (fun _ _ _ h => h) (Or.inl ⟨by rfl, ?_⟩) (by assumption) ?_; rotate_left; (· intro w5 hS5; (try dsimp only at hS5); go_simp <;> with_reducible rfl); (try simp only [List.getElem_toArray, List.getElem_cons_zero, List.getElem_cons_succ, Act.put, List.setIfInBounds_toArray, List.set_cons_zero, List.set_cons_succ]))
                  refine wpAnyH_done (by kernel_rfl) ?_ _
                  clear hHeld
                  have hsr := hsd.next hb0
                  have hKr := hKd.below hb0
                  obtain ⟨p1, p2⟩ := hq5.caps
                  have dM := hq5.defs
                  have HCM := Lib.hid (H3.out AQ5 cQ5 _ p1 p2 dM)
                  have hlx : (l ++ [x]).length = l.length + 1 := by simp
                  have HLX := Lib.hid hlx
                  have HCN := HCM
                  rw [hlx] at HCN
                  clear hlx
                  clear hb0 hsd hKd kXd
                  by_cases hcm : CM = 0
                  · have H5 := Lib.hid (HX.out hcm)
                    have H6 := H5
                    rw [HLX.out] at H6
                    have p1' := p1
                    rw [HLX.out] at p1'
                    subst hcm
                    go_wp2_with (first
                      | go_skip
                      | (go_at_call 33; (first | (with_reducible refine HCM.out.mono ?_) | (with_reducible refine HCN.out.mono ?_)); rintro e w ⟨rfl, hb⟩; replace hsr := hsr.next hb; replace hKr := hKr.below hb; have dN := dM.behind hb; clear hb)
                      | (go_at_call 34; (first | (with_reducible refine (H5.out AQ5 cQ5 _ p1 p2 dN hsr.err hsr.pos).mono ?_) | (with_reducible refine (H6.out AQ5 cQ5 _ p1' p2 dN hsr.err hsr.pos).mono ?_)); rintro e w9 ⟨rfl, hb⟩; have hT2 := below26 w9 V; replace hsr := (hsr.next hb).next hT2; replace hKr := (hKr.below hb).push hT2 (new26 w9 V); clear hb hT2; have kN := new26z w9)
                      | (refine stV 23 177 rfl rfl kN rfl rfl ?_; (try simp only [List.getElem_toArray, List.getElem_cons_zero, List.getElem_cons_succ, Act.put, List.setIfInBounds_toArray, List.set_cons_zero, List.set_cons_succ]))
                      | (go_at_call 15; refine (hS.out _).mono ?_; rintro e w ⟨rfl, hb⟩; replace hsr := hsr.next hb; replace hKr := hKr.below hb; clear hb)
                      | (refine ldVG 23 (by rfl) rfl (hKr.get 4 rfl) rfl ?_; (try simp only [List.getElem_toArray, List.getElem_cons_zero, List.getElem_cons_succ, Act.put, List.setIfInBounds_toArray, List.set_cons_zero, List.set_cons_succ]))
                      | (refine ldVG 11 (by rfl) rfl (hKr.get 1 rfl) rfl ?_; (try simp only [List.getElem_toArray, List.getElem_cons_zero, List.getElem_cons_succ, Act.put, List.setIfInBounds_toArray, List.set_cons_zero, List.set_cons_succ]))
                      | (refine wpl_sameG (by rfl) (.tmp 181) (.tmp 182) _ rfl V rfl rfl ?_; (try simp only [List.getElem_toArray, List.getElem_cons_zero, List.getElem_cons_succ, Act.put, List.setIfInBounds_toArray, List.set_cons_zero, List.set_cons_succ])))
                    go_ret
                    exact ⟨rfl, hsr.below⟩
                  · have g0 : (CM != 0) = true := by simp [hcm]
                    clear hcm HX
                    go_wp2_with (first
                      | go_skip
                      | (go_at_call 33; (first | (with_reducible refine HCM.out.mono ?_) | (with_reducible refine HCN.out.mono ?_)); rintro e w ⟨rfl, hb⟩; replace hsr := hsr.next hb; replace hKr := hKr.below hb; clear hb)
                      | (go_at_call 15; refine (hS.out _).mono ?_; rintro e w ⟨rfl, hb⟩; replace hsr := hsr.next hb; replace hKr := hKr.below hb; clear hb))
                    go_ret
                    exact ⟨rfl, hsr.below⟩
                · refine Eq.mpr (if_pos (by kernel_rfl)) ?_
                  refine wp_build1O (.tmp 165) rfl x rfl ?_
                  intro v5 ht hv hn4
                  replace hb0 := below_next hb0 hb0.size hv
                  replace hq := hq.below hv
                  refine hK.out _ _ (kXd.below hb0 kXd.lt) (fun hHeld => ?_)
                  clear hK K hv
                  (try simp only [List.getElem_toArray, List.getElem_cons_zero, List.getElem_cons_succ, Act.put, List.setIfInBounds_toArray, List.set_cons_zero, List.set_cons_succ])
                  (refine wpAnyH_ready (rs := [2]) (by kernel_rfl) (by simp) ?_)
                  refine AllReadyH.cons rfl (fun K hK => ?_) AllReadyH.nil
                  refine Eq.mpr (if_pos (by kernel_rfl)) ?_
                  refine wp_appDs (.tmp 162) (.tmp 163) rfl hq l (hsd.next hb0).defs rfl rfl hl0 (by omega) hb0.size ?_
                  intro AQ2 cQ2 v6 hq2 hg2 hv
                  replace hb0 := hb0.trans hv
                  replace ht := ht.grown hg2 (fun e => by have e := Option.some.inj e; (try dsimp only at e); omega)
                  refine hK.out _ _ (kXd.below hb0 kXd.lt) (fun hHeld => ?_)
                  clear hK K hv
                  (try simp only [List.getElem_toArray, List.getElem_cons_zero, List.getElem_cons_succ, Act.put, List.setIfInBounds_toArray, List.set_cons_zero, List.set_cons_succ])
                  (refine wpAnyH_ready (rs := [5]) (by kernel_rfl) (by simp) ?_)
                  refine AllReadyH.cons rfl (fun K hK => ?_) AllReadyH.nil
                  refine Eq.mpr (if_pos (by kernel_rfl)) ?_
                  refine wp_appO (.tmp 164) (.tmp 166) rfl hq2 x rfl _ rfl ht (by omega) hb0.size ?_
                  intro AQ5 cQ5 v7 hq5 _ _ hv
                  replace hb0 := hb0.trans hv
                  refine hK.out _ _ (kXd.below hb0 kXd.lt) (fun hHeld => ?_)
                  clear hK K hv
                  (try simp only [List.getElem_toArray, List.getElem_cons_zero, List.getElem_cons_succ, Act.put, List.setIfInBounds_toArray, List.set_cons_zero, List.set_cons_succ])
                  (refine wpAnyH_take (i := 6) (v := ?_) rfl (by kernel_rfl) (by kernel_rfl) (by kernel_rfl) (fun _ _ _ h => h) (Or.inl ⟨by rfl, ?_⟩) (by assumption) ?_; rotate_left; (· intro w5 hS5; (try dsimp only at hS5); go_simp <;> with_reducible rfl); (try simp only [List.getElem_toArray, List.getElem_cons_zero, List.getElem_cons_succ, Act.put, List.setIfInBounds_toArray, List.set_cons_zero, List.set_cons_succ]))
                  refine wpAnyH_done (by kernel_rfl) ?_ _
                  clear hHeld
                  have hsr := hsd.next hb0
                  have hKr := hKd.below hb0
                  obtain ⟨p1, p2⟩ := hq5.caps
                  have dM := hq5.defs
                  have HCM := Lib.hid (H3.out AQ5 cQ5 _ p1 p2 dM)
                  have hlx : (l ++ [x]).length = l.length + 1 := by simp
                  have HLX := Lib.hid hlx
                  have HCN := HCM
                  rw [hlx] at HCN
                  clear hlx
                  clear hb0 hsd hKd kXd
                  by_cases hcm : CM = 0
                  · have H5 := Lib.hid (HX.out hcm)
                    have H6 := H5
                    rw [HLX.out] at H6
                    have p1' := p1
                    rw [HLX.out] at p1'
                    subst hcm
                    go_wp2_with (first
                      | go_skip
                      | (go_at_call 33; (first | (with_reducible refine HCM.out.mono ?_) | (with_reducible refine HCN.out.mono ?_)); rintro e w ⟨rfl, hb⟩; replace hsr := hsr.next hb; replace hKr := hKr.below hb; have dN := dM.behind hb; clear hb)
                      | (go_at_call 34; (first | (with_reducible refine (H5.out AQ5 cQ5 _ p1 p2 dN hsr.err hsr.pos).mono ?_) | (with_reducible refine (H6.out AQ5 cQ5 _ p1' p2 dN hsr.err hsr.pos).mono ?_)); rintro e w9 ⟨rfl, hb⟩; have hT2 := below26 w9 V; replace hsr := (hsr.next hb).next hT2; replace hKr := (hKr.below hb).push hT2 (new26 w9 V); clear hb hT2; have kN := new26z w9)
                      | (refine stV 23 177 rfl rfl kN rfl rfl ?_; (try simp only [List.getElem_toArray, List.getElem_cons_zero, List.getElem_cons_succ, Act.put, List.setIfInBounds_toArray, List.set_cons_zero, List.set_cons_succ]))
                      | (go_at_call 15; refine (hS.out _).mono ?_; rintro e w ⟨rfl, hb⟩; replace hsr := hsr.next hb; replace hKr := hKr.below hb; clear hb)
                      | (refine ldVG 23 (by rfl) rfl (hKr.get 4 rfl) rfl ?_; (try simp only [List.getElem_toArray, List.getElem_cons_zero, List.getElem_cons_succ, Act.put, List.setIfInBounds_toArray, List.set_cons_zero, List.set_cons_succ]))
                      | (refine ldVG 11 (by rfl) rfl (hKr.get 1 rfl) rfl ?_; (try simp only [List.getElem_toArray, List.getElem_cons_zero, List.getElem_cons_succ, Act.put, List.setIfInBounds_toArray, List.set_cons_zero, List.set_cons_succ]))
                      | (refine wpl_sameG (by rfl) (.tmp 181) (.tmp 182) _ rfl V rfl rfl ?_; (try simp only [List.getElem_toArray, List.getElem_cons_zero, List.getElem_cons_succ, Act.put, List.setIfInBounds_toArray, List.set_cons_zero, List.set_cons_succ])))
                    go_ret
                    exact ⟨rfl, hsr.below⟩
                  · have g0 : (CM != 0) = true := by simp [hcm]
                    clear hcm HX
                    go_wp2_with (first
                      | go_skip
                      | (go_at_call 33; (first | (with_reducible refine HCM.out.mono ?_) | (with_reducible refine HCN.out.mono ?_)); rintro e w ⟨rfl, hb⟩; replace hsr := hsr.next hb; replace hKr := hKr.below hb; clear hb)
                      | (go_at_call 15; refine (hS.out _).mono ?_; rintro e w ⟨rfl, hb⟩; replace hsr := hsr.next hb; replace hKr := hKr.below hb; clear hb))
                    go_ret
                    exact ⟨rfl, hsr.below⟩
              · refine Eq.mpr (if_pos (by kernel_rfl)) ?_
                refine wp_build1O (.tmp 165) rfl x rfl ?_
                intro v8 ht hv hn4
                replace hb0 := below_next hb0 hb0.size hv
                refine hK.out _ _ (kXd.below hb0 kXd.lt) (fun hHeld => ?_)
                clear hK K hv
                (try simp only [List.getElem_toArray, List.getElem_cons_zero, List.getElem_cons_succ, Act.put, List.setIfInBounds_toArray, List.set_cons_zero, List.set_cons_succ])
                (refine wpAnyH_ready (rs := [0]) (by kernel_rfl) (by simp) ?_)
                refine AllReadyH.cons rfl (fun K hK => ?_) AllReadyH.nil
                refine Eq.mpr (if_pos (by kernel_rfl)) ?_
                refine wp_build0O rfl WD.heap.size hb0.size ?_
                intro v9 hq hv hn0
                replace hb0 := below_next hb0 hb0.size hv
                replace ht := ht.below hv ht.lt
                refine hK.out _ _ (kXd.below hb0 kXd.lt) (fun hHeld => ?_)
                clear hK K hv
                (try simp only [List.getElem_toArray, List.getElem_cons_zero, List.getElem_cons_succ, Act.put, List.setIfInBounds_toArray, List.set_cons_zero, List.set_cons_succ])
                (refine wpAnyH_ready (rs := [2]) (by kernel_rfl) (by simp) ?_)
                refine AllReadyH.cons rfl (fun K hK => ?_) AllReadyH.nil
                refine Eq.mpr (if_pos (by kernel_rfl)) ?_
                refine wp_appDs (.tmp 162) (.tmp 163) rfl hq l (hsd.next hb0).defs rfl rfl hl0 (by omega) hb0.size ?_
                intro AQ2 cQ2 v10 hq2 hg2 hv
                replace hb0 := hb0.trans hv
                replace ht := ht.grown hg2 (fun e => by have e := Option.some.inj e; (try dsimp only at e); omega)
                refine hK.out _ _ (kXd.below hb0 kXd.lt) (fun hHeld => ?_)
                clear hK K hv
                (try simp only [List.getElem_toArray, List.getElem_cons_zero, List.getElem_cons_succ, Act.put, List.setIfInBounds_toArray, List.set_cons_zero, List.set_cons_succ])
                (refine wpAnyH_ready (rs := [5]) (by kernel_rfl) (by simp) ?_)
                refine AllReadyH.cons rfl (fun K hK => ?_) AllReadyH.nil
                refine Eq.mpr (if_pos (by kernel_rfl)) ?_
                refine wp_appO (.tmp 164) (.tmp 166) rfl hq2 x rfl _ rfl ht (by omega) hb0.size ?_
                intro AQ5 cQ5 v11 hq5 _ _ hv
                replace hb0 := hb0.trans hv
                refine hK.out _ _ (kXd.below hb0 kXd.lt) (fun hHeld => ?_)
                clear hK K hv
                (try simp only [List.getElem_toArray, List.getElem_cons_zero, List.getElem_cons_succ, Act.put, List.setIfInBounds_toArray, List.set_cons_zero, List.set_cons_succ])
                (refine wpAnyH_take (i := 6) (v := ?_) rfl (by kernel_rfl) (by kernel_rfl) (by kernel_rfl) (fun _ _ _ h => h) (Or.inl ⟨by rfl, ?_⟩) (by assumption) ?_; rotate_left; (· intro w5 hS5; (try dsimp only at hS5); go_simp <;> with_reducible rfl); (try simp only [List.getElem_toArray, List.getElem_cons_zero, List.getElem_cons_succ, Act.put, List.setIfInBounds_toArray, List.set_cons_zero, List.set_cons_succ]))
                refine wpAnyH_done (by kernel_rfl) ?_ _
                clear hHeld
                have hsr := hsd.next hb0
                have hKr := hKd.below hb0
                obtain ⟨p1, p2⟩ := hq5.caps
                have dM := hq5.defs
                have HCM := Lib.hid (H3.out AQ5 cQ5 _ p1 p2 dM)
                have hlx : (l ++ [x]).length = l.length + 1 := by simp
                have HLX := Lib.hid hlx
                have HCN := HCM
                rw [hlx] at HCN
                clear hlx
                clear hb0 hsd hKd kXd
                by_cases hcm : CM = 0
                · have H5 := Lib.hid (HX.out hcm)
                  have H6 := H5
                  rw [HLX.out] at H6
                  have p1' := p1
                  rw [HLX.out] at p1'
                  subst hcm
                  go_wp2_with (first
                    | go_skip
                    | (go_at_call 33; (first | (with_reducible refine HCM.out.mono ?_) | (with_reducible refine HCN.out.mono ?_)); rintro e w ⟨rfl, hb⟩; replace hsr := hsr.next hb; replace hKr := hKr.below hb; have dN := dM.behind hb; clear hb)
                    | (go_at_call 34; (first | (with_reducible refine (H5.out AQ5 cQ5 _ p1 p2 dN hsr.err hsr.pos).mono ?_) | (with_reducible refine (H6.out AQ5 cQ5 _ p1' p2 dN hsr.err hsr.pos).mono ?_)); rintro e w9 ⟨rfl, hb⟩; have hT2 := below26 w9 V; replace hsr := (hsr.next hb).next hT2; replace hKr := (hKr.below hb).push hT2 (new26 w9 V); clear hb hT2; have kN := new26z w9)
                    | (refine stV 23 177 rfl rfl kN rfl rfl ?_; (try simp only [List.getElem_toArray, List.getElem_cons_zero, List.getElem_cons_succ, Act.put, List.setIfInBounds_toArray, List.set_cons_zero, List.set_cons_succ]))
                    | (go_at_call 15; refine (hS.out _).mono ?_; rintro e w ⟨rfl, hb⟩; replace hsr := hsr.next hb; replace hKr := hKr.below hb; clear hb)
                    | (refine ldVG 23 (by rfl) rfl (hKr.get 4 rfl) rfl ?_; (try simp only [List.getElem_toArray, List.getElem_cons_zero, List.getElem_cons_succ, Act.put, List.setIfInBounds_toArray, List.set_cons_zero, List.set_cons_succ]))
                    | (refine ldVG 11 (by rfl) rfl (hKr.get 1 rfl) rfl ?_; (try simp only [List.getElem_toArray, List.getElem_cons_zero, List.getElem_cons_succ, Act.put, List.setIfInBounds_toArray, List.set_cons_zero, List.set_cons_succ]))
                    | (refine wpl_sameG (by rfl) (.tmp 181) (.tmp 182) _ rfl V rfl rfl ?_; (try simp only [List.getElem_toArray, List.getElem_cons_zero, List.getElem_cons_succ, Act.put, List.setIfInBounds_toArray, List.set_cons_zero, List.set_cons_succ])))
                  go_ret
                  exact ⟨rfl, hsr.below⟩
                · have g0 : (CM != 0) = true := by simp [hcm]
                  clear hcm HX
                  go_wp2_with (first
                    | go_skip
                    | (go_at_call 33; (first | (with_reducible refine HCM.out.mono ?_) | (with_reducible refine HCN.out.mono ?_)); rintro e w ⟨rfl, hb⟩; replace hsr := hsr.next hb; replace hKr := hKr.below hb; clear hb)
                    | (go_at_call 15; refine (hS.out _).mono ?_; rintro e w ⟨rfl, hb⟩; replace hsr := hsr.next hb; replace hKr := hKr.below hb; clear hb))
                  go_ret
                  exact ⟨rfl, hsr.below⟩
        · have HX := Lib.hid (fun h => H4.out rfl h fun hk => absurd hk hkx)
          have hkd : decide (x.known ≤ known) = false := decide_eq_false hkx
          clear H4
          go_upto_region 19 with (first
            | go_skip)
          clear hS4r x0 x1 hkd hkx
          have hsd := hsr.next (show Below wz.heap.size wz wz.drew from (Below.refl _ _).drew)
          have hKd := hKr.below (show Below wz.heap.size wz wz.drew from (Below.refl _ _).drew)
          clear hsr hKr
          refine wp_region_held_drew (S := fun w' => Blk w' w.heap.size 60 (dfA x)) (by kernel_rfl) (hKd.get 0 rfl) (fun hHeld => ?_)
          obtain ⟨WD, hWD⟩ : ∃ WD, WD = wz.drew := ⟨_, rfl⟩
          rw [← hWD] at hsd hKd ⊢
          clear hWD
          have kXd := hKd.get 0 rfl
          (refine wpAnyH_take (i := 1) (v := ?_) rfl (by kernel_rfl) (by kernel_rfl) (by kernel_rfl) (fun _ _ _ h => h) (Or.inl ⟨by rfl, ?_⟩) (by assumption) ?_; rotate_left; (· intro w5 hS5; (try dsimp only at hS5); go_simp <;> with_reducible rfl); (try simp only [List.getElem_toArray, List.getElem_cons_zero, List.getElem_cons_succ, Act.put, List.setIfInBounds_toArray, List.set_cons_zero, List.set_cons_succ]))
          (refine wpAnyH_take (i := 3) (v := .agg (dfA x)) rfl (by kernel_rfl) (by kernel_rfl) (by kernel_rfl) (fun _ _ _ h => h) (yieldsIf_load_row (by rfl) 60 _ rfl w.heap.size rfl 60 (dfA x) (0, 0) _ (fun w5 hS5 => hS5) Tryz.underlying60 rfl (info60 x)) (by assumption) ?_; (try simp only [List.getElem_toArray, List.getElem_cons_zero, List.getElem_cons_succ, Act.put, List.setIfInBounds_toArray, List.set_cons_zero, List.set_cons_succ]))
          have hb0 := Below.refl WD.heap.size WD
          (refine wpAnyH_ready (rs := [0, 4]) (by kernel_rfl) (by simp) ?_)
          refine AllReadyH.cons rfl (fun K hK => ?_) (AllReadyH.cons rfl (fun K hK => ?_) AllReadyH.nil)
          · refine Eq.mpr (if_pos (by kernel_rfl)) ?_
            refine wp_build0O rfl WD.heap.size hb0.size ?_
            intro v12 hq hv hn0
            replace hb0 := below_next hb0 hb0.size hv
            refine hK.out _ _ (kXd.below hb0 kXd.lt) (fun hHeld => ?_)
            clear hK K hv
            (try simp only [List.getElem_toArray, List.getElem_cons_zero, List.getElem_cons_succ, Act.put, List.setIfInBounds_toArray, List.set_cons_zero, List.set_cons_succ])
            (refine wpAnyH_ready (rs := [2, 4]) (by kernel_rfl) (by simp) ?_)
            refine AllReadyH.cons rfl (fun K hK => ?_) (AllReadyH.cons rfl (fun K hK => ?_) AllReadyH.nil)
            · refine Eq.mpr (if_pos (by kernel_rfl)) ?_
              refine wp_appDs (.tmp 162) (.tmp 163) rfl hq l (hsd.next hb0).defs rfl rfl hl0 (by omega) hb0.size ?_
              intro AQ2 cQ2 v13 hq2 hg2 hv
              replace hb0 := hb0.trans hv
              refine hK.out _ _ (kXd.below hb0 kXd.lt) (fun hHeld => ?_)
              clear hK K hv
              (try simp only [List.getElem_toArray, List.getElem_cons_zero, List.getElem_cons_succ, Act.put, List.setIfInBounds_toArray, List.set_cons_zero, List.set_cons_succ])
              (refine wpAnyH_ready (rs := [4]) (by kernel_rfl) (by simp) ?_)
              refine AllReadyH.cons rfl (fun K hK => ?_) AllReadyH.nil
              refine Eq.mpr (if_pos (by kernel_rfl)) ?_
              refine wp_build1O (.tmp 165) rfl x rfl ?_
              intro v14 ht hv hn4
              replace hb0 := below_next hb0 hb0.size hv
              replace hq2 := hq2.below hv
              refine hK.out _ _ (kXd.below hb0 kXd.lt) (fun hHeld => ?_)
              clear hK K hv
              (try simp only [List.getElem_toArray, List.getElem_cons_zero, List.getElem_cons_succ, Act.put, List.setIfInBounds_toArray, List.set_cons_zero, List.set_cons_succ])
              (refine wpAnyH_ready (rs := [5]) (by kernel_rfl) (by simp) ?_)
              refine AllReadyH.cons rfl (fun K hK => ?_) AllReadyH.nil
              refine Eq.mpr (if_pos (by kernel_rfl)) ?_
              refine wp_appO (.tmp 164) (.tmp 166) rfl hq2 x rfl _ rfl ht (by omega) hb0.size ?_
              intro AQ5 cQ5 v15 hq5 _ _ hv
              replace hb0 := hb0.trans hv
              refine hK.out _ _ (kXd.below hb0 kXd.lt) (fun hHeld => ?_)
              clear hK K hv
              (try simp only [List.getElem_toArray, List.getElem_cons_zero, List.getElem_cons_succ, Act.put, List.setIfInBounds_toArray, List.set_cons_zero, List.set_cons_succ])
              (refine wpAnyH_take (i := 6) (v := ?_) rfl (by kernel_rfl) (by kernel_rfl) (by kernel_rfl) (fun _ _ _ h => h) (Or.inl ⟨by rfl, ?_⟩) (by assumption) ?_; rotate_left; (· intro w5 hS5; (try dsimp only at hS5); go_simp <;> with_reducible rfl); (try simp only [List.getElem_toArray, List.getElem_cons_zero, List.getElem_cons_succ, Act.put, List.setIfInBounds_toArray, List.set_cons_zero, List.set_cons_succ]))
              refine wpAnyH_done (by kernel_rfl) ?_ _
              clear hHeld
              have hsr := hsd.next hb0
              have hKr := hKd.below hb0
              obtain ⟨p1, p2⟩ := hq5.caps
              have dM := hq5.defs
              have HCM := Lib.hid (H3.out AQ5 cQ5 _ p1 p2 dM)
              have hlx : (l ++ [x]).length = l.length + 1 := by simp
              have HLX := Lib.hid hlx
              have HCN := HCM
              rw [hlx] at HCN
              clear hlx
              clear hb0 hsd hKd kXd
              by_cases hcm : CM = 0
              · have H5 := Lib.hid (HX.out hcm)
                have H6 := H5
                rw [HLX.out] at H6
                have p1' := p1
                rw [HLX.out] at p1'
                subst hcm
                go_wp2_with (first
                  | go_skip
                  | (go_at_call 33; (first | (with_reducible refine HCM.out.mono ?_) | (with_reducible refine HCN.out.mono ?_)); rintro e w ⟨rfl, hb⟩; replace hsr := hsr.next hb; replace hKr := hKr.below hb; have dN := dM.behind hb; clear hb)
                  | (go_at_call 34; (first | (with_reducible refine (H5.out AQ5 cQ5 _ p1 p2 dN hsr.err hsr.pos).mono ?_) | (with_reducible refine (H6.out AQ5 cQ5 _ p1' p2 dN hsr.err hsr.pos).mono ?_)); rintro e w9 ⟨rfl, hb⟩; have hT2 := below26 w9 V; replace hsr := (hsr.next hb).next hT2; replace hKr := (hKr.below hb).push hT2 (new26 w9 V); clear hb hT2; have kN := new26z w9)
                  | (refine stV 23 177 rfl rfl kN rfl rfl ?_; (try simp only [List.getElem_toArray, List.getElem_cons_zero, List.getElem_cons_succ, Act.put, List.setIfInBounds_toArray, List.set_cons_zero, List.set_cons_succ]))
                  | (go_at_call 15; refine (hS.out _).mono ?_; rintro e w ⟨rfl, hb⟩; replace hsr := hsr.next hb; replace hKr := hKr.below hb; clear hb)
                  | (refine ldVG 23 (by rfl) rfl (hKr.get 4 rfl) rfl ?_; (try simp only [List.getElem_toArray, List.getElem_cons_zero, List.getElem_cons_succ, Act.put, List.setIfInBounds_toArray, List.set_cons_zero, List.set_cons_succ]))
                  | (refine ldVG 11 (by rfl) rfl (hKr.get 1 rfl) rfl ?_; (try simp only [List.getElem_toArray, List.getElem_cons_zero, List.getElem_cons_succ, Act.put, List.setIfInBounds_toArray, List.set_cons_zero, List.set_cons_succ]))
                  | (refine wpl_sameG (by rfl) (.tmp 181) (.tmp 182) _ rfl V rfl rfl ?_; (try simp only [List.getElem_toArray, List.getElem_cons_zero, List.getElem_cons_succ, Act.put, List.setIfInBounds_toArray, List.set_cons_zero, List.set_cons_succ])))
                go_ret
                exact ⟨rfl, hsr.below⟩
              · have g0 : (CM != 0) = true := by simp [hcm]
                clear hcm HX
                go_wp2_with (first
                  | go_skip
                  | (go_at_call 33; (first | (with_reducible refine HCM.out.mono ?_) | (with_reducible refine HCN.out.mono ?_)); rintro e w ⟨rfl, hb⟩; replace hsr := hsr.next hb; replace hKr := hKr.below hb; clear hb)
                  | (go_at_call 15; refine (hS.out _).mono ?_; rintro e w ⟨rfl, hb⟩; replace hsr := hsr.next hb; replace hKr := hKr.below hb; clear hb))
                go_ret
                exact ⟨rfl, hsr.below⟩
            · refine Eq.mpr (if_pos (by kernel_rfl)) ?_
              refine wp_build1O (.tmp 165) rfl x rfl ?_
              intro v16 ht hv hn4
              replace hb0 := below_next hb0 hb0.size hv
              replace hq := hq.below hv
              refine hK.out _ _ (kXd.below hb0 kXd.lt) (fun hHeld => ?_)
              clear hK K hv
              (try simp only [List.getElem_toArray, List.getElem_cons_zero, List.getElem_cons_succ, Act.put, List.setIfInBounds_toArray, List.set_cons_zero, List.set_cons_succ])
              (refine wpAnyH_ready (rs := [2]) (by kernel_rfl) (by simp) ?_)
              refine AllReadyH.cons rfl (fun K hK => ?_) AllReadyH.nil
              refine Eq.mpr (if_pos (by kernel_rfl)) ?_
              refine wp_appDs (.tmp 162) (.tmp 163) rfl hq l (hsd.next hb0).defs rfl rfl hl0 (by omega) hb0.size ?_
              intro AQ2 cQ2 v17 hq2 hg2 hv
              replace hb0 := hb0.trans hv
              replace ht := ht.grown hg2 (fun e => by have e := Option.some.inj e; (try dsimp only at e); omega)
              refine hK.out _ _ (kXd.below hb0 kXd.lt) (fun hHeld => ?_)
              clear hK K hv
              (try simp only [List.getElem_toArray, List.getElem_cons_zero, List.getElem_cons_succ, Act.put, List.setIfInBounds_toArray, List.set_cons_zero, List.set_cons_succ])
              (refine wpAnyH_ready (rs := [5]) (by kernel_rfl) (by simp) ?_)
              refine AllReadyH.cons rfl (fun K hK => ?_) AllReadyH.nil
              refine Eq.mpr (if_pos (by kernel_rfl)) ?_
              refine wp_appO (.tmp 164) (.tmp 166) rfl hq2 x rfl _ rfl ht (by omega) hb0.size ?_
              intro AQ5 cQ5 v18 hq5 _ _ hv
              replace hb0 := hb0.trans hv
              refine hK.out _ _ (kXd.below hb0 kXd.lt) (fun hHeld => ?_)
              clear hK K hv
              (try simp only [List.getElem_toArray, List.getElem_cons_zero, List.getElem_cons_succ, Act.put, List.setIfInBounds_toArray, List.set_cons_zero, List.set_cons_succ])
              (refine wpAnyH_take (i := 6) (v := ?_) rfl (by kernel_rfl) (by kernel_rfl) (by kernel_rfl) (fun _ _ _ h => h) (Or.inl ⟨by rfl, ?_⟩) (by assumption) ?_; rotate_left; (· intro w5 hS5; (try dsimp only at hS5); go_simp <;> with_reducible rfl); (try simp only [List.getElem_toArray, List.getElem_cons_zero, List.getElem_cons_succ, Act.put, List.setIfInBounds_toArray, List.set_cons_zero, List.set_cons_succ]))
              refine wpAnyH_done (by kernel_rfl) ?_ _
              clear hHeld
              have hsr := hsd.next hb0
              have hKr := hKd.below hb0
              obtain ⟨p1, p2⟩ := hq5.caps
              have dM := hq5.defs
              have HCM := Lib.hid (H3.out AQ5 cQ5 _ p1 p2 dM)
              have hlx : (l ++ [x]).length = l.length + 1 := by simp
              have HLX := Lib.hid hlx
              have HCN := HCM
              rw [hlx] at HCN
              clear hlx
              clear hb0 hsd hKd kXd
              by_cases hcm : CM = 0
              · have H5 := Lib.hid (HX.out hcm)
                have H6 := H5
                rw [HLX.out] at H6
                have p1' := p1
                rw [HLX.out] at p1'
                subst hcm
                go_wp2_with (first
                  | go_skip
                  | (go_at_call 33; (first | (with_reducible refine HCM.out.mono ?_) | (with_reducible refine HCN.out.mono ?_)); rintro e w ⟨rfl, hb⟩; replace hsr := hsr.next hb; replace hKr := hKr.below hb; have dN := dM.behind hb; clear hb)
                  | (go_at_call 34; (first | (with_reducible refine (H5.out AQ5 cQ5 _ p1 p2 dN hsr.err hsr.pos).mono ?_) | (with_reducible refine (H6.out AQ5 cQ5 _ p1' p2 dN hsr.err hsr.pos).mono ?_)); rintro e w9 ⟨rfl, hb⟩; have hT2 := below26 w9 V; replace hsr := (hsr.next hb).next hT2; replace hKr := (hKr.below hb).push hT2 (new26 w9 V); clear hb hT2; have kN := new26z w9)
                  | (refine stV 23 177 rfl rfl kN rfl rfl ?_; (try simp only [List.getElem_toArray, List.getElem_cons_zero, List.getElem_cons_succ, Act.put, List.setIfInBounds_toArray, List.set_cons_zero, List.set_cons_succ]))
                  | (go_at_call 15; refine (hS.out _).mono ?_; rintro e w ⟨rfl, hb⟩; replace hsr := hsr.next hb; replace hKr := hKr.below hb; clear hb)
                  | (refine ldVG 23 (by rfl) rfl (hKr.get 4 rfl) rfl ?_; (try simp only [List.getElem_toArray, List.getElem_cons_zero, List.getElem_cons_succ, Act.put, List.setIfInBounds_toArray, List.set_cons_zero, List.set_cons_succ]))
                  | (refine ldVG 11 (by rfl) rfl (hKr.get 1 rfl) rfl ?_; (try simp only [List.getElem_toArray, List.getElem_cons_zero, List.getElem_cons_succ, Act.put, List.setIfInBounds_toArray, List.set_cons_zero, List.set_cons_succ]))
                  | (refine wpl_sameG (by rfl) (.tmp 181) (.tmp 182) _ rfl V rfl rfl ?_; (try simp only [List.getElem_toArray, List.getElem_cons_zero, List.getElem_cons_succ, Act.put, List.setIfInBounds_toArray, List.set_cons_zero, List.set_cons_succ])))
                go_ret
                exact ⟨rfl, hsr.below⟩
              · have g0 : (CM != 0) = true := by simp [hcm]
                clear hcm HX
                go_wp2_with (first
                  | go_skip
                  | (go_at_call 33; (first | (with_reducible refine HCM.out.mono ?_) | (with_reducible refine HCN.out.mono ?_)); rintro e w ⟨rfl, hb⟩; replace hsr := hsr.next hb; replace hKr := hKr.below hb; clear hb)
                  | (go_at_call 15; refine (hS.out _).mono ?_; rintro e w ⟨rfl, hb⟩; replace hsr := hsr.next hb; replace hKr := hKr.below hb; clear hb))
                go_ret
                exact ⟨rfl, hsr.below⟩
          · refine Eq.mpr (if_pos (by kernel_rfl)) ?_
            refine wp_build1O (.tmp 165) rfl x rfl ?_
            intro v19 ht hv hn4
            replace hb0 := below_next hb0 hb0.size hv
            refine hK.out _ _ (kXd.below hb0 kXd.lt) (fun hHeld => ?_)
            clear hK K hv
            (try simp only [List.getElem_toArray, List.getElem_cons_zero, List.getElem_cons_succ, Act.put, List.setIfInBounds_toArray, List.set_cons_zero, List.set_cons_succ])
            (refine wpAnyH_ready (rs := [0]) (by kernel_rfl) (by simp) ?_)
            refine AllReadyH.cons rfl (fun K hK => ?_) AllReadyH.nil
            refine Eq.mpr (if_pos (by kernel_rfl)) ?_
            refine wp_build0O rfl WD.heap.size hb0.size ?_
            intro v20 hq hv hn0
            replace hb0 := below_next hb0 hb0.size hv
            replace ht := ht.below hv ht.lt
            refine hK.out _ _ (kXd.below hb0 kXd.lt) (fun hHeld => ?_)
            clear hK K hv
            (try simp only [List.getElem_toArray, List.getElem_cons_zero, List.getElem_cons_succ, Act.put, List.setIfInBounds_toArray, List.set_cons_zero, List.set_cons_succ])
            (refine wpAnyH_ready (rs := [2]) (by kernel_rfl) (by simp) ?_)
            refine AllReadyH.cons rfl (fun K hK => ?_) AllReadyH.nil
            refine Eq.mpr (if_pos (by kernel_rfl)) ?_
            refine wp_appDs (.tmp 162) (.tmp 163) rfl hq l (hsd.next hb0).defs rfl rfl hl0 (by omega) hb0.size ?_
            intro AQ2 cQ2 v21 hq2 hg2 hv
            replace hb0 := hb0.trans hv
            replace ht := ht.grown hg2 (fun e => by have e := Option.some.inj e; (try dsimp only at e); omega)
            refine hK.out _ _ (kXd.below hb0 kXd.lt) (fun hHeld => ?_)
            clear hK K hv
            (try simp only [List.getElem_toArray, List.getElem_cons_zero, List.getElem_cons_succ, Act.put, List.setIfInBounds_toArray, List.set_cons_zero, List.set_cons_succ])
            (refine wpAnyH_ready (rs := [5]) (by kernel_rfl) (by simp) ?_)
            refine AllReadyH.cons rfl (fun K hK => ?_) AllReadyH.nil
            refine Eq.mpr (if_pos (by kernel_rfl)) ?_
            refine wp_appO (.tmp 164) (.tmp 166) rfl hq2 x rfl _ rfl ht (by omega) hb0.size ?_
            intro AQ5 cQ5 v22 hq5 _ _ hv
            replace hb0 := hb0.trans hv
            refine hK.out _ _ (kXd.below hb0 kXd.lt) (fun hHeld => ?_)
            clear hK K hv
            (try simp only [List.getElem_toArray, List.getElem_cons_zero, List.getElem_cons_succ, Act.put, List.setIfInBounds_toArray, List.set_cons_zero, List.set_cons_succ])
            (refine wpAnyH_take (i := 6) (v := ?_) rfl (by kernel_rfl) (by kernel_rfl) (by kernel_rfl) (fun _ _ _ h => h) (Or.inl ⟨by rfl, ?_⟩) (by assumption) ?_; rotate_left; (· intro w5 hS5; (try dsimp only at hS5); go_simp <;> with_reducible rfl); (try simp only [List.getElem_toArray, List.getElem_cons_zero, List.getElem_cons_succ, Act.put, List.setIfInBounds_toArray, List.set_cons_zero, List.set_cons_succ]))
            refine wpAnyH_done (by kernel_rfl) ?_ _
            clear hHeld
            have hsr := hsd.next hb0
            have hKr := hKd.below hb0
            obtain ⟨p1, p2⟩ := hq5.caps
            have dM := hq5.defs
            have HCM := Lib.hid (H3.out AQ5 cQ5 _ p1 p2 dM)
            have hlx : (l ++ [x]).length = l.length + 1 := by simp
            have HLX := Lib.hid hlx
            have HCN := HCM
            rw [hlx] at HCN
            clear hlx
            clear hb0 hsd hKd kXd
            by_cases hcm : CM = 0
            · have H5 := Lib.hid (HX.out hcm)
              have H6 := H5
              rw [HLX.out] at H6
              have p1' := p1
              rw [HLX.out] at p1'
              subst hcm
              go_wp2_with (first
                | go_skip
                | (go_at_call 33; (first | (with_reducible refine HCM.out.mono ?_) | (with_reducible refine HCN.out.mono ?_)); rintro e w ⟨rfl, hb⟩; replace hsr := hsr.next hb; replace hKr := hKr.below hb; have dN := dM.behind hb; clear hb)
                | (go_at_call 34; (first | (with_reducible refine (H5.out AQ5 cQ5 _ p1 p2 dN hsr.err hsr.pos).mono ?_) | (with_reducible refine (H6.out AQ5 cQ5 _ p1' p2 dN hsr.err hsr.pos).mono ?_)); rintro e w9 ⟨rfl, hb⟩; have hT2 := below26 w9 V; replace hsr := (hsr.next hb).next hT2; replace hKr := (hKr.below hb).push hT2 (new26 w9 V); clear hb hT2; have kN := new26z w9)
                | (refine stV 23 177 rfl rfl kN rfl rfl ?_; (try simp only [List.getElem_toArray, List.getElem_cons_zero, List.getElem_cons_succ, Act.put, List.setIfInBounds_toArray, List.set_cons_zero, List.set_cons_succ]))
                | (go_at_call 15; refine (hS.out _).mono ?_; rintro e w ⟨rfl, hb⟩; replace hsr := hsr.next hb; replace hKr := hKr.below hb; clear hb)
                | (refine ldVG 23 (by rfl) rfl (hKr.get 4 rfl) rfl ?_; (try simp only [List.getElem_toArray, List.getElem_cons_zero, List.getElem_cons_succ, Act.put, List.setIfInBounds_toArray, List.set_cons_zero, List.set_cons_succ]))
                | (refine ldVG 11 (by rfl) rfl (hKr.get 1 rfl) rfl ?_; (try simp only [List.getElem_toArray, List.getElem_cons_zero, List.getElem_cons_succ, Act.put, List.setIfInBounds_toArray, List.set_cons_zero, List.set_cons_succ]))
                | (refine wpl_sameG (by rfl) (.tmp 181) (.tmp 182) _ rfl V rfl rfl ?_; (try simp only [List.getElem_toArray, List.getElem_cons_zero, List.getElem_cons_succ, Act.put, List.setIfInBounds_toArray, List.set_cons_zero, List.set_cons_succ])))
              go_ret
              exact ⟨rfl, hsr.below⟩
            · have g0 : (CM != 0) = true := by simp [hcm]
              clear hcm HX
              go_wp2_with (first
                | go_skip
                | (go_at_call 33; (first | (with_reducible refine HCM.out.mono ?_) | (with_reducible refine HCN.out.mono ?_)); rintro e w ⟨rfl, hb⟩; replace hsr := hsr.next hb; replace hKr := hKr.below hb; clear hb)
                | (go_at_call 15; refine (hS.out _).mono ?_; rintro e w ⟨rfl, hb⟩; replace hsr := hsr.next hb; replace hKr := hKr.below hb; clear hb))
              go_ret
              exact ⟨rfl, hsr.below⟩
      · have g0 : (ER != 0) = true := by simp [hER]
        clear hER H3 H4
        go_wp2_with (first
          | go_skip
          | (go_at_call 15; refine (hS.out _).mono ?_; rintro e w ⟨rfl, hb⟩; replace hsr := hsr.next hb; replace hKr := hKr.below hb; clear hb))
        go_ret
        exact ⟨rfl, hsr.below⟩
end Go.Proofs.YtbhiphjifdnhmaaGreatDoor
