import Derived.Test.YtbhiphjifdnhmaaGreatDoorE8a
set_option linter.unusedSimpArgs false
set_option linter.unusedVariables false
/- AboutNarrows, by the kind of the definition. -/
namespace Go.Proofs.YtbhiphjifdnhmaaGreatDoor
open Go.RowKit Go.Maps
set_option maxRecDepth 100000 in
set_option maxHeartbeats 64000000 in
theorem law8_2 (hS : Hid SanityIs) (A : Option Addr) (cap : Nat) (l : List Df) (T : Nat) (nar : Nat → Int) (n : ByteArray) (known : Int) (ev : Value) (V V2 : Nat → Int) (E E2 EC CC C2 : Int) (HH HB : Bool) (LC : List Int) (r : Nat) (y : Df) (w : World)
    (hT : T ≤ 255) (hl1 : 0 < l.length) (hl9 : l.length ≤ 9) (hn : n.size ≤ 40) (hLC : LC.length ≤ 1000000) (hr : r = T % l.length) (hy : l[r]? = some y) (hk : y.kind = 2)
    (HF : Hid (∀ W, Defs W W.heap.size A l → Calls Tryz.prog 32 #[.slice A l.length cap] W fun e w' => e = .returned (.bool true) ∧ W = w'))
    (HC : Hid (∀ W, Defs W W.heap.size A l → Calls Tryz.prog 33 #[.slice A l.length cap] W fun e w' => e = .returned (.int .i64 0) ∧ Below W.heap.size W w'))
    (H37 : Hid (∀ W, Defs W W.heap.size A l → ErrAt W ev → 0 < W.heap.size → Calls Tryz.prog 37 #[.slice A l.length cap, .string n] W (RetInE W LC EC)))
    (HEC : Hid (0 < LC.length → EC = 0)) (HCM : Hid (∀ (i : Nat) (c : Int), LC[i]? = some c → someTo l c l.length = true)) (HCR : Hid (∀ (i : Nat) (a b : Int), LC[i]? = some a → LC[i + 1]? = some b → a < b))
    (H24 : Hid (∀ W, Calls Tryz.prog 24 #[.agg (va nar), .agg (va y.days)] W fun e w' => e = .returned (.tuple #[.bool HH, .int .i64 CC]) ∧ Below W.heap.size W w'))
    (H34 : Hid (∀ W, Defs W W.heap.size A l → ErrAt W ev → 0 < W.heap.size → Calls Tryz.prog 34 #[.slice A l.length cap, .string n, .int .i64 known] W (RetV W V E)))
    (H34b : Hid (∀ A' c' W, l.length ≤ c' → c' ≤ maxLen → Defs W W.heap.size A' (l.set r { y with days := nar }) → ErrAt W ev → 0 < W.heap.size → Calls Tryz.prog 34 #[.slice A' l.length c', .string n, .int .i64 known] W (RetV W V2 E2)))
    (H24b : Hid (∀ W, Calls Tryz.prog 24 #[.agg (va V2), .agg (va V)] W fun e w' => e = .returned (.tuple #[.bool HB, .int .i64 C2]) ∧ Below W.heap.size W w'))
    (HE : Hid (HH = true → (∀ d ∈ l, ¬ d.kind = 3) → E = 0 → E2 = 0 ∧ C2 = 0 ∧ HB = true))
    (hD : Defs w w.heap.size A l) (hE : ErrAt w ev) (h0 : 0 < w.heap.size) :
    Calls Tryz.prog 8 #[.slice A l.length cap, .int .u8 (T : Int), .agg (va nar), .string n, .int .i64 known] w fun e w' => e = .returned (.bool true) ∧ Below w.heap.size w w' := by
  have hs := (St.begin hD hE h0).next (below_new w (.cells (va nar) 26))
  have kX := Blk.new w 26 (va nar)
  have hK : AllB (w.alloc (.cells (va nar) 26)) [(w.heap.size, 26, va nar)] := fun q hq => by
    simp only [List.mem_cons, List.not_mem_nil, or_false] at hq
    subst hq
    exact kX
  have e0 : ¬ (9 : Int) < (l.length : Int) := by omega
  have e1 : ¬ (40 : Int) < (n.size : Int) := by omega
  have e2 : ((l.length : Int) == 0) = false := beq_eq_false_iff_ne.2 (by omega)
  clear hD hE h0 kX
  go_enter Tryz.func8, Tryz.ntmps8
  go_upto_region 5 with (first
    | go_skip
    | (go_at_call 32; refine (HF.out _ hs.defs).mono ?_; rintro e w1 ⟨rfl, rfl⟩)
    | (go_at_call 33; refine (HC.out _ hs.defs).mono ?_; rintro e w2 ⟨rfl, hb⟩; replace hs := hs.next hb; replace hK := hK.below hb; clear hb)
    | (go_at_call 37; refine (H37.out _ hs.defs hs.err hs.pos).mono ?_; rintro e w4 ⟨A4, c4, rfl, ho, hb⟩; replace hs := hs.next hb; replace hK := hK.below hb; have hI := Ints.of_own ho; clear ho hb))
  clear HF HC H37 e0 e1
  go_wp2_with fail
  go_loopg [13] (LC.length) (fun g t13 wq => ∃ (k : Nat), k ≤ LC.length ∧ LC.length - k ≤ g ∧ t13 = .int .i64 k ∧ Below w4.heap.size w4 wq)
  case atStart => exact ⟨0, by omega, by omega, rfl, Below.refl _ _⟩
  case round =>
    obtain ⟨k, hk2, hg, rfl, hB⟩ := hrel
    by_cases hlt : k < LC.length
    · have hec := HEC.out (by omega)
      subst hec
      have hq : IntKind.i64.wrap ((k : Int) + 1) = (k : Int) + 1 := IntWalk.i64_in _ (by omega)
      have HQK := Lib.hid hq
      clear hq
      obtain ⟨ad, hAd, _, h1⟩ := hI.get hlt
      subst hAd
      obtain ⟨c, hc⟩ : ∃ c, c = LC[k] := ⟨_, rfl⟩
      have hcs : LC[k]? = some c := by rw [hc]; exact List.getElem?_eq_getElem hlt
      have HCELL := Lib.hid (show ∀ W, Below w4.heap.size w4 W → W.cell? (ad.add k) = some (.int .i64 c) from fun W hb => by
        obtain ⟨ad2, e, _, h2⟩ := (hI.below hb).get hlt
        injection e with e
        subst e
        rw [hc]
        exact h2)
      have HM := Lib.hid (HCM.out k c hcs)
      have HCS := Lib.hid hcs
      clear h1 hc hcs
      go_wp2_with fail
      go_loopg [15, 14] (l.length) (fun g t15 t14 wq => ∃ (j : Nat), j ≤ l.length ∧ l.length - j ≤ g ∧ t15 = .int .i64 j ∧ t14 = .bool (someTo l c j) ∧ Below w4.heap.size w4 wq)
      case atStart => exact ⟨0, by omega, by omega, rfl, rfl, hB⟩
      case round =>
        clear hB
        obtain ⟨j, hj, hgj, rfl, rfl, hB⟩ := hrel
        have h1 := HCELL.out _ hB
        by_cases hltj : j < l.length
        · obtain ⟨x, hx⟩ : ∃ x, l[j]? = some x := ⟨_, List.getElem?_eq_getElem hltj⟩
          have HS := Lib.hid (someTo_succ (d := c) hx)
          have hq : IntKind.i64.wrap ((j : Int) + 1) = (j : Int) + 1 := IntWalk.i64_in _ (by omega)
          have HQJ := Lib.hid hq
          clear hq
          obtain ⟨ag, ao, hA, hag, hcx⟩ := (hs.defs.behind hB) j x hx
          subst hA
          have x1 := hcx 1 (.int .i64 x.known) rfl
          clear hcx hx
          cases hso : someTo l c j
          · rw [hso, Bool.false_or] at HS
            by_cases hkn : x.known = c
            · have HN := Lib.hid (show someTo l c (j + 1) = true by rw [HS.out, decide_eq_true hkn])
              rw [hkn] at x1
              clear hso HS hkn
              go_wp2_with fail
              go_quiet (fail)
              all_goals
                go_wp2_with fail
                go_roundg (l.length - (j + 1))
                case measure => omega
                case rel => exact ⟨j + 1, by omega, by omega, by go_num, by rw [HN.out], by first | exact below_drewN hB _ | exact hB⟩
            · have HN := Lib.hid (show someTo l c (j + 1) = false by rw [HS.out, decide_eq_false hkn])
              have hkb : (x.known == c) = false := beq_eq_false_iff_ne.2 hkn
              clear hso HS
              go_wp2_with fail
              go_quiet (fail)
              all_goals
                go_wp2_with fail
                go_roundg (l.length - (j + 1))
                case measure => omega
                case rel => exact ⟨j + 1, by omega, by omega, by go_num, by rw [HN.out], by first | exact below_drewN hB _ | exact hB⟩
          · rw [hso, Bool.true_or] at HS
            clear hso
            go_wp2_with fail
            go_quiet (fail)
            all_goals
              go_wp2_with fail
              go_roundg (l.length - (j + 1))
              case measure => omega
              case rel => exact ⟨j + 1, by omega, by omega, by go_num, by rw [HS.out], by first | exact below_drewN hB _ | exact hB⟩
        · obtain rfl : j = l.length := by omega
          rw [HM.out]
          by_cases hk0 : k = 0
          · subst hk0
            go_wp2_with fail
            go_quiet (fail)
            all_goals
              go_wp2_with fail
              go_roundg (LC.length - (0 + 1))
              case measure => omega
              case rel => exact ⟨0 + 1, by omega, by omega, by go_num, by first | exact below_drewN hB _ | exact hB⟩
          · obtain ⟨m, hm⟩ : ∃ m, k = m + 1 := ⟨k - 1, by omega⟩
            have hmlt : m < LC.length := by omega
            obtain ⟨ad2, hA2, _, h2⟩ := (hI.below hB).get hmlt
            injection hA2 with hA2
            subst hA2
            obtain ⟨p, hp⟩ : ∃ p, p = LC[m] := ⟨_, rfl⟩
            have hlt2 : p < c := HCR.out m p c (by rw [hp]; exact List.getElem?_eq_getElem hmlt) (by rw [← hm]; exact HCS.out)
            rw [← hp] at h2
            have q8 : IntKind.i64.wrap ((k : Int) - 1) = (m : Int) := by rw [IntWalk.i64_in _ (by omega)]; omega
            have hkp : (0 : Int) < (k : Int) := by omega
            have hkN : 0 < k := by omega
            have hml2 : (m : Int) < (LC.length : Int) := by omega
            have hkl2 : (k : Int) < (LC.length : Int) := by omega
            have hdc : decide (c ≤ p) = false := decide_eq_false (by omega)
            have HMK := Lib.hid hm
            clear hp hm hk0 hmlt hlt2
            go_wp2_with fail
            go_quiet (fail)
            all_goals
              go_wp2_with fail
              go_roundg (LC.length - (k + 1))
              case measure => omega
              case rel => exact ⟨k + 1, by omega, by omega, by go_num, by first | exact below_drewN hB _ | exact hB⟩
    · obtain rfl : k = LC.length := by omega
      have q1 : IntKind.i64.wrap (T : Int) = (T : Int) := IntWalk.i64_in _ (by omega)
      have q2 : (T : Int).tmod (l.length : Int) = (r : Int) := by rw [hr, Int.tmod_eq_emod_of_nonneg (by omega), Int.natCast_emod]
      have hrl : r < l.length := by rw [hr]; exact Nat.mod_lt _ (by omega)
      have q4 : (l.length : Int) ≠ 0 := by omega
      have q5 : IntKind.i64.wrap (r : Int) = (r : Int) := IntWalk.i64_in _ (by omega)
      have hrli : (r : Int) < (l.length : Int) := by omega
      have hsr := hs.next hB
      have hKr := hK.below hB
      clear hs hK hI hB hk2 hg hlt HEC HCM HCR hr
      go_upto_region 15 with go_skip
      clear q1 q2 e2 q4 q5
      have hsd := hsr.next (show Below wr.heap.size wr wr.drew from (Below.refl _ _).drew)
      have hKd := hKr.below (show Below wr.heap.size wr wr.drew from (Below.refl _ _).drew)
      clear hsr hKr
      obtain ⟨ag, ao, hA, _, _⟩ := hsd.defs r y hy
      subst hA
      refine wp_region_held_drew (S := fun w' => Defs w' w'.heap.size (some ⟨ag, ao, none⟩) l ∧ AllB w' [(w.heap.size, 26, va nar)]) (by kernel_rfl) ⟨hsd.defs, hKd⟩ (fun hHeld => ?_)
      obtain ⟨WD, hWD⟩ : ∃ WD, WD = wr.drew := ⟨_, rfl⟩
      rw [← hWD] at hsd hKd ⊢
      clear hWD
      (refine wpAnyH_take (i := 0) (v := .agg (va nar)) rfl (by kernel_rfl) (by kernel_rfl) (by kernel_rfl) (fun _ _ _ h => h) (yieldsIf_load_row (by rfl) 26 _ rfl _ rfl 26 _ (0, 0) _ (fun w5 hS5 => AllB.get hS5.2 0 rfl) Tryz.underlying26 rfl (info26 _)) (⟨hsd.defs, hKd⟩) ?_; (try simp only [List.getElem_toArray, List.getElem_cons_zero, List.getElem_cons_succ, Act.put, List.setIfInBounds_toArray, List.set_cons_zero, List.set_cons_succ]))
      (refine wpAnyH_take (i := 1) (v := ?_) rfl (by kernel_rfl) (by kernel_rfl) (by kernel_rfl) (fun _ _ _ h => h) (Or.inl ⟨by rfl, ?_⟩) (⟨hsd.defs, hKd⟩) ?_; rotate_left; (· intro w5 hS5; (try dsimp only at hS5); go_simp <;> with_reducible rfl); (try simp only [List.getElem_toArray, List.getElem_cons_zero, List.getElem_cons_succ, Act.put, List.setIfInBounds_toArray, List.set_cons_zero, List.set_cons_succ]))
      (refine wpAnyH_take (i := 2) (v := ?_) rfl (by kernel_rfl) (by kernel_rfl) (by kernel_rfl) (fun _ _ _ h => h) (Or.inl ⟨by rfl, ?_⟩) (⟨hsd.defs, hKd⟩) ?_; rotate_left; (· intro w5 hS5; (try dsimp only at hS5); go_simp <;> with_reducible rfl); (try simp only [List.getElem_toArray, List.getElem_cons_zero, List.getElem_cons_succ, Act.put, List.setIfInBounds_toArray, List.set_cons_zero, List.set_cons_succ]))
      (refine wpAnyH_take (i := 3) (v := ?_) rfl (by kernel_rfl) (by kernel_rfl) (by kernel_rfl) (fun _ _ _ h => h) (Or.inl ⟨by rfl, ?_⟩) (⟨hsd.defs, hKd⟩) ?_; rotate_left; (· intro w5 hS5; (try dsimp only at hS5); go_simp <;> with_reducible rfl); (try simp only [List.getElem_toArray, List.getElem_cons_zero, List.getElem_cons_succ, Act.put, List.setIfInBounds_toArray, List.set_cons_zero, List.set_cons_succ]))
      (refine wpAnyH_take (i := 4) (v := ?_) rfl (by kernel_rfl) (by kernel_rfl) (by kernel_rfl) (fun _ _ _ h => h) (Or.inl ⟨by rfl, ?_⟩) (⟨hsd.defs, hKd⟩) ?_; rotate_left; (· intro w5 hS5; (try dsimp only at hS5); go_simp <;> with_reducible rfl); (try simp only [List.getElem_toArray, List.getElem_cons_zero, List.getElem_cons_succ, Act.put, List.setIfInBounds_toArray, List.set_cons_zero, List.set_cons_succ]))
      (refine wpAnyH_take (i := 5) (v := .agg (va y.days).toList.toArray) rfl (by kernel_rfl) (by kernel_rfl) (by kernel_rfl) (fun _ _ _ h => h) (yieldsIf_load_mid (by rfl) 26 _ rfl ag (ao + r * 29 + 5) rfl (va y.days).toList _ (fun w5 hS5 => mid_days (Defs.rowO hS5.1 hy)) Tryz.underlying26 rfl (days_lenV y.days)) (⟨hsd.defs, hKd⟩) ?_; (try simp only [List.getElem_toArray, List.getElem_cons_zero, List.getElem_cons_succ, Act.put, List.setIfInBounds_toArray, List.set_cons_zero, List.set_cons_succ]))
      simp only [Array.toArray_toList]
      (refine wpAnyH_ready (rs := [6]) (by kernel_rfl) (by simp) ?_; refine AllReadyH.cons rfl (fun K hK => ?_) AllReadyH.nil)
      go_simp
      (with_reducible refine (H24.out _).mono ?_)
      rintro e w5 ⟨rfl, hb5⟩
      replace hsd := hsd.next hb5
      replace hKd := hKd.below hb5
      clear hb5
      refine hK.out _ _ ⟨hsd.defs, hKd⟩ (fun hHeld => ?_)
      clear hK K
      (try simp only [List.getElem_toArray, List.getElem_cons_zero, List.getElem_cons_succ, Act.put, List.setIfInBounds_toArray, List.set_cons_zero, List.set_cons_succ])
      (refine wpAnyH_take (i := 7) (v := ?_) rfl (by kernel_rfl) (by kernel_rfl) (by kernel_rfl) (fun _ _ _ h => h) (Or.inl ⟨by rfl, ?_⟩) (⟨hsd.defs, hKd⟩) ?_; rotate_left; (· intro w5 hS5; (try dsimp only at hS5); go_simp <;> with_reducible rfl); (try simp only [List.getElem_toArray, List.getElem_cons_zero, List.getElem_cons_succ, Act.put, List.setIfInBounds_toArray, List.set_cons_zero, List.set_cons_succ]))
      (refine wpAnyH_take (i := 8) (v := ?_) rfl (by kernel_rfl) (by kernel_rfl) (by kernel_rfl) (fun _ _ _ h => h) (Or.inl ⟨by rfl, ?_⟩) (⟨hsd.defs, hKd⟩) ?_; rotate_left; (· intro w5 hS5; (try dsimp only at hS5); go_simp <;> with_reducible rfl); (try simp only [List.getElem_toArray, List.getElem_cons_zero, List.getElem_cons_succ, Act.put, List.setIfInBounds_toArray, List.set_cons_zero, List.set_cons_succ]))
      (refine wpAnyH_take (i := 9) (v := ?_) rfl (by kernel_rfl) (by kernel_rfl) (by kernel_rfl) (fun _ _ _ h => h) (Or.inl ⟨by rfl, ?_⟩) (⟨hsd.defs, hKd⟩) ?_; rotate_left; (· intro w5 hS5; (try dsimp only at hS5); go_simp <;> with_reducible rfl); (try simp only [List.getElem_toArray, List.getElem_cons_zero, List.getElem_cons_succ, Act.put, List.setIfInBounds_toArray, List.set_cons_zero, List.set_cons_succ]))
      (refine wpAnyH_take (i := 10) (v := ?_) rfl (by kernel_rfl) (by kernel_rfl) (by kernel_rfl) (fun _ _ _ h => h) (Or.inl ⟨by rfl, ?_⟩) (⟨hsd.defs, hKd⟩) ?_; rotate_left; (· intro w5 hS5; (try dsimp only at hS5); go_simp <;> with_reducible rfl); (try simp only [List.getElem_toArray, List.getElem_cons_zero, List.getElem_cons_succ, Act.put, List.setIfInBounds_toArray, List.set_cons_zero, List.set_cons_succ]))
      (refine wpAnyH_take (i := 11) (v := ?_) rfl (by kernel_rfl) (by kernel_rfl) (by kernel_rfl) (fun _ _ _ h => h) (Or.inl ⟨by rfl, ?_⟩) (⟨hsd.defs, hKd⟩) ?_; rotate_left; (· intro w5 hS5; (try dsimp only at hS5); go_simp <;> with_reducible rfl); (try simp only [List.getElem_toArray, List.getElem_cons_zero, List.getElem_cons_succ, Act.put, List.setIfInBounds_toArray, List.set_cons_zero, List.set_cons_succ]))
      refine wpAnyH_done (by kernel_rfl) ?_ _
      clear hHeld
      obtain ⟨ag', ao', hA, _, hcy⟩ := hsd.defs r y hy
      injection hA with hA
      injection hA with hA1 hA2 _
      subst hA1 hA2
      have y2 := hcy 2 (.int .i64 y.kind) rfl
      clear hcy
      rw [hk] at y2
      by_cases hcc : CC = 0
      · subst hcc
        cases HH with
        | false =>
          go_wp2_with (first
            | go_skip
            | (go_at_call 15; refine (hS.out _).mono ?_; rintro e w6 ⟨rfl, hb⟩; replace hsd := hsd.next hb; clear hb))
          go_ret
          exact ⟨rfl, hsd.below⟩
        | true =>
          go_upto_region 18 with (first
            | go_skip)
          go_wp2_with fail
          clear y2
          go_loopg [19] (l.length) (fun g t19 wq => ∃ (j : Nat), j ≤ l.length ∧ l.length - j ≤ g ∧ t19 = .int .i64 j ∧ Hid (∀ (i : Nat) (d : Df), i < j → l[i]? = some d → ¬ d.kind = 3) ∧ w5 = wq)
          case atStart => exact ⟨0, by omega, by omega, rfl, Lib.hid (fun i d h => absurd h (by omega)), rfl⟩
          case round =>
            obtain ⟨j, hj, hgj, rfl, H3, rfl⟩ := hrel
            by_cases hltj : j < l.length
            · obtain ⟨x, hx⟩ : ∃ x, l[j]? = some x := ⟨_, List.getElem?_eq_getElem hltj⟩
              have hq : IntKind.i64.wrap ((j : Int) + 1) = (j : Int) + 1 := IntWalk.i64_in _ (by omega)
              obtain ⟨ag2, ao2, hA, _, hcx⟩ := hsd.defs j x hx
              injection hA with hA
              injection hA with hA1 hA2 _
              subst hA1 hA2
              have x2 := hcx 2 (.int .i64 x.kind) rfl
              clear hcx
              by_cases hk3 : x.kind = 3
              · rw [hk3] at x2
                clear hk3 hx
                go_wp2_with (first
                  | go_skip
                  | (go_at_call 15; refine (hS.out _).mono ?_; rintro e w6 ⟨rfl, hb⟩; replace hsd := hsd.next hb; clear hb))
                go_ret
                exact ⟨rfl, hsd.below⟩
              · have f3 : (x.kind == 3) = false := beq_eq_false_iff_ne.2 hk3
                have H3' := Lib.hid (show ∀ (i : Nat) (d : Df), i < j + 1 → l[i]? = some d → ¬ d.kind = 3 from fun i d hi hd => by
                  by_cases hij : i = j
                  · subst hij
                    rw [hx] at hd
                    rw [← Option.some.inj hd]
                    exact hk3
                  · exact H3.out i d (by omega) hd)
                clear hk3 hx H3
                go_wp2_with fail
                go_roundg (l.length - (j + 1))
                case measure => omega
                case rel => exact ⟨j + 1, by omega, by omega, by go_num, H3', rfl⟩
            · obtain rfl : j = l.length := by omega
              have HN := Lib.hid (show ∀ d ∈ l, ¬ d.kind = 3 from fun d hd => by
                obtain ⟨i, hi⟩ := List.getElem?_of_mem hd
                exact H3.out i d (List.getElem?_eq_some_iff.1 hi).1 hi)
              have HX := Lib.hid (HE.out (by first | trivial | rfl) HN.out)
              clear H3 HN HE hj hgj hltj
              go_upto_region 25 with (first
                | go_skip
                | (refine wpl_bld0O rfl rfl w5.heap.size (Nat.le_refl _) ?_; intro w6 ho6 hb6 hz6)
                | (refine wpl_appDs rfl (.tmp 155) (.tmp 156) rfl ho6 l (hsd.next hb6).defs rfl rfl hl1 (by omega) hb6.size ?_; intro g7 c7 w7 ho7 hb7; have hB7 := hb6.trans hb7; have hK7 := hKd.below hB7)
                | (refine ldV 7 rfl rfl (hK7.get 0 rfl) rfl ?_)
                | (refine wpl_stDays 162 160 rfl rfl ho7 hy nar rfl rfl ?_))
              have hB8 := below_setCells (ho7.lt rfl).1 (va nar).toList (r * 29 + 5) _ hB7
              have hs8 := hsd.next hB8
              have hK8 := hKd.below hB8
              have d8 := set_defs ho7 hy nar
              obtain ⟨p7, p8⟩ := ho7.caps
              obtain ⟨w8, hw8⟩ : ∃ w8, w8 = w7.setCells g7 (r * 29 + 5) (va nar).toList := ⟨_, rfl⟩
              rw [← hw8] at hs8 hK8 d8 ⊢
              clear hw8 hB8 ho7 hB7 hK7 hb7 hb6 ho6 hz6 hsd hKd
              by_cases hE0 : E = 0
              · subst hE0
                obtain ⟨rfl, rfl, rfl⟩ := HX.out rfl
                go_wp2_with (first
                  | go_skip
                  | (go_at_call 34; (with_reducible refine (H34.out _ hs8.defs hs8.err hs8.pos).mono ?_); rintro e w9 ⟨rfl, hb⟩; have hT2 := below26 w9 V; replace hs8 := (hs8.next hb).next hT2; replace hK8 := (hK8.below hb).push hT2 (new26 w9 V); replace d8 := (d8.behind hb).behind hT2; clear hb hT2; have kN := new26z w9)
                  | (go_at_call 34; (with_reducible refine (H34b.out _ c7 _ p7 p8 d8 hs8.err hs8.pos).mono ?_); rintro e w10 ⟨rfl, hb⟩; have hT2 := below26 w10 V2; replace hs8 := (hs8.next hb).next hT2; replace hK8 := (hK8.below hb).push hT2 (new26 w10 V2); clear hb hT2; have kM := new26z w10)
                  | (refine stV 21 168 rfl rfl kN rfl rfl ?_)
                  | (refine stV 23 175 rfl rfl kM rfl rfl ?_)
                  | (refine ldV 23 rfl rfl (hK8.get 2 rfl) rfl ?_)
                  | (refine ldV 21 rfl rfl (hK8.get 1 rfl) rfl ?_)
                  | (go_at_call 24; (with_reducible refine (H24b.out _).mono ?_); rintro e w12 ⟨rfl, hb⟩; replace hs8 := hs8.next hb; clear hb)
                  | (go_at_call 15; refine (hS.out _).mono ?_; rintro e w11 ⟨rfl, hb⟩; replace hs8 := hs8.next hb; clear hb))
                go_ret
                exact ⟨rfl, hs8.below⟩
              · have g0 : (E != 0) = true := by simp [hE0]
                clear hE0 HX
                go_wp2_with (first
                  | go_skip
                  | (go_at_call 34; (with_reducible refine (H34.out _ hs8.defs hs8.err hs8.pos).mono ?_); rintro e w9 ⟨rfl, hb⟩; have hT2 := below26 w9 V; replace hs8 := (hs8.next hb).next hT2; replace hK8 := (hK8.below hb).push hT2 (new26 w9 V); replace d8 := (d8.behind hb).behind hT2; clear hb hT2; have kN := new26z w9)
                  | (go_at_call 34; (with_reducible refine (H34b.out _ c7 _ p7 p8 d8 hs8.err hs8.pos).mono ?_); rintro e w10 ⟨rfl, hb⟩; have hT2 := below26 w10 V2; replace hs8 := (hs8.next hb).next hT2; replace hK8 := (hK8.below hb).push hT2 (new26 w10 V2); clear hb hT2; have kM := new26z w10)
                  | (refine stV 21 168 rfl rfl kN rfl rfl ?_)
                  | (refine stV 23 175 rfl rfl kM rfl rfl ?_)
                  | (go_at_call 15; refine (hS.out _).mono ?_; rintro e w11 ⟨rfl, hb⟩; replace hs8 := hs8.next hb; clear hb))
                go_ret
                exact ⟨rfl, hs8.below⟩
      · have g0 : (CC != 0) = true := by simp [hcc]
        clear hcc
        go_wp2_with (first
          | go_skip
          | (go_at_call 15; refine (hS.out _).mono ?_; rintro e w6 ⟨rfl, hb⟩; replace hsd := hsd.next hb; clear hb))
        go_ret
        exact ⟨rfl, hsd.below⟩
end Go.Proofs.YtbhiphjifdnhmaaGreatDoor
