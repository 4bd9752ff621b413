import Derived.Test.YteoemmgelalcaaaGreatA
set_option autoImplicit false
set_option maxRecDepth 100000
set_option linter.unusedSimpArgs false
set_option linter.unusedVariables false
namespace Go.Proofs.YteoemmgelalcaaaGreat
open Go.Proofs.YteoemmgelalcaaaGreat.Ev
theorem snap_agg2 {st : St} {d : Nat} {v w : Value} {n : Int} (h : snapV false st (d + 1) v = some w) : snapV false st (d + 2) (.agg ⟨[I64 n, v]⟩) = some (.agg ⟨[I64 n, w]⟩) := by
  show osel (mapO (snapV false st (d + 1)) [I64 n, v]) none (fun cs' => some (Value.agg ⟨cs'⟩)) = _
  simp -implicitDefEqProofs only [mapO, h]; rfl
theorem snap_res {st : St} {v w : Value} {n e : Int} (h : snapV false st 6 v = some w) : snapV false st snapD (.tuple ⟨[.agg ⟨[I64 n, v]⟩, I64 e]⟩) = some (.tuple ⟨[.agg ⟨[I64 n, w]⟩, I64 e]⟩) := by
  have h1 : snapV false st 7 (.agg ⟨[I64 n, v]⟩) = some (.agg ⟨[I64 n, w]⟩) := snap_agg2 h
  show osel (mapO (snapV false st 7) [.agg ⟨[I64 n, v]⟩, I64 e]) none (fun cs' => some (Value.tuple ⟨cs'⟩)) = _
  simp -implicitDefEqProofs only [mapO, h1]; rfl
def allG (n : Int) (gs : List (List Int)) : Bool := (List.range gs.length).all fun j => okP n (gs.getD j [])
def cutE (x : List Bool) (gs : List (List Int)) : Int := if isF 1 x.length 48 = false then 1 else if (60 : Int) < gs.length then 2 else if allG x.length gs = false then 1 else 0
noncomputable def cutS (x : List Bool) (gs : List (List Int)) : Value := if cutE x gs = 0 then encS x.length gs.length (cells x gs gs.length) else encS 0 0 []
theorem b2 (z : List Value) : buildA (.str [(.int .i64 (0)), (.slice none 0 0)] [(0, 1), (1, 1)]) [] = some (.agg ⟨[(.int .i64 (0)), (.slice none 0 0)]⟩) := rfl
theorem p5 (x : List Bool) (gs : List (List Int)) (hx : x.length ≤ 60) (hg : gs.length ≤ 1000) (hl : ∀ j, (gs.getD j []).length ≤ 1000) : PurOk Tryz.prog 5 [encB x, encG gs] (.tuple ⟨[cutS x gs, I64 (cutE x gs)]⟩) := by
  refine pur_wp (cs := [c22, c23, c24, c25, c26, c27]) (isP := isP) (keep := false) mixed ?_
  have K22 := @k22 [c22, c23, c24, c25, c26, c27] rfl
  have K23 := @k23 [c22, c23, c24, c25, c26, c27] rfl x (by omega)
  have K24 := @k24 [c22, c23, c24, c25, c26, c27] rfl
  have K25 := @k25 [c22, c23, c24, c25, c26, c27] rfl
  have K26 := @k26 [c22, c23, c24, c25, c26, c27] rfl
  have K27 := @k27 [c22, c23, c24, c25, c26, c27] rfl
  have ht : ∀ (nm : Nat) (st : St) (cs : List Value), cs.length = 2 → ∀ a b : Value, st.obj nm = rowOf [a, b] 0 true → storeN (.agg 2) (ptr nm 0) (.agg ⟨cs⟩) st = .ok junk (st.setObj nm (rowOf cs 0 true)) := fun nm st cs hc a b h => by
    have := storeN_agg (cs := cs) h (off := 0) (k := 2) hc (by simp)
    simpa using this
  have hce : ∀ (st : St) (a b : Value), st.obj 0 = rowOf [a, b] 0 true → cellR (.agg 2) (ptr 0 0) st = some (.agg ⟨[a, b]⟩) := fun st a b h => cellR_row h rfl
  have hbad : ∀ (st : St) (e : Int) (a b : Value), st.obj 0 = rowOf [a, b] 0 true → cutS x gs = encS 0 0 [] → cutE x gs = e →
      bindP (storeN (.agg 2) (ptr 0 0) (.agg ⟨[(.int .i64 (0)), (.slice none 0 0)]⟩) st) (fun t9 s10 => bindP (resE [(cellR (.agg 2) (ptr 0 0) s10), (some (.int .i64 e))] s10) fun v st => snapV false st snapD v = some (.tuple ⟨[cutS x gs, I64 (cutE x gs)]⟩)) := fun st e a b h h1 h2 => by
    rw [ht 0 st _ rfl a b h, bindP_run, hce _ (.int .i64 0) (.slice none 0 0) (by simp [set_obj]), resE_2, bindP_run, h1, h2]
    exact snap_res rfl
  rw [e5]
  simp -implicitDefEqProofs only [boxK_eq, bindP_run, len_B, len_G, reO_some, K22, bindO_some, un_not]
  cases hF : isF 1 x.length 48 with
  | false =>
    simp -implicitDefEqProofs only [Bool.not_false, condP_true, b2 [], reO_some, bindP_run, S0_next]
    exact hbad _ 1 _ _ (by simp [push_obj]; rfl) (by simp [cutS, cutE, hF]) (by simp [cutE, hF])
  | true =>
    simp -implicitDefEqProofs only [Bool.not_true, condP_false, bin_gtr, reO_some, bindP_run]
    by_cases hG : (60 : Int) < gs.length
    · simp -implicitDefEqProofs only [hG, decide_true, condP_true, b2 [], reO_some, bindP_run, S0_next]
      exact hbad _ 2 _ _ (by simp [push_obj]; rfl) (by simp [cutS, cutE, hF, hG]) (by simp [cutE, hF, hG])
    · simp -implicitDefEqProofs only [hG, decide_false, condP_false, reO_some, bindP_run]
      have hxx : 1 ≤ x.length ∧ x.length ≤ 48 := by simp [isF] at hF; omega
      have hb1 : buildA (.str [(.int .i64 (0)), (.slice none 0 0)] [(0, 1), (1, 1)]) [(0, I64 x.length)] = some (.agg ⟨[I64 x.length, .slice none 0 0]⟩) := rfl
      simp -implicitDefEqProofs only [hb1, reO_some, bindP_run, K23, bindO_some, push_next, S0_next]
      rw [show (0 : Nat) + 1 = 1 from rfl, ht 1 _ _ rfl (.int .i64 0) (.slice none 0 0) (by simp [push_obj])]
      simp -implicitDefEqProofs only [bindP_run]
      refine loop_rule (isP := isP) (fun m a st => ∃ (i : Nat) (t : Regs) (v a0 b0 : Value), a = ⟨57, t, []⟩ ∧ 2 ≤ st.next ∧ st.obj 0 = rowOf [a0, b0] 0 true ∧ st.obj 1 = rowOf [I64 x.length, v] 0 true ∧ At st i (cells x gs i) v ∧
        gt t 4 = ptr 0 0 ∧ gt t 5 = I64 0 ∧ gt t 6 = ptr 1 0 ∧ gt t 7 = U64 (mk x x.length) ∧ gt t 25 = encG gs ∧ gt t 26 = I64 gs.length ∧ gt t 27 = I64 i ∧
        i ≤ gs.length ∧ m = gs.length - i ∧ (List.range i).all (fun j => okP x.length (gs.getD j [])) = true) ?_ gs.length _ _
        ⟨0, _, .slice none 0 0, _, _, rfl, by simp, by simp [set_obj, push_obj]; rfl, by simp [set_obj], .inl ⟨rfl, rfl⟩, by simp, by simp, by simp, by simp, by simp, by simp, by simp, by simp, by simp, by simp⟩
      rintro m a st ⟨i, t, v, a0, b0, rfl, hn, o0, o1, hat, g4, g5, g6, g7, g25, g26, g27, hi, rfl, hall⟩
      rw [e5_b0, g4, g6, g7, g25, g26, g27]
      by_cases hlt : i < gs.length
      · have hw : IntKind.i64.wrap ((i : Int) + 1) = (i : Int) + 1 := wrap64 (by omega)
        have hi2 : (i : Int) < gs.length := by omega
        have hgd : gs.getD i [] = gs[i] := by simp [List.getD, hlt]
        have hlen := hl i
        rw [hgd] at hlen
        simp -implicitDefEqProofs only [bin_lss, reO_some, bindP_run, idxK_sl, idx_G, hlt, if_true, ld_G, List.getElem?_eq_getElem hlt, Option.map_some, condP_true, hi2, decide_true, movP_ptr, Nat.zero_add, loadA_ptr, o1, ldO_one, List.getElem?_cons_zero, K24 gs[i] x.length (by omega) hlen, bindO_some, un_not]
        cases hok : okP x.length gs[i] with
        | false =>
          have hE : allG x.length gs = false := all_range_false hlt (by rw [hgd]; exact hok)
          simp -implicitDefEqProofs only [Bool.not_false, condP_true, b2 [], reO_some, bindP_run]
          rw [ht 0 st _ rfl a0 b0 o0, bindP_run]
          simp [o5, g4]
          rw [hce _ (.int .i64 0) (.slice none 0 0) (by simp [set_obj]), resE_2, bindP_run, show cutS x gs = encS 0 0 [] by simp [cutS, cutE, hF, hG, hE], show cutE x gs = 1 by simp [cutE, hF, hG, hE]]
          exact snap_res rfl
        | true =>
          simp -implicitDefEqProofs only [Bool.not_true, condP_false, bin_add, hw, reO_some, bindP_run, K25 _ hlen, bindO_some]
          have hb3 : buildA (.str [(.int .i64 (0)), (.slice none 0 0), (.bool false)] [(0, 1), (1, 1), (2, 1)]) [(0, .int .i64 ((i : Int) + 1)), (1, encI gs[i])] = some (.agg ⟨encN ((i : Int) + 1) gs[i] false⟩) := rfl
          have hld : ∀ (nm : Nat) (S : St) (a : Int) (b : Bool), S.obj nm = rowOf (encN a gs[i] b) 0 true → loadA (.agg 3) (ptr nm 0) S = .ok (.agg ⟨encN a gs[i] b⟩) S := fun nm S a b h => by
            rw [loadA_ptr, h, ldO_agg]; rfl
          have hbs : ∀ (S : St) (b : Bool), buildSliceA (.mk 3 [(.int .i64 (0)), (.slice none 0 0), (.bool false)] true) 1 [(0, .agg ⟨encN ((i : Int) + 1) gs[i] b⟩)] S = .ok (.slice (some ⟨S.next, 0, none⟩) 1 1) (S.push (rowOf (encN ((i : Int) + 1) gs[i] b) 3 true)) := fun S b => by
            show allK (rowOf (encN ((i : Int) + 1) gs[i] b) 3 true) (fun nm => Value.slice (some ⟨nm, 0, none⟩) 1 1) S = _
            rw [allK_eq]
          have hfit := okP_fit hok (by omega)
          have hodd := fit_odd hok hxx.2
          simp -implicitDefEqProofs only [hb3, reO_some, bindP_run, boxK_eq]
          rw [storeN_agg (k := 3) (off := 0) (nm := st.next) (xs := [(.int .i64 (0)), (.slice none 0 0), (.bool false)]) (es := 0) (ex := true) (by simp [push_obj]) rfl (by simp), bindP_run]
          have e1 : List.take 0 [Value.int .i64 0, Value.slice none 0 0, Value.bool false] ++ encN ((i : Int) + 1) gs[i] false ++ List.drop (0 + 3) [Value.int .i64 0, Value.slice none 0 0, Value.bool false] = encN ((i : Int) + 1) gs[i] false := by simp
          rw [e1, hld st.next _ ((i : Int) + 1) false (by simp [set_obj]), bindP_run, K26 ((i : Int) + 1) gs[i] false hfit hlen, bindO_some, K27 (pm gs[i] gs[i].length) (ob false) 0 (mk x x.length) (pm_lt _ hfit _ (Nat.le_refl _)) (by simp [ob]) (mk_lt x _ (by omega)), bindO_some]
          have e2 : decide (cnt (mk x x.length &&& pm gs[i] gs[i].length) 64 % 2 = ob false) = !par gs[i] x gs[i].length := hodd
          rw [e2]
          simp -implicitDefEqProofs only [un_not, Bool.not_not, reO_some, bindP_run, movP_ptr, Nat.zero_add]
          rw [storeN_one (nm := st.next) (off := 2) (xs := encN ((i : Int) + 1) gs[i] false) (es := 0) (ex := true) (by simp [set_obj]) (by simp [encN]) rfl, bindP_run]
          have e3 : (encN ((i : Int) + 1) gs[i] false).set 2 (.bool (par gs[i] x gs[i].length)) = encN ((i : Int) + 1) gs[i] (par gs[i] x gs[i].length) := rfl
          rw [e3]
          obtain ⟨S2, hS2⟩ : ∃ S2, ((st.push (rowOf [(.int .i64 (0)), (.slice none 0 0), (.bool false)] 0 true)).setObj st.next (rowOf (encN ((i : Int) + 1) gs[i] false) 0 true)).setObj st.next (rowOf (encN ((i : Int) + 1) gs[i] (par gs[i] x gs[i].length)) 0 true) = S2 := ⟨_, rfl⟩
          rw [hS2]
          have n2 : S2.next = st.next + 1 := by rw [← hS2]; simp
          have q2 : ∀ b, b ≠ st.next → S2.obj b = st.obj b := fun b hb => by rw [← hS2]; simp [set_obj, push_obj, hb]
          have qn : S2.obj st.next = rowOf (encN ((i : Int) + 1) gs[i] (par gs[i] x gs[i].length)) 0 true := by rw [← hS2]; simp [set_obj]
          clear hS2
          have hat2 : At S2 i (cells x gs i) v := by
            rcases hat with h | ⟨h0, nm, ex, h1, h2, h3, h4⟩
            · exact .inl h
            · exact .inr ⟨h0, nm, ex, h1, by omega, h3, by rw [q2 nm (by omega)]; exact h4⟩
          obtain ⟨S3, hap, n3, r3, q3⟩ := append_note hat2 (cells_len x gs i) (c := encN ((i : Int) + 1) gs[i] (par gs[i] x gs[i].length)) rfl (by omega)
          have o12 : S2.obj 1 = rowOf [I64 x.length, v] 0 true := by rw [q2 1 (by omega)]; exact o1
          have o13 : S3.obj 1 = rowOf [I64 x.length, v] 0 true := by rw [q3 1 (by omega) (by omega)]; exact o12
          have o03 : S3.obj 0 = rowOf [a0, b0] 0 true := by rw [q3 0 (by omega) (by omega), q2 0 (by omega)]; exact o0
          have hv1 : ldO .one 1 (S2.obj 1) S2 = .ok v S2 := by rw [o12, ldO_one]; rfl
          rw [hv1, bindP_run, hld st.next S2 _ _ qn, bindP_run, hbs, bindP_run, hap, bindP_run]
          rw [storeN_one (nm := 1) (off := 1) o13 (by simp) rfl, bindP_run]
          have ec : cells x gs (i + 1) = cells x gs i ++ encN ((i : Int) + 1) gs[i] (par gs[i] x gs[i].length) := by rw [cells, hgd]
          refine ⟨gs.length - (i + 1), by omega, i + 1, _, _, a0, b0, rfl, by rw [set_next, n3]; omega, by rw [set_obj]; simpa using o03, by rw [set_obj]; simp; rfl, ?_, ?_, ?_, ?_, ?_, ?_, ?_, ?_, by omega, rfl, all_range_succ hall (by rw [hgd]; exact hok)⟩
          · refine .inr ⟨by omega, S2.next + 1, false, by omega, by rw [set_next, n3]; omega, rfl, ?_⟩
            rw [set_obj, if_neg (by omega), r3, ec]
          all_goals simp [g4, g5, g6, g7, g25, g26]
      · have hi2 : ¬ (i : Int) < gs.length := by omega
        obtain rfl : i = gs.length := by omega
        have hE : cutE x gs = 0 := by simp [cutE, hF, hG, allG]; simpa using hall
        simp -implicitDefEqProofs only [bin_lss, hi2, reO_some, bindP_run, condP_false, decide_false, blockK_exit, if_true, seqK_normal, e5_r0, fs_cons, fs_nil]
        rw [show gt ((regAt 28).s (Value.bool false) t) 6 = ptr 1 0 by simp [g6], show gt ((regAt 28).s (Value.bool false) t) 4 = ptr 0 0 by simp [g4], loadA_ptr, o1]
        have e1 : ldO (.agg 2) 0 (rowOf [I64 x.length, v] 0 true) st = .ok (.agg ⟨[I64 x.length, v]⟩) st := by rw [ldO_agg]; rfl
        rw [e1, bindP_run, ht 0 st _ rfl a0 b0 o0, bindP_run]
        simp [o5, g4]
        rw [hce _ (I64 x.length) v (by simp [set_obj]), resE_2, bindP_run, show cutS x gs = encS x.length gs.length (cells x gs gs.length) by simp [cutS, hE], hE]
        refine snap_res (snap_notes (d := 5) ?_ (by omega))
        rcases hat with h | ⟨h0, nm, ex, h1, h2, h3, h4⟩
        · exact .inl h
        · exact .inr ⟨h0, nm, ex, h1, by simpa using h2, h3, by rw [set_obj, if_neg (by omega)]; exact h4⟩
end Go.Proofs.YteoemmgelalcaaaGreat

set_option autoImplicit false
set_option maxRecDepth 100000
set_option linter.unusedSimpArgs false
set_option linter.unusedVariables false
namespace Go.Proofs.YteoemmgelalcaaaGreat
open Go.Proofs.YteoemmgelalcaaaGreat.Ev
theorem snap_agg3 {st : St} {d : Nat} {v w : Value} {n e : Int} (h : snapV false st (d + 1) v = some w) : snapV false st (d + 2) (.agg ⟨[I64 n, v, I64 e]⟩) = some (.agg ⟨[I64 n, w, I64 e]⟩) := by
  show osel (mapO (snapV false st (d + 1)) [I64 n, v, I64 e]) none (fun cs' => some (Value.agg ⟨cs'⟩)) = _
  simp -implicitDefEqProofs only [mapO, h]; rfl
theorem snap_r3 {st : St} {v w : Value} {n e : Int} (h : snapV false st 7 v = some w) : snapV false st snapD (.agg ⟨[I64 n, v, I64 e]⟩) = some (.agg ⟨[I64 n, w, I64 e]⟩) := by
  show osel (mapO (snapV false st 7) [I64 n, v, I64 e]) none (fun cs' => some (Value.agg ⟨cs'⟩)) = _
  simp -implicitDefEqProofs only [mapO, h]; rfl
theorem snap_nil7 (st : St) : snapV false st 7 (.slice none 0 0) = some (fsl 0 []) := rfl
noncomputable def cutR (x : List Bool) (gs : List (List Int)) : Value := if cutE x gs = 0 then .agg ⟨[I64 x.length, fsl gs.length (cells x gs gs.length), I64 0]⟩ else .agg ⟨[I64 0, fsl 0 [], I64 (cutE x gs)]⟩
theorem p6 (x : List Bool) (gs : List (List Int)) (hx : x.length ≤ 60) (hg : gs.length ≤ 1000) (hl : ∀ j, (gs.getD j []).length ≤ 1000) : PurOk Tryz.prog 6 [encB x, encG gs] (cutR x gs) := by
  refine pur_wp (cs := [c28, c29, c30]) (isP := isP) (keep := false) mixed ?_
  have K28 := @k28 [c28, c29, c30] rfl
  have K29 := @k29 [c28, c29, c30] rfl
  have K30 := @k30 [c28, c29, c30] rfl
  have ht : ∀ (nm k : Nat) (st : St) (xs cs : List Value), cs.length = k → xs.length = k → st.obj nm = rowOf xs 0 true → storeN (.agg k) (ptr nm 0) (.agg ⟨cs⟩) st = .ok junk (st.setObj nm (rowOf cs 0 true)) := fun nm k st xs cs hc hx h => by
    have := storeN_agg (cs := cs) h (off := 0) (k := k) hc (by omega)
    rw [List.drop_eq_nil_of_le (by omega)] at this
    simpa using this
  have hce : ∀ (st : St) (a b c : Value), st.obj 0 = rowOf [a, b, c] 0 true → cellR (.agg 3) (ptr 0 0) st = some (.agg ⟨[a, b, c]⟩) := fun st a b c h => cellR_row h rfl
  have hbad : ∀ (st : St) (e : Int) (a b c : Value), st.obj 0 = rowOf [a, b, c] 0 true → cutE x gs = e → e ≠ 0 →
      bindP (storeN (.agg 3) (ptr 0 0) (.agg ⟨[(.int .i64 (0)), (.slice none 0 0), I64 e]⟩) st) (fun t9 s10 => bindP (resE [(cellR (.agg 3) (ptr 0 0) s10)] s10) fun v st => snapV false st snapD v = some (cutR x gs)) := fun st e a b c h h1 h2 => by
    rw [ht 0 3 st _ _ rfl rfl h, bindP_run, hce _ (.int .i64 0) (.slice none 0 0) (I64 e) (by simp [set_obj]), resE_1, bindP_run, cutR, h1, if_neg h2]
    exact snap_r3 (snap_nil7 _)
  rw [e6]
  simp -implicitDefEqProofs only [boxK_eq, bindP_run, len_B, len_G, reO_some, K28, bindO_some, un_not]
  have br : ∀ e : Int, buildA (.str [(.int .i64 (0)), (.slice none 0 0), (.int .i64 (0))] [(0, 2), (2, 1)]) [(1, .int .i64 e)] = some (.agg ⟨[(.int .i64 (0)), (.slice none 0 0), I64 e]⟩) := fun e => rfl
  cases hF : isF 1 x.length 48 with
  | false =>
    simp -implicitDefEqProofs only [Bool.not_false, condP_true, br, reO_some, bindP_run, S0_next]
    exact hbad _ 1 _ _ _ (by simp [push_obj]; rfl) (by simp [cutE, hF]) (by omega)
  | true =>
    simp -implicitDefEqProofs only [Bool.not_true, condP_false, bin_gtr, reO_some, bindP_run]
    by_cases hG : (60 : Int) < gs.length
    · simp -implicitDefEqProofs only [hG, decide_true, condP_true, br, reO_some, bindP_run, S0_next]
      exact hbad _ 2 _ _ _ (by simp [push_obj]; rfl) (by simp [cutE, hF, hG]) (by omega)
    · simp -implicitDefEqProofs only [hG, decide_false, condP_false, reO_some, bindP_run]
      have hxx : 1 ≤ x.length ∧ x.length ≤ 48 := by simp [isF] at hF; omega
      have hb1 : buildA (.str [(.int .i64 (0)), (.slice none 0 0)] [(0, 1), (1, 1)]) [(0, I64 x.length)] = some (.agg ⟨[I64 x.length, .slice none 0 0]⟩) := rfl
      simp -implicitDefEqProofs only [hb1, reO_some, bindP_run, push_next, S0_next]
      rw [show (0 : Nat) + 1 = 1 from rfl, ht 1 2 _ [(.int .i64 0), (.slice none 0 0)] _ rfl rfl (by simp [push_obj])]
      simp -implicitDefEqProofs only [bindP_run]
      refine loop_rule (isP := isP) (fun m a st => ∃ (i : Nat) (t : Regs) (v a0 b0 c0 : Value), a = ⟨55, t, []⟩ ∧ 2 ≤ st.next ∧ st.obj 0 = rowOf [a0, b0, c0] 0 true ∧ st.obj 1 = rowOf [I64 x.length, v] 0 true ∧ At st i (cells x gs i) v ∧
        gt t 0 = encB x ∧ gt t 1 = encG gs ∧ gt t 4 = ptr 0 0 ∧ gt t 5 = ptr 1 0 ∧ gt t 6 = I64 i ∧
        i ≤ gs.length ∧ m = gs.length - i ∧ (List.range i).all (fun j => okP x.length (gs.getD j [])) = true) ?_ gs.length _ _
        ⟨0, _, .slice none 0 0, _, _, _, rfl, by simp, by simp [set_obj, push_obj]; rfl, by simp [set_obj], .inl ⟨rfl, rfl⟩, by simp, by simp, by simp, by simp, by simp, by simp, by simp, by simp⟩
      rintro m a st ⟨i, t, v, a0, b0, c0, rfl, hn, o0, o1, hat, g0, g1, g4, g5, g6, hi, rfl, hall⟩
      rw [e6_b0, g0, g1, g4, g5, g6]
      by_cases hlt : i < gs.length
      · have hw : IntKind.i64.wrap ((i : Int) + 1) = (i : Int) + 1 := wrap64 (by omega)
        have hi2 : (i : Int) < gs.length := by omega
        have hgd : gs.getD i [] = gs[i] := by simp [List.getD, hlt]
        have hlen := hl i
        rw [hgd] at hlen
        simp -implicitDefEqProofs only [len_G, reO_some, bindP_run, bin_lss, hi2, decide_true, condP_true]
        rw [len_B, reO_some, bindP_run, idxK_sl, idx_G, if_pos hlt, reO_some, bindP_run, ld_G, List.getElem?_eq_getElem hlt, Option.map_some, reO_some, bindP_run, K29 gs[i] x.length (by omega) hlen, bindO_some, un_not, reO_some, bindP_run]
        cases hok : okP x.length gs[i] with
        | false =>
          have hE : allG x.length gs = false := all_range_false hlt (by rw [hgd]; exact hok)
          simp -implicitDefEqProofs only [Bool.not_false, condP_true, br, reO_some, bindP_run]
          rw [ht 0 3 st _ _ rfl rfl o0, bindP_run]
          simp [o6, g4]
          rw [hce _ (.int .i64 0) (.slice none 0 0) (I64 1) (by simp [set_obj]), resE_1, bindP_run, cutR, show cutE x gs = 1 by simp [cutE, hF, hG, hE], if_neg (by omega)]
          exact snap_r3 (snap_nil7 _)
        | true =>
          simp -implicitDefEqProofs only [Bool.not_true, condP_false, bin_add, hw, reO_some, bindP_run, bindO_some, movP_ptr, Nat.zero_add]
          have hb3 : buildA (.str [(.int .i64 (0)), (.slice none 0 0), (.bool false)] [(0, 1), (1, 1), (2, 1)]) [(0, .int .i64 ((i : Int) + 1)), (1, encI gs[i])] = some (.agg ⟨encN ((i : Int) + 1) gs[i] false⟩) := rfl
          have hld : ∀ (nm : Nat) (S : St) (a : Int) (b : Bool), S.obj nm = rowOf (encN a gs[i] b) 0 true → loadA (.agg 3) (ptr nm 0) S = .ok (.agg ⟨encN a gs[i] b⟩) S := fun nm S a b h => by
            rw [loadA_ptr, h, ldO_agg]; rfl
          have hbs : ∀ (S : St) (b : Bool), buildSliceA (.mk 3 [(.int .i64 (0)), (.slice none 0 0), (.bool false)] true) 1 [(0, .agg ⟨encN ((i : Int) + 1) gs[i] b⟩)] S = .ok (.slice (some ⟨S.next, 0, none⟩) 1 1) (S.push (rowOf (encN ((i : Int) + 1) gs[i] b) 3 true)) := fun S b => by
            show allK (rowOf (encN ((i : Int) + 1) gs[i] b) 3 true) (fun nm => Value.slice (some ⟨nm, 0, none⟩) 1 1) S = _
            rw [allK_eq]
          have hfit := okP_fits hok
          rw [ld_G, List.getElem?_eq_getElem hlt, Option.map_some, reO_some, bindP_run]
          simp -implicitDefEqProofs only [hb3, reO_some, bindP_run, boxK_eq]
          rw [storeN_agg (k := 3) (off := 0) (nm := st.next) (xs := [(.int .i64 (0)), (.slice none 0 0), (.bool false)]) (es := 0) (ex := true) (by simp [push_obj]) rfl (by simp), bindP_run]
          have e1 : List.take 0 [Value.int .i64 0, Value.slice none 0 0, Value.bool false] ++ encN ((i : Int) + 1) gs[i] false ++ List.drop (0 + 3) [Value.int .i64 0, Value.slice none 0 0, Value.bool false] = encN ((i : Int) + 1) gs[i] false := by simp
          rw [e1, hld st.next _ ((i : Int) + 1) false (by simp [set_obj]), bindP_run, K30 ((i : Int) + 1) gs[i] false x hfit hlen (by omega), bindO_some]
          have e2 : (par gs[i] x gs[i].length == false) = !par gs[i] x gs[i].length := by cases par gs[i] x gs[i].length <;> rfl
          rw [e2]
          simp -implicitDefEqProofs only [un_not, Bool.not_not, reO_some, bindP_run, movP_ptr, Nat.zero_add]
          rw [storeN_one (nm := st.next) (off := 2) (xs := encN ((i : Int) + 1) gs[i] false) (es := 0) (ex := true) (by simp [set_obj]) (by simp [encN]) rfl, bindP_run]
          have e3 : (encN ((i : Int) + 1) gs[i] false).set 2 (.bool (par gs[i] x gs[i].length)) = encN ((i : Int) + 1) gs[i] (par gs[i] x gs[i].length) := rfl
          rw [e3]
          obtain ⟨S2, hS2⟩ : ∃ S2, ((st.push (rowOf [(.int .i64 (0)), (.slice none 0 0), (.bool false)] 0 true)).setObj st.next (rowOf (encN ((i : Int) + 1) gs[i] false) 0 true)).setObj st.next (rowOf (encN ((i : Int) + 1) gs[i] (par gs[i] x gs[i].length)) 0 true) = S2 := ⟨_, rfl⟩
          rw [hS2]
          have n2 : S2.next = st.next + 1 := by rw [← hS2]; simp
          have q2 : ∀ b, b ≠ st.next → S2.obj b = st.obj b := fun b hb => by rw [← hS2]; simp [set_obj, push_obj, hb]
          have qn : S2.obj st.next = rowOf (encN ((i : Int) + 1) gs[i] (par gs[i] x gs[i].length)) 0 true := by rw [← hS2]; simp [set_obj]
          clear hS2
          have hat2 : At S2 i (cells x gs i) v := by
            rcases hat with h | ⟨h0, nm, ex, h1, h2, h3, h4⟩
            · exact .inl h
            · exact .inr ⟨h0, nm, ex, h1, by omega, h3, by rw [q2 nm (by omega)]; exact h4⟩
          obtain ⟨S3, hap, n3, r3, q3⟩ := append_note hat2 (cells_len x gs i) (c := encN ((i : Int) + 1) gs[i] (par gs[i] x gs[i].length)) rfl (by omega)
          have o12 : S2.obj 1 = rowOf [I64 x.length, v] 0 true := by rw [q2 1 (by omega)]; exact o1
          have o13 : S3.obj 1 = rowOf [I64 x.length, v] 0 true := by rw [q3 1 (by omega) (by omega)]; exact o12
          have o03 : S3.obj 0 = rowOf [a0, b0, c0] 0 true := by rw [q3 0 (by omega) (by omega), q2 0 (by omega)]; exact o0
          have hv1 : loadA .one (ptr 1 1) S2 = .ok v S2 := by rw [loadA_ptr, o12, ldO_one]; rfl
          rw [hv1, bindP_run, hld st.next S2 _ _ qn, bindP_run, hbs, bindP_run, hap, bindP_run]
          rw [storeN_one (nm := 1) (off := 1) o13 (by simp) rfl, bindP_run]
          have ec : cells x gs (i + 1) = cells x gs i ++ encN ((i : Int) + 1) gs[i] (par gs[i] x gs[i].length) := by rw [cells, hgd]
          refine ⟨gs.length - (i + 1), by omega, i + 1, _, _, a0, b0, c0, rfl, by rw [set_next, n3]; omega, by rw [set_obj]; simpa using o03, by rw [set_obj]; simp; rfl, ?_, ?_, ?_, ?_, ?_, ?_, by omega, rfl, all_range_succ hall (by rw [hgd]; exact hok)⟩
          · refine .inr ⟨by omega, S2.next + 1, false, by omega, by rw [set_next, n3]; omega, rfl, ?_⟩
            rw [set_obj, if_neg (by omega), r3, ec]
          all_goals simp [g0, g1, g4, g5, g6]
      · have hi2 : ¬ (i : Int) < gs.length := by omega
        obtain rfl : i = gs.length := by omega
        have hE : cutE x gs = 0 := by simp [cutE, hF, hG, allG]; simpa using hall
        have bs : buildA (.str [(.int .i64 (0)), (.slice none 0 0), (.int .i64 (0))] [(0, 2), (2, 1)]) [(0, .agg ⟨[I64 x.length, v]⟩)] = some (.agg ⟨[I64 x.length, v, I64 0]⟩) := rfl
        simp -implicitDefEqProofs only [len_G, bin_lss, hi2, reO_some, bindP_run, condP_false, decide_false, blockK_exit, if_true, seqK_normal, e6_r0]
        simp [g4, g5, o1, bs]
        rw [ht 0 3 st _ _ rfl rfl o0, bindP_run]
        simp [o6, g4]
        rw [hce _ (I64 x.length) v (I64 0) (by simp [set_obj]), resE_1, bindP_run, cutR, hE, if_pos rfl]
        refine snap_r3 (snap_notes (d := 6) ?_ (by omega))
        rcases hat with h | ⟨h0, nm, ex, h1, h2, h3, h4⟩
        · exact .inl h
        · exact .inr ⟨h0, nm, ex, h1, by simpa using h2, h3, by rw [set_obj, if_neg (by omega)]; exact h4⟩
end Go.Proofs.YteoemmgelalcaaaGreat

set_option autoImplicit false
set_option maxRecDepth 100000
set_option linter.unusedSimpArgs false
set_option linter.unusedVariables false
namespace Go.Proofs.YteoemmgelalcaaaGreat
open Go.Proofs.YteoemmgelalcaaaGreat.Ev
theorem p31 (id : Int) (l : List Int) (b : Bool) (hl : l.length ≤ 1000) : PurOk Tryz.prog 31 [.agg ⟨encN id l b⟩, .agg ⟨encN id l b⟩] (.bool true) := by
  refine pur_wp (cs := []) (isP := isP) (keep := false) mixed ?_
  rw [e31]
  simp -implicitDefEqProofs [push_obj, encN]
  refine loop_rule (isP := isP) (fun m a st => ∃ (i : Nat) (t : Regs), a = ⟨45, t, []⟩ ∧ st = (S0.push (rowOf (encN id l b) 0 true)).push (rowOf (encN id l b) 0 true) ∧
    gt t 2 = ptr 0 0 ∧ gt t 3 = ptr 1 0 ∧ gt t 5 = I64 i ∧ i ≤ l.length ∧ m = l.length - i) ?_ l.length _ _ ⟨0, _, rfl, rfl, by simp, by simp, by simp, by simp, by simp⟩
  rintro m a st ⟨i, t, rfl, rfl, g2, g3, g5, hi, rfl⟩
  rw [e31_b0, g2, g3, g5]
  by_cases hlt : i < l.length
  · have hw : IntKind.i64.wrap ((i : Int) + 1) = (i : Int) + 1 := wrap64 (by omega)
    have hi2 : (i : Int) < l.length := by omega
    simp -implicitDefEqProofs [push_obj, encN, hlt, hi2, hw]
    exact ⟨_, by omega, g2, g3, i + 1, by omega, by omega, rfl⟩
  · have hi2 : ¬ (i : Int) < l.length := by omega
    obtain rfl : i = l.length := by omega
    simp -implicitDefEqProofs [hi2, push_obj, encN, e31_r0, o31]
end Go.Proofs.YteoemmgelalcaaaGreat

set_option autoImplicit false
set_option maxRecDepth 100000
set_option linter.unusedSimpArgs false
set_option linter.unusedVariables false
namespace Go.Proofs.YteoemmgelalcaaaGreat
open Go.Proofs.YteoemmgelalcaaaGreat.Ev
noncomputable def c31 : Con Tryz.prog := mkCon 31 false (fun q : Int × List Int × Bool => [.agg ⟨encN q.1 q.2.1 q.2.2⟩, .agg ⟨encN q.1 q.2.1 q.2.2⟩]) (fun q => q.2.1.length ≤ 1000) (fun q => .bool true)
  (fun ⟨_, _, _⟩ ⟨_, _, _⟩ h => by simp only [List.cons.injEq, Value.agg.injEq, Array.mk.injEq, and_true] at h; obtain ⟨rfl, rfl, rfl⟩ := encN_inj h.1; rfl) (fun q h => p31 q.1 q.2.1 q.2.2 h)
theorem k31 {cs : List (Con Tryz.prog)} (h : cs.find? (fun c => c.f == 31) = some c31) (id : Int) (l : List Int) (b : Bool) (hl : l.length ≤ 1000) (st : St) :
    pcall (orcL cs) 31 [.agg ⟨encN id l b⟩, .agg ⟨encN id l b⟩] st = some (.bool true) :=
  pcall_mk h (id, l, b) hl (pv2 (aN_pv _ _ _) (aN_pv _ _ _)) st
theorem cells_at (x : List Bool) (gs : List (List Int)) {i : Nat} : ∀ {k : Nat}, i < k → ((cells x gs k).drop (i * 3)).take 3 = encN ((i : Int) + 1) (gs.getD i []) (par (gs.getD i []) x (gs.getD i []).length)
  | k + 1, h => by
    rw [cells]
    by_cases hk : i < k
    · rw [List.drop_append_of_le_length (by rw [cells_len]; omega), List.take_append_of_le_length (by rw [List.length_drop, cells_len]; omega)]
      exact cells_at x gs hk
    · obtain rfl : i = k := by omega
      rw [List.drop_append, List.drop_eq_nil_of_le (by rw [cells_len]; omega), cells_len]
      simp [encN]
theorem p7 (n : Int) (x : List Bool) (gs : List (List Int)) (k : Nat) (hk : k ≤ 1000) (hl : ∀ j, (gs.getD j []).length ≤ 1000) : PurOk Tryz.prog 7 [encS n k (cells x gs k), encS n k (cells x gs k)] (.bool true) := by
  refine pur_wp (cs := [c31]) (isP := isP) (keep := false) mixed ?_
  have K31 := @k31 [c31] rfl
  rw [e7]
  simp -implicitDefEqProofs [push_obj, encS]
  refine loop_rule (isP := isP) (fun m a st => ∃ (i : Nat) (t : Regs), a = ⟨39, t, []⟩ ∧ st = (S0.push (rowOf [I64 n, fsl k (cells x gs k)] 0 true)).push (rowOf [I64 n, fsl k (cells x gs k)] 0 true) ∧
    gt t 2 = ptr 0 0 ∧ gt t 3 = ptr 1 0 ∧ gt t 5 = I64 i ∧ i ≤ k ∧ m = k - i) ?_ k _ _ ⟨0, _, rfl, rfl, by simp, by simp, by simp, by simp, by simp⟩
  rintro m a st ⟨i, t, rfl, rfl, g2, g3, g5, hi, rfl⟩
  rw [e7_b0, g2, g3, g5]
  by_cases hlt : i < k
  · have hw : IntKind.i64.wrap ((i : Int) + 1) = (i : Int) + 1 := wrap64 (by omega)
    have hi2 : (i : Int) < k := by omega
    have hc := cells_at x gs hlt
    have hcl := cells_len x gs k
    have hle : i * 3 + 3 ≤ k * 3 := by omega
    have hK := K31 ((i : Int) + 1) (gs.getD i []) (par (gs.getD i []) x (gs.getD i []).length) (hl i)
    have hB : ∀ N, belowV 6 N (.agg ⟨encN ((i : Int) + 1) (gs.getD i []) (par (gs.getD i []) x (gs.getD i []).length)⟩) = true := fun N => (Pv.agg (encN_pv _ _ _)).below N 6 (by omega)
    have hP : ∀ N, belowV 6 N (fpt (i * 3) (cells x gs k)) = true := fun N => (Pv.fpt (fun u hu => cells_pv x gs k u hu)).below N 6 (by omega)
    generalize encN ((i : Int) + 1) (gs.getD i []) (par (gs.getD i []) x (gs.getD i []).length) = e at *
    simp -implicitDefEqProofs [push_obj, hlt, hi2, hw, hc, hcl, hle, hK, hB, hP]
    exact ⟨_, by omega, g2, g3, i + 1, by omega, by omega, rfl⟩
  · have hi2 : ¬ (i : Int) < k := by omega
    obtain rfl : i = k := by omega
    simp -implicitDefEqProofs [hi2, push_obj, e7_r0, o7]
theorem cutS_pv (x : List Bool) (gs : List (List Int)) : Pv 8 (cutS x gs) := by
  unfold cutS encS
  split
  · refine (Pv.agg (d := 2) fun u hu => ?_).mono (by omega)
    simp only [List.mem_cons, List.not_mem_nil, or_false] at hu
    rcases hu with rfl | rfl
    · exact (Pv.int _ _).mono (by omega)
    · exact .fsl fun u hu => cells_pv x gs _ u hu
  · refine (Pv.agg (d := 1) fun u hu => ?_).mono (by omega)
    simp only [List.mem_cons, List.not_mem_nil, or_false] at hu
    rcases hu with rfl | rfl
    · exact (Pv.int _ _).mono (by omega)
    · exact .fsl fun u hu => by simp at hu
theorem p7c (x : List Bool) (gs : List (List Int)) (hg : gs.length ≤ 1000) (hl : ∀ j, (gs.getD j []).length ≤ 1000) : PurOk Tryz.prog 7 [cutS x gs, cutS x gs] (.bool true) := by
  unfold cutS
  split
  · exact p7 _ x gs _ hg hl
  · exact p7 0 x gs 0 (by omega) hl
/-- Lists of numbers that are not long. -/
def Gok (gs : List (List Int)) : Prop := gs.length ≤ 1000 ∧ ∀ j, (gs.getD j []).length ≤ 1000
theorem gb_inj : ∀ x y : List Bool × List (List Int), [encB x.1, encG x.2] = [encB y.1, encG y.2] → x = y := fun ⟨_, _⟩ ⟨_, _⟩ h => by
  simp only [List.cons.injEq, and_true] at h
  rw [encB_inj h.1, encG_inj h.2]
noncomputable def c5 : Con Tryz.prog := mkCon 5 false (fun q : List Bool × List (List Int) => [encB q.1, encG q.2]) (fun q => q.1.length ≤ 60 ∧ Gok q.2) (fun q => .tuple ⟨[cutS q.1 q.2, I64 (cutE q.1 q.2)]⟩) gb_inj (fun q h => p5 q.1 q.2 h.1 h.2.1 h.2.2)
noncomputable def c6 : Con Tryz.prog := mkCon 6 false (fun q : List Bool × List (List Int) => [encB q.1, encG q.2]) (fun q => q.1.length ≤ 60 ∧ Gok q.2) (fun q => cutR q.1 q.2) gb_inj (fun q h => p6 q.1 q.2 h.1 h.2.1 h.2.2)
theorem pGG (l : List (List Int)) : Pv 8 (encG l) := (encG_pv l).mono (by omega)
theorem k5 {cs : List (Con Tryz.prog)} (h : cs.find? (fun c => c.f == 5) = some c5) (x : List Bool) (gs : List (List Int)) (hx : x.length ≤ 60) (hg : Gok gs) (st : St) : pcall (orcL cs) 5 [encB x, encG gs] st = some (.tuple ⟨[cutS x gs, I64 (cutE x gs)]⟩) :=
  pcall_mk h (x, gs) ⟨hx, hg⟩ (pv2 (pBB x) (pGG gs)) st
theorem k6 {cs : List (Con Tryz.prog)} (h : cs.find? (fun c => c.f == 6) = some c6) (x : List Bool) (gs : List (List Int)) (hx : x.length ≤ 60) (hg : Gok gs) (st : St) : pcall (orcL cs) 6 [encB x, encG gs] st = some (cutR x gs) :=
  pcall_mk h (x, gs) ⟨hx, hg⟩ (pv2 (pBB x) (pGG gs)) st
noncomputable def c7 : Con Tryz.prog := { f := 7, keep := false, R := fun args v => v = .bool true ∧ ∃ x gs, Gok gs ∧ args = [cutS x gs, cutS x gs], one := fun args v v' h h' => h.1.trans h'.1.symm, ok := fun args v ⟨h1, x, gs, h2, h3⟩ => by rw [h1, h3]; exact p7c x gs h2.1 h2.2 }
theorem k7 {cs : List (Con Tryz.prog)} (h : cs.find? (fun c => c.f == 7) = some c7) (x : List Bool) (gs : List (List Int)) (hg : Gok gs) (st : St) : pcall (orcL cs) 7 [cutS x gs, cutS x gs] st = some (.bool true) :=
  pcall_pure h ⟨rfl, x, gs, hg, rfl⟩ (pv2 (cutS_pv x gs) (cutS_pv x gs))
noncomputable def c4 (hh : PurOk Tryz.prog 4 [] (.bool true)) : Con Tryz.prog := { f := 4, keep := false, R := fun args v => v = .bool true ∧ args = [], one := fun args v v' h h' => h.1.trans h'.1.symm, ok := fun args v ⟨h1, h2⟩ => by rw [h1, h2]; exact hh }
theorem k4 (hh : PurOk Tryz.prog 4 [] (.bool true)) {cs : List (Con Tryz.prog)} (h : cs.find? (fun c => c.f == 4) = some (c4 hh)) (st : St) : pcall (orcL cs) 4 [] st = some (.bool true) :=
  pcall_pure h ⟨rfl, rfl⟩ (fun u hu => by simp at hu)
end Go.Proofs.YteoemmgelalcaaaGreat

