import Derived.Test.YtnjmkdgglpcfpaaC12
namespace Go.Proofs.Ytnjmkdgglpcfpaa
set_option linter.unusedSimpArgs false
set_option linter.unusedVariables false
open Go.RowKit

/-- cuts that show how many stands there must be, a cut for each first stand -/
def ShownP (C B F : Int) (p q : Nat → Bool) (fs : List Int) (cuts : List (Int × List Int)) (n : Int) : Prop :=
  cuts.length = fs.length ∧ ∀ (k : Nat) (h1 : k < cuts.length) (h2 : k < fs.length), cuts[k].1 = fs[k] ∧ (cuts[k].2.length : Int) = n - 1 ∧ HoldsP C B F p q cuts[k].1 cuts[k].2

set_option maxRecDepth 100000 in
set_option maxHeartbeats 1000000 in
theorem shown93_none (C R B F : Int) (sl : Value) (p q : Nat → Bool) (G : Option Addr) (gap : Nat) (cuts : List (Int × List Int)) (n : Int) (w : World) (hcl : cuts.length ≤ 1000) (hc : cols q = []) (res : Bool) (hres : res = decide (n = 0 ∧ cuts.length = 0)) :
    Calls Try.prog 93 #[.agg (sv C R B F sl p q), .slice G cuts.length gap, .int .i64 n] w fun e w' => e = .returned (.bool res) ∧ Below w.heap.size w w' := by
  have hblk := Blk.new w 106 (sv C R B F sl p q)
  have hrow := hblk.svWantedRow
  have bw0 := below_new w (.cells (sv C R B F sl p q) 106)
  have HCQ := Lib.hid hc
  clear hc
  by_cases h1 : n = 0
  · subst h1
    by_cases h2 : cuts.length = 0
    · have e1 : ((cuts.length : Int) == 0) = true := by simp [h2]
      have HR : Hid (res = true) := by unfold Hid; rw [hres]; exact decide_eq_true ⟨rfl, h2⟩
      clear hres h2
      go_enter Try.func93, Try.ntmps93
      go_wp2_with (first
        | (refine wpList_load_mid (by rfl) 93 _ (by rfl) _ 125 (by rfl) _ _ hrow Try.underlying93 rfl (info93l _) ?_)
        | (go_at_call 78; refine (list_any _ _).mono ?_; rw [HCQ.out]; rintro e w1 ⟨S, sap, rfl, s1, s2, s3, hb1⟩; have bw1 := below_next bw0 bw0.size hb1))
      go_ret
      exact ⟨ret_bool HR.out.symm, bw1⟩
    · have e1 : ((cuts.length : Int) == 0) = false := beq_eq_false_iff_ne.2 (by omega)
      have HR : Hid (res = false) := by unfold Hid; rw [hres]; exact decide_eq_false fun h => h2 h.2
      clear hres h2
      go_enter Try.func93, Try.ntmps93
      go_wp2_with (first
        | (refine wpList_load_mid (by rfl) 93 _ (by rfl) _ 125 (by rfl) _ _ hrow Try.underlying93 rfl (info93l _) ?_)
        | (go_at_call 78; refine (list_any _ _).mono ?_; rw [HCQ.out]; rintro e w1 ⟨S, sap, rfl, s1, s2, s3, hb1⟩; have bw1 := below_next bw0 bw0.size hb1))
      go_ret
      exact ⟨ret_bool HR.out.symm, bw1⟩
  · have e1 : (n == 0) = false := beq_eq_false_iff_ne.2 h1
    have HR : Hid (res = false) := by unfold Hid; rw [hres]; exact decide_eq_false fun h => h1 h.1
    clear hres h1
    go_enter Try.func93, Try.ntmps93
    go_wp2_with (first
      | (refine wpList_load_mid (by rfl) 93 _ (by rfl) _ 125 (by rfl) _ _ hrow Try.underlying93 rfl (info93l _) ?_)
      | (go_at_call 78; refine (list_any _ _).mono ?_; rw [HCQ.out]; rintro e w1 ⟨S, sap, rfl, s1, s2, s3, hb1⟩; have bw1 := below_next bw0 bw0.size hb1))
    go_ret
    exact ⟨ret_bool HR.out.symm, bw1⟩

set_option maxRecDepth 100000 in
set_option maxHeartbeats 1200000 in
theorem shown93_some (C R B F : Int) (sl : Value) (p q : Nat → Bool) (G : Option Addr) (gap : Nat) (cuts : List (Int × List Int)) (n : Int) (w : World) (h1 : 1 ≤ C) (h2 : C ≤ 120) (h7 : 0 ≤ B) (h8 : 0 ≤ F) (h9 : F < C - B) (hn0 : 0 ≤ n) (hn1 : n ≤ 1000) (hcl : cuts.length ≤ 1000) (hcc : ∀ c ∈ cuts, c.2.length ≤ 1000) (hg : CutsC w w.heap.size G cuts) (c0 : Int) (cs0 fs : List Int) (hc : cols q = c0 :: cs0) (hc0 : 0 ≤ c0 ∧ c0 < C) (hfs : opens C B F p c0 = fs) (hfsr : ∀ x ∈ fs, 0 ≤ x ∧ x < C) (hfl : fs.length ≤ 120) (res : Bool)
    (HY : Hid (ShownP C B F p q fs cuts n → res = true)) (HN : Hid (¬ ShownP C B F p q fs cuts n → res = false)) :
    Calls Try.prog 93 #[.agg (sv C R B F sl p q), .slice G cuts.length gap, .int .i64 n] w fun e w' => e = .returned (.bool res) ∧ Below w.heap.size w w' := by
  have kS0 := Blk.new w 106 (sv C R B F sl p q)
  have hrow := kS0.svWantedRow
  have bw0 := below_new w (.cells (sv C R B F sl p q) 106)
  have iG0 := hg.behind bw0
  have HCQ := Lib.hid hc
  have HFS := Lib.hid hfs
  have HH := Lib.hid (fun (s : Int) (l : List Int) (E : Option Addr) (eap : Nat) (W : World) => holds115_loop C R B F sl p q s E eap l W h1 h2 h7 h8 h9)
  have e1 : (((c0 :: cs0).length : Int) == 0) = false := beq_eq_false_iff_ne.2 (by rw [List.length_cons]; omega)
  have e2 : (0 : Int) < ((c0 :: cs0).length : Int) := by rw [List.length_cons]; omega
  have hw1 : IntKind.i64.wrap (n - 1) = n - 1 := IntWalk.i64_in _ (by omega)
  clear hc hfs
  generalize hL : c0 :: cs0 = L at *
  have hL0 : L[0]? = some c0 := by rw [← hL]; rfl
  have e3 : 0 < L.length := by rw [← hL]; simp
  clear hL
  go_enter Try.func93, Try.ntmps93
  go_wp2_with (first
    | (refine wpList_load_mid (by rfl) 93 _ (by rfl) _ 125 (by rfl) _ _ hrow Try.underlying93 rfl (info93l _) ?_)
    | (go_at_call 78; refine (list_any _ _).mono ?_; rw [HCQ.out]; rintro e w1 ⟨S, sap, rfl, s1, s2, s3, hb1⟩; have bw1 := below_next bw0 bw0.size hb1; have kS1 := kS0.below hb1 kS0.lt; have iG1 := iG0.behind hb1; clear iG0 kS0 bw0 hrow))
  obtain ⟨a3, hA3, ha3, hc3⟩ := s3 0 c0 hL0
  subst hA3
  have hc3 : w1.cell? a3 = some (.int .i64 c0) := by simpa [Addr.add] using hc3
  refine wp_region_held_drew (S := fun w' => Blk w' w.heap.size 106 (sv C R B F sl p q) ∧ w'.cell? a3 = some (.int .i64 c0)) (by kernel_rfl) ⟨kS1, hc3⟩ (fun hHeld => ?_)
  (refine wpAnyH_take (i := 0) (v := .agg (sv C R B F sl p q)) rfl (by kernel_rfl) (by kernel_rfl) (by kernel_rfl) (fun _ _ _ h => h) (yieldsIf_load_row (by rfl) 106 _ rfl _ rfl 106 _ (0, 0) _ (fun w5 hS5 => hS5.1) Try.underlying106 rfl (info106 _ _ _ _ _ _ _)) (by assumption) ?_; (try simp only [List.getElem_toArray, List.getElem_cons_zero, List.getElem_cons_succ, Act.put, List.setIfInBounds_toArray, List.set_cons_zero, List.set_cons_succ]))
  (refine wpAnyH_take (i := 1) (v := ?_) rfl (by kernel_rfl) (by kernel_rfl) (by kernel_rfl) (fun _ _ _ h => h) (Or.inl ⟨by rfl, ?_⟩) (by assumption) ?_; rotate_left; (· intro w5 hS5; (try dsimp only at hS5); go_simp <;> with_reducible rfl); (try simp only [List.getElem_toArray, List.getElem_cons_zero, List.getElem_cons_succ, Act.put, List.setIfInBounds_toArray, List.set_cons_zero, List.set_cons_succ]))
  (refine wpAnyH_take (i := 2) (v := ?_) rfl (by kernel_rfl) (by kernel_rfl) (by kernel_rfl) (fun _ _ _ h => h) (Or.inl ⟨by rfl, ?_⟩) (by assumption) ?_; rotate_left; (· intro w5 hS5; (try dsimp only at hS5); go_simp <;> with_reducible rfl); (try simp only [List.getElem_toArray, List.getElem_cons_zero, List.getElem_cons_succ, Act.put, List.setIfInBounds_toArray, List.set_cons_zero, List.set_cons_succ]))
  (refine wpAnyH_take (i := 3) (v := ?_) rfl (by kernel_rfl) (by kernel_rfl) (by kernel_rfl) (fun _ _ _ h => h) (Or.inl ⟨by rfl, ?_⟩) (by assumption) ?_; rotate_left; (· intro w5 hS5; (try dsimp only at hS5); go_simp <;> with_reducible rfl); (try simp only [List.getElem_toArray, List.getElem_cons_zero, List.getElem_cons_succ, Act.put, List.setIfInBounds_toArray, List.set_cons_zero, List.set_cons_succ]))
  (refine wpAnyH_ready (rs := [4]) (by kernel_rfl) (by simp) ?_; refine AllReadyH.cons rfl (fun K hK => ?_) AllReadyH.nil)
  go_simp
  refine (sStands_any C R B F sl p q c0 _ h1 h2 hc0.1 hc0.2 h7 h8 h9).mono ?_
  rw [HFS.out]
  rintro e w4 ⟨A4, c4, rfl, m1, m2, m3, hb4'⟩
  have hb4 : Below w1.heap.size w1 w4 := (Below.refl _ _).drew.trans hb4'
  have kS4 := kS1.below hb4 kS1.lt
  have hc4 := (hb4.cell (p := a3) ha3).trans hc3
  refine hK.out _ _ ⟨kS4, hc4⟩ (fun hHeld => ?_)
  clear hK K
  (try simp only [List.getElem_toArray, List.getElem_cons_zero, List.getElem_cons_succ, Act.put, List.setIfInBounds_toArray, List.set_cons_zero, List.set_cons_succ])
  (refine wpAnyH_take (i := 5) (v := ?_) rfl (by kernel_rfl) (by kernel_rfl) (by kernel_rfl) (fun _ _ _ h => h) (Or.inl ⟨by rfl, ?_⟩) (by assumption) ?_; rotate_left; (· intro w5 hS5; (try dsimp only at hS5); go_simp <;> with_reducible rfl); (try simp only [List.getElem_toArray, List.getElem_cons_zero, List.getElem_cons_succ, Act.put, List.setIfInBounds_toArray, List.set_cons_zero, List.set_cons_succ]))
  refine wpAnyH_done (by kernel_rfl) ?_ _
  clear hHeld
  have bw4 := below_next bw1 bw1.size hb4
  have iG4 := iG1.behind hb4
  clear hc3 hc4 s3 hL0 e1 e2 e3 HCQ
  by_cases hlen : cuts.length = fs.length
  case neg =>
    have e5 : ((cuts.length : Int) == (fs.length : Int)) = false := beq_eq_false_iff_ne.2 (by omega)
    have e6 : ((cuts.length : Int) != (fs.length : Int)) = true := by simp [bne, e5]
    have HR : Hid (res = false) := HN.out fun h => hlen h.1
    clear hlen
    go_wp2_with fail
    go_ret
    exact ⟨ret_bool HR.out.symm, bw4⟩
  case pos =>
  have e5 : ((cuts.length : Int) == (fs.length : Int)) = true := beq_iff_eq.2 (by omega)
  have e6 : ((cuts.length : Int) != (fs.length : Int)) = false := by simp [bne, e5]
  have HLN := Lib.hid hlen
  clear hlen
  go_wp2_with fail
  go_loopw [36] (fun i wr => ∃ k : Nat, k ≤ cuts.length ∧ i = .int .i64 k ∧ Hid (∀ (j : Nat) (hj : j < k) (hj1 : j < cuts.length) (hj2 : j < fs.length), cuts[j].1 = fs[j] ∧ (cuts[j].2.length : Int) = n - 1 ∧ HoldsP C B F p q cuts[j].1 cuts[j].2) ∧ Below w4.heap.size w4 wr)
    (fun i _ => cuts.length - (intOf i).toNat)
  case atStart => exact ⟨0, Nat.zero_le _, rfl, (by intro j hj; omega), Below.refl _ _⟩
  case round =>
    obtain ⟨k, hk, rfl, hall, hb⟩ := hrel
    have bw := below_next bw4 bw4.size hb
    have kS := kS4.below hb kS4.lt
    have iG := iG4.behind hb
    have m3r := m3.behind hb
    by_cases hlt : k < cuts.length
    · have hlf : k < fs.length := by rw [← HLN.out]; exact hlt
      obtain ⟨ad, E, eap, hG, hBd, hx0, hx1, iE0, hecap, hemax⟩ := iG.get hlt
      subst hG
      obtain ⟨af, hA4, hBf, hcf0⟩ := m3r.get hlf
      subst hA4
      have hki : (k : Int) < (cuts.length : Int) := by omega
      have hkf : (k : Int) < (fs.length : Int) := by omega
      have hfk := hfsr _ (List.getElem_mem hlf)
      have hlk := hcc _ (List.getElem_mem hlt)
      have HAT : Hid (ShownP C B F p q fs cuts n → cuts[k].1 = fs[k] ∧ (cuts[k].2.length : Int) = n - 1 ∧ HoldsP C B F p q cuts[k].1 cuts[k].2) := fun h => h.2 k hlt hlf
      have HNX : Hid (cuts[k].1 = fs[k] ∧ (cuts[k].2.length : Int) = n - 1 ∧ HoldsP C B F p q cuts[k].1 cuts[k].2 → ∀ (j : Nat) (hj : j < k + 1) (hj1 : j < cuts.length) (hj2 : j < fs.length), cuts[j].1 = fs[j] ∧ (cuts[j].2.length : Int) = n - 1 ∧ HoldsP C B F p q cuts[j].1 cuts[j].2) := fun h j hj hj1 hj2 => by
        rcases Nat.lt_or_ge j k with hjk | hjk
        · exact hall.out j hjk hj1 hj2
        · obtain rfl : j = k := by omega
          exact h
      clear hall
      generalize cuts[k] = ck at *
      obtain ⟨s, lk⟩ := ck
      dsimp only at *
      generalize fs[k] = fk at *
      have hn4 := below_new wr (.cells #[.int .i64 s, .slice E lk.length eap] 104)
      have kC := Blk.new wr 104 #[.int .i64 s, .slice E lk.length eap]
      have kSr := kS.below hn4 kS.lt
      have g0 := kC.cell 0
      have g1 := kC.cell 1
      have hcf := (hn4.cell (p := af.add k) (by rw [addr_block]; exact hBf)).trans hcf0
      have iE := iE0.behind hn4
      have bwn := below_next bw bw.size hn4
      by_cases hs : s = fk
      · have hs0 := hfk.1
        have hs1 := hfk.2
        rw [← hs] at hs0 hs1
        have e7 : (s == fk) = true := beq_iff_eq.2 hs
        have e8 : (s != fk) = false := by simp [bne, e7]
        have HSF := Lib.hid hs
        clear hs
        by_cases hln : (lk.length : Int) = n - 1
        · have e9 : ((lk.length : Int) == n - 1) = true := beq_iff_eq.2 hln
          have e10 : ((lk.length : Int) != n - 1) = false := by simp [bne, e9]
          have HLL := Lib.hid hln
          clear hln
          by_cases hhold : HoldsP C B F p q s lk
          · have HNX2 := Lib.hid (HNX.out ⟨HSF.out, HLL.out, hhold⟩)
            have HO := Lib.hid hhold
            clear hhold
            go_wp2_with fail
            refine wp_region_held_drew (S := fun w' => w'.cell? ⟨wr.heap.size, 0, none⟩ = some (.int .i64 s) ∧ w'.cell? ⟨wr.heap.size, 1, none⟩ = some (.slice E lk.length eap) ∧ w'.cell? (af.add k) = some (.int .i64 fk) ∧ Blk w' w.heap.size 106 (sv C R B F sl p q)) (by kernel_rfl) ⟨g0, g1, hcf, kSr⟩ (fun hHeld => ?_)
            (refine wpAnyH_take (i := 0) (v := ?_) rfl (by kernel_rfl) (by kernel_rfl) (by kernel_rfl) (fun _ _ _ h => h) (Or.inl ⟨by rfl, ?_⟩) (by assumption) ?_; rotate_left; (· intro w5 hS5; (try dsimp only at hS5); go_simp <;> with_reducible rfl); (try simp only [List.getElem_toArray, List.getElem_cons_zero, List.getElem_cons_succ, Act.put, List.setIfInBounds_toArray, List.set_cons_zero, List.set_cons_succ]))
            (refine wpAnyH_take (i := 1) (v := ?_) rfl (by kernel_rfl) (by kernel_rfl) (by kernel_rfl) (fun _ _ _ h => h) (Or.inl ⟨by rfl, ?_⟩) (by assumption) ?_; rotate_left; (· intro w5 hS5; (try dsimp only at hS5); go_simp <;> with_reducible rfl); (try simp only [List.getElem_toArray, List.getElem_cons_zero, List.getElem_cons_succ, Act.put, List.setIfInBounds_toArray, List.set_cons_zero, List.set_cons_succ]))
            (refine wpAnyH_take (i := 2) (v := ?_) rfl (by kernel_rfl) (by kernel_rfl) (by kernel_rfl) (fun _ _ _ h => h) (Or.inl ⟨by rfl, ?_⟩) (by assumption) ?_; rotate_left; (· intro w5 hS5; (try dsimp only at hS5); go_simp <;> with_reducible rfl); (try simp only [List.getElem_toArray, List.getElem_cons_zero, List.getElem_cons_succ, Act.put, List.setIfInBounds_toArray, List.set_cons_zero, List.set_cons_succ]))
            (refine wpAnyH_take (i := 3) (v := ?_) rfl (by kernel_rfl) (by kernel_rfl) (by kernel_rfl) (fun _ _ _ h => h) (Or.inl ⟨by rfl, ?_⟩) (by assumption) ?_; rotate_left; (· intro w5 hS5; (try dsimp only at hS5); go_simp <;> with_reducible rfl); (try simp only [List.getElem_toArray, List.getElem_cons_zero, List.getElem_cons_succ, Act.put, List.setIfInBounds_toArray, List.set_cons_zero, List.set_cons_succ]))
            (refine wpAnyH_take (i := 4) (v := ?_) rfl (by kernel_rfl) (by kernel_rfl) (by kernel_rfl) (fun _ _ _ h => h) (Or.inl ⟨by rfl, ?_⟩) (by assumption) ?_; rotate_left; (· intro w5 hS5; (try dsimp only at hS5); go_simp <;> with_reducible rfl); (try simp only [List.getElem_toArray, List.getElem_cons_zero, List.getElem_cons_succ, Act.put, List.setIfInBounds_toArray, List.set_cons_zero, List.set_cons_succ]))
            (refine wpAnyH_take (i := 5) (v := ?_) rfl (by kernel_rfl) (by kernel_rfl) (by kernel_rfl) (fun _ _ _ h => h) (Or.inl ⟨by rfl, ?_⟩) (by assumption) ?_; rotate_left; (· intro w5 hS5; (try dsimp only at hS5); go_simp <;> with_reducible rfl); (try simp only [List.getElem_toArray, List.getElem_cons_zero, List.getElem_cons_succ, Act.put, List.setIfInBounds_toArray, List.set_cons_zero, List.set_cons_succ]))
            (refine wpAnyH_take (i := 6) (v := ?_) rfl (by kernel_rfl) (by kernel_rfl) (by kernel_rfl) (fun _ _ _ h => h) (Or.inl ⟨by rfl, ?_⟩) (by assumption) ?_; rotate_left; (· intro w5 hS5; (try dsimp only at hS5); go_simp <;> with_reducible rfl); (try simp only [List.getElem_toArray, List.getElem_cons_zero, List.getElem_cons_succ, Act.put, List.setIfInBounds_toArray, List.set_cons_zero, List.set_cons_succ]))
            (refine wpAnyH_take (i := 7) (v := ?_) rfl (by kernel_rfl) (by kernel_rfl) (by kernel_rfl) (fun _ _ _ h => h) (Or.inl ⟨by rfl, ?_⟩) (by assumption) ?_; rotate_left; (· intro w5 hS5; (try dsimp only at hS5); go_simp <;> with_reducible rfl); (try simp only [List.getElem_toArray, List.getElem_cons_zero, List.getElem_cons_succ, Act.put, List.setIfInBounds_toArray, List.set_cons_zero, List.set_cons_succ]))
            (refine wpAnyH_take (i := 8) (v := ?_) rfl (by kernel_rfl) (by kernel_rfl) (by kernel_rfl) (fun _ _ _ h => h) (Or.inl ⟨by rfl, ?_⟩) (by assumption) ?_; rotate_left; (· intro w5 hS5; (try dsimp only at hS5); go_simp <;> with_reducible rfl); (try simp only [List.getElem_toArray, List.getElem_cons_zero, List.getElem_cons_succ, Act.put, List.setIfInBounds_toArray, List.set_cons_zero, List.set_cons_succ]))
            (refine wpAnyH_take (i := 9) (v := ?_) rfl (by kernel_rfl) (by kernel_rfl) (by kernel_rfl) (fun _ _ _ h => h) (Or.inl ⟨by rfl, ?_⟩) (by assumption) ?_; rotate_left; (· intro w5 hS5; (try dsimp only at hS5); go_simp <;> with_reducible rfl); (try simp only [List.getElem_toArray, List.getElem_cons_zero, List.getElem_cons_succ, Act.put, List.setIfInBounds_toArray, List.set_cons_zero, List.set_cons_succ]))
            (refine wpAnyH_take (i := 10) (v := ?_) rfl (by kernel_rfl) (by kernel_rfl) (by kernel_rfl) (fun _ _ _ h => h) (Or.inl ⟨by rfl, ?_⟩) (by assumption) ?_; rotate_left; (· intro w5 hS5; (try dsimp only at hS5); go_simp <;> with_reducible rfl); (try simp only [List.getElem_toArray, List.getElem_cons_zero, List.getElem_cons_succ, Act.put, List.setIfInBounds_toArray, List.set_cons_zero, List.set_cons_succ]))
            (refine wpAnyH_take (i := 11) (v := ?_) rfl (by kernel_rfl) (by kernel_rfl) (by kernel_rfl) (fun _ _ _ h => h) (Or.inl ⟨by rfl, ?_⟩) (by assumption) ?_; rotate_left; (· intro w5 hS5; (try dsimp only at hS5); go_simp <;> with_reducible rfl); (try simp only [List.getElem_toArray, List.getElem_cons_zero, List.getElem_cons_succ, Act.put, List.setIfInBounds_toArray, List.set_cons_zero, List.set_cons_succ]))
            (refine wpAnyH_take (i := 12) (v := ?_) rfl (by kernel_rfl) (by kernel_rfl) (by kernel_rfl) (fun _ _ _ h => h) (Or.inl ⟨by rfl, ?_⟩) (by assumption) ?_; rotate_left; (· intro w5 hS5; (try dsimp only at hS5); go_simp <;> with_reducible rfl); (try simp only [List.getElem_toArray, List.getElem_cons_zero, List.getElem_cons_succ, Act.put, List.setIfInBounds_toArray, List.set_cons_zero, List.set_cons_succ]))
            (refine wpAnyH_take (i := 13) (v := ?_) rfl (by kernel_rfl) (by kernel_rfl) (by kernel_rfl) (fun _ _ _ h => h) (Or.inl ⟨by rfl, ?_⟩) (by assumption) ?_; rotate_left; (· intro w5 hS5; (try dsimp only at hS5); go_simp <;> with_reducible rfl); (try simp only [List.getElem_toArray, List.getElem_cons_zero, List.getElem_cons_succ, Act.put, List.setIfInBounds_toArray, List.set_cons_zero, List.set_cons_succ]))
            (refine wpAnyH_take (i := 14) (v := ?_) rfl (by kernel_rfl) (by kernel_rfl) (by kernel_rfl) (fun _ _ _ h => h) (Or.inl ⟨by rfl, ?_⟩) (by assumption) ?_; rotate_left; (· intro w5 hS5; (try dsimp only at hS5); go_simp <;> with_reducible rfl); (try simp only [List.getElem_toArray, List.getElem_cons_zero, List.getElem_cons_succ, Act.put, List.setIfInBounds_toArray, List.set_cons_zero, List.set_cons_succ]))
            (refine wpAnyH_take (i := 15) (v := ?_) rfl (by kernel_rfl) (by kernel_rfl) (by kernel_rfl) (fun _ _ _ h => h) (Or.inl ⟨by rfl, ?_⟩) (by assumption) ?_; rotate_left; (· intro w5 hS5; (try dsimp only at hS5); go_simp <;> with_reducible rfl); (try simp only [List.getElem_toArray, List.getElem_cons_zero, List.getElem_cons_succ, Act.put, List.setIfInBounds_toArray, List.set_cons_zero, List.set_cons_succ]))
            (refine wpAnyH_take (i := 16) (v := .agg (sv C R B F sl p q)) rfl (by kernel_rfl) (by kernel_rfl) (by kernel_rfl) (fun _ _ _ h => h) (yieldsIf_load_row (by rfl) 106 _ rfl _ rfl 106 _ (0, 0) _ (fun w5 hS5 => hS5.2.2.2) Try.underlying106 rfl (info106 _ _ _ _ _ _ _)) (by assumption) ?_; (try simp only [List.getElem_toArray, List.getElem_cons_zero, List.getElem_cons_succ, Act.put, List.setIfInBounds_toArray, List.set_cons_zero, List.set_cons_succ]))
            (refine wpAnyH_take (i := 17) (v := ?_) rfl (by kernel_rfl) (by kernel_rfl) (by kernel_rfl) (fun _ _ _ h => h) (Or.inl ⟨by rfl, ?_⟩) (by assumption) ?_; rotate_left; (· intro w5 hS5; (try dsimp only at hS5); go_simp <;> with_reducible rfl); (try simp only [List.getElem_toArray, List.getElem_cons_zero, List.getElem_cons_succ, Act.put, List.setIfInBounds_toArray, List.set_cons_zero, List.set_cons_succ]))
            (refine wpAnyH_ready (rs := [18]) (by kernel_rfl) (by simp) ?_; refine AllReadyH.cons rfl (fun K hK => ?_) AllReadyH.nil)
            go_simp
            refine (HH.out s lk E eap _ hs0 hs1 hlk hecap hemax (iE.behind (Below.refl _ _).drew) true (fun _ => rfl) (fun h => absurd HO.out h)).mono ?_
            rintro e w6 ⟨rfl, hb6'⟩
            have hb6 : Below (wr.alloc (.cells #[.int .i64 s, .slice E lk.length eap] 104)).heap.size (wr.alloc (.cells #[.int .i64 s, .slice E lk.length eap] 104)) w6 := (Below.refl _ _).drew.trans hb6'
            refine hK.out _ _ ⟨(hb6.cell (p := ⟨wr.heap.size, 0, none⟩) (by simp)).trans g0, (hb6.cell (p := ⟨wr.heap.size, 1, none⟩) (by simp)).trans g1, (hb6.cell (p := af.add k) (by rw [addr_block]; simp; omega)).trans hcf, kSr.below hb6 kSr.lt⟩ (fun hHeld => ?_)
            clear hK K
            (try simp only [List.getElem_toArray, List.getElem_cons_zero, List.getElem_cons_succ, Act.put, List.setIfInBounds_toArray, List.set_cons_zero, List.set_cons_succ])
            (refine wpAnyH_take (i := 19) (v := ?_) rfl (by kernel_rfl) (by kernel_rfl) (by kernel_rfl) (fun _ _ _ h => h) (Or.inl ⟨by rfl, ?_⟩) (by assumption) ?_; rotate_left; (· intro w5 hS5; (try dsimp only at hS5); go_simp <;> with_reducible rfl); (try simp only [List.getElem_toArray, List.getElem_cons_zero, List.getElem_cons_succ, Act.put, List.setIfInBounds_toArray, List.set_cons_zero, List.set_cons_succ]))
            (refine wpAnyH_take (i := 20) (v := ?_) rfl (by kernel_rfl) (by kernel_rfl) (by kernel_rfl) (fun _ _ _ h => h) (Or.inl ⟨by rfl, ?_⟩) (by assumption) ?_; rotate_left; (· intro w5 hS5; (try dsimp only at hS5); go_simp <;> with_reducible rfl); (try simp only [List.getElem_toArray, List.getElem_cons_zero, List.getElem_cons_succ, Act.put, List.setIfInBounds_toArray, List.set_cons_zero, List.set_cons_succ]))
            refine wpAnyH_done (by kernel_rfl) ?_ _
            clear hHeld
            go_wp2_with fail
            go_roundw
            case rel => exact ⟨k + 1, by omega, by go_num, HNX2, (hb.trans (hn4.mono hb.size)).trans (hb6.mono (by have := hb.size; simp; omega))⟩
            case measure => simp [intOf]; try omega
          · have HO := Lib.hid hhold
            have HR : Hid (res = false) := HN.out fun h => hhold (HAT.out h).2.2
            clear hhold
            go_wp2_with fail
            refine wp_region_held_drew (S := fun w' => w'.cell? ⟨wr.heap.size, 0, none⟩ = some (.int .i64 s) ∧ w'.cell? ⟨wr.heap.size, 1, none⟩ = some (.slice E lk.length eap) ∧ w'.cell? (af.add k) = some (.int .i64 fk) ∧ Blk w' w.heap.size 106 (sv C R B F sl p q)) (by kernel_rfl) ⟨g0, g1, hcf, kSr⟩ (fun hHeld => ?_)
            (refine wpAnyH_take (i := 0) (v := ?_) rfl (by kernel_rfl) (by kernel_rfl) (by kernel_rfl) (fun _ _ _ h => h) (Or.inl ⟨by rfl, ?_⟩) (by assumption) ?_; rotate_left; (· intro w5 hS5; (try dsimp only at hS5); go_simp <;> with_reducible rfl); (try simp only [List.getElem_toArray, List.getElem_cons_zero, List.getElem_cons_succ, Act.put, List.setIfInBounds_toArray, List.set_cons_zero, List.set_cons_succ]))
            (refine wpAnyH_take (i := 1) (v := ?_) rfl (by kernel_rfl) (by kernel_rfl) (by kernel_rfl) (fun _ _ _ h => h) (Or.inl ⟨by rfl, ?_⟩) (by assumption) ?_; rotate_left; (· intro w5 hS5; (try dsimp only at hS5); go_simp <;> with_reducible rfl); (try simp only [List.getElem_toArray, List.getElem_cons_zero, List.getElem_cons_succ, Act.put, List.setIfInBounds_toArray, List.set_cons_zero, List.set_cons_succ]))
            (refine wpAnyH_take (i := 2) (v := ?_) rfl (by kernel_rfl) (by kernel_rfl) (by kernel_rfl) (fun _ _ _ h => h) (Or.inl ⟨by rfl, ?_⟩) (by assumption) ?_; rotate_left; (· intro w5 hS5; (try dsimp only at hS5); go_simp <;> with_reducible rfl); (try simp only [List.getElem_toArray, List.getElem_cons_zero, List.getElem_cons_succ, Act.put, List.setIfInBounds_toArray, List.set_cons_zero, List.set_cons_succ]))
            (refine wpAnyH_take (i := 3) (v := ?_) rfl (by kernel_rfl) (by kernel_rfl) (by kernel_rfl) (fun _ _ _ h => h) (Or.inl ⟨by rfl, ?_⟩) (by assumption) ?_; rotate_left; (· intro w5 hS5; (try dsimp only at hS5); go_simp <;> with_reducible rfl); (try simp only [List.getElem_toArray, List.getElem_cons_zero, List.getElem_cons_succ, Act.put, List.setIfInBounds_toArray, List.set_cons_zero, List.set_cons_succ]))
            (refine wpAnyH_take (i := 4) (v := ?_) rfl (by kernel_rfl) (by kernel_rfl) (by kernel_rfl) (fun _ _ _ h => h) (Or.inl ⟨by rfl, ?_⟩) (by assumption) ?_; rotate_left; (· intro w5 hS5; (try dsimp only at hS5); go_simp <;> with_reducible rfl); (try simp only [List.getElem_toArray, List.getElem_cons_zero, List.getElem_cons_succ, Act.put, List.setIfInBounds_toArray, List.set_cons_zero, List.set_cons_succ]))
            (refine wpAnyH_take (i := 5) (v := ?_) rfl (by kernel_rfl) (by kernel_rfl) (by kernel_rfl) (fun _ _ _ h => h) (Or.inl ⟨by rfl, ?_⟩) (by assumption) ?_; rotate_left; (· intro w5 hS5; (try dsimp only at hS5); go_simp <;> with_reducible rfl); (try simp only [List.getElem_toArray, List.getElem_cons_zero, List.getElem_cons_succ, Act.put, List.setIfInBounds_toArray, List.set_cons_zero, List.set_cons_succ]))
            (refine wpAnyH_take (i := 6) (v := ?_) rfl (by kernel_rfl) (by kernel_rfl) (by kernel_rfl) (fun _ _ _ h => h) (Or.inl ⟨by rfl, ?_⟩) (by assumption) ?_; rotate_left; (· intro w5 hS5; (try dsimp only at hS5); go_simp <;> with_reducible rfl); (try simp only [List.getElem_toArray, List.getElem_cons_zero, List.getElem_cons_succ, Act.put, List.setIfInBounds_toArray, List.set_cons_zero, List.set_cons_succ]))
            (refine wpAnyH_take (i := 7) (v := ?_) rfl (by kernel_rfl) (by kernel_rfl) (by kernel_rfl) (fun _ _ _ h => h) (Or.inl ⟨by rfl, ?_⟩) (by assumption) ?_; rotate_left; (· intro w5 hS5; (try dsimp only at hS5); go_simp <;> with_reducible rfl); (try simp only [List.getElem_toArray, List.getElem_cons_zero, List.getElem_cons_succ, Act.put, List.setIfInBounds_toArray, List.set_cons_zero, List.set_cons_succ]))
            (refine wpAnyH_take (i := 8) (v := ?_) rfl (by kernel_rfl) (by kernel_rfl) (by kernel_rfl) (fun _ _ _ h => h) (Or.inl ⟨by rfl, ?_⟩) (by assumption) ?_; rotate_left; (· intro w5 hS5; (try dsimp only at hS5); go_simp <;> with_reducible rfl); (try simp only [List.getElem_toArray, List.getElem_cons_zero, List.getElem_cons_succ, Act.put, List.setIfInBounds_toArray, List.set_cons_zero, List.set_cons_succ]))
            (refine wpAnyH_take (i := 9) (v := ?_) rfl (by kernel_rfl) (by kernel_rfl) (by kernel_rfl) (fun _ _ _ h => h) (Or.inl ⟨by rfl, ?_⟩) (by assumption) ?_; rotate_left; (· intro w5 hS5; (try dsimp only at hS5); go_simp <;> with_reducible rfl); (try simp only [List.getElem_toArray, List.getElem_cons_zero, List.getElem_cons_succ, Act.put, List.setIfInBounds_toArray, List.set_cons_zero, List.set_cons_succ]))
            (refine wpAnyH_take (i := 10) (v := ?_) rfl (by kernel_rfl) (by kernel_rfl) (by kernel_rfl) (fun _ _ _ h => h) (Or.inl ⟨by rfl, ?_⟩) (by assumption) ?_; rotate_left; (· intro w5 hS5; (try dsimp only at hS5); go_simp <;> with_reducible rfl); (try simp only [List.getElem_toArray, List.getElem_cons_zero, List.getElem_cons_succ, Act.put, List.setIfInBounds_toArray, List.set_cons_zero, List.set_cons_succ]))
            (refine wpAnyH_take (i := 11) (v := ?_) rfl (by kernel_rfl) (by kernel_rfl) (by kernel_rfl) (fun _ _ _ h => h) (Or.inl ⟨by rfl, ?_⟩) (by assumption) ?_; rotate_left; (· intro w5 hS5; (try dsimp only at hS5); go_simp <;> with_reducible rfl); (try simp only [List.getElem_toArray, List.getElem_cons_zero, List.getElem_cons_succ, Act.put, List.setIfInBounds_toArray, List.set_cons_zero, List.set_cons_succ]))
            (refine wpAnyH_take (i := 12) (v := ?_) rfl (by kernel_rfl) (by kernel_rfl) (by kernel_rfl) (fun _ _ _ h => h) (Or.inl ⟨by rfl, ?_⟩) (by assumption) ?_; rotate_left; (· intro w5 hS5; (try dsimp only at hS5); go_simp <;> with_reducible rfl); (try simp only [List.getElem_toArray, List.getElem_cons_zero, List.getElem_cons_succ, Act.put, List.setIfInBounds_toArray, List.set_cons_zero, List.set_cons_succ]))
            (refine wpAnyH_take (i := 13) (v := ?_) rfl (by kernel_rfl) (by kernel_rfl) (by kernel_rfl) (fun _ _ _ h => h) (Or.inl ⟨by rfl, ?_⟩) (by assumption) ?_; rotate_left; (· intro w5 hS5; (try dsimp only at hS5); go_simp <;> with_reducible rfl); (try simp only [List.getElem_toArray, List.getElem_cons_zero, List.getElem_cons_succ, Act.put, List.setIfInBounds_toArray, List.set_cons_zero, List.set_cons_succ]))
            (refine wpAnyH_take (i := 14) (v := ?_) rfl (by kernel_rfl) (by kernel_rfl) (by kernel_rfl) (fun _ _ _ h => h) (Or.inl ⟨by rfl, ?_⟩) (by assumption) ?_; rotate_left; (· intro w5 hS5; (try dsimp only at hS5); go_simp <;> with_reducible rfl); (try simp only [List.getElem_toArray, List.getElem_cons_zero, List.getElem_cons_succ, Act.put, List.setIfInBounds_toArray, List.set_cons_zero, List.set_cons_succ]))
            (refine wpAnyH_take (i := 15) (v := ?_) rfl (by kernel_rfl) (by kernel_rfl) (by kernel_rfl) (fun _ _ _ h => h) (Or.inl ⟨by rfl, ?_⟩) (by assumption) ?_; rotate_left; (· intro w5 hS5; (try dsimp only at hS5); go_simp <;> with_reducible rfl); (try simp only [List.getElem_toArray, List.getElem_cons_zero, List.getElem_cons_succ, Act.put, List.setIfInBounds_toArray, List.set_cons_zero, List.set_cons_succ]))
            (refine wpAnyH_take (i := 16) (v := .agg (sv C R B F sl p q)) rfl (by kernel_rfl) (by kernel_rfl) (by kernel_rfl) (fun _ _ _ h => h) (yieldsIf_load_row (by rfl) 106 _ rfl _ rfl 106 _ (0, 0) _ (fun w5 hS5 => hS5.2.2.2) Try.underlying106 rfl (info106 _ _ _ _ _ _ _)) (by assumption) ?_; (try simp only [List.getElem_toArray, List.getElem_cons_zero, List.getElem_cons_succ, Act.put, List.setIfInBounds_toArray, List.set_cons_zero, List.set_cons_succ]))
            (refine wpAnyH_take (i := 17) (v := ?_) rfl (by kernel_rfl) (by kernel_rfl) (by kernel_rfl) (fun _ _ _ h => h) (Or.inl ⟨by rfl, ?_⟩) (by assumption) ?_; rotate_left; (· intro w5 hS5; (try dsimp only at hS5); go_simp <;> with_reducible rfl); (try simp only [List.getElem_toArray, List.getElem_cons_zero, List.getElem_cons_succ, Act.put, List.setIfInBounds_toArray, List.set_cons_zero, List.set_cons_succ]))
            (refine wpAnyH_ready (rs := [18]) (by kernel_rfl) (by simp) ?_; refine AllReadyH.cons rfl (fun K hK => ?_) AllReadyH.nil)
            go_simp
            refine (HH.out s lk E eap _ hs0 hs1 hlk hecap hemax (iE.behind (Below.refl _ _).drew) false (fun h => absurd h HO.out) (fun _ => rfl)).mono ?_
            rintro e w6 ⟨rfl, hb6'⟩
            have hb6 : Below (wr.alloc (.cells #[.int .i64 s, .slice E lk.length eap] 104)).heap.size (wr.alloc (.cells #[.int .i64 s, .slice E lk.length eap] 104)) w6 := (Below.refl _ _).drew.trans hb6'
            refine hK.out _ _ ⟨(hb6.cell (p := ⟨wr.heap.size, 0, none⟩) (by simp)).trans g0, (hb6.cell (p := ⟨wr.heap.size, 1, none⟩) (by simp)).trans g1, (hb6.cell (p := af.add k) (by rw [addr_block]; simp; omega)).trans hcf, kSr.below hb6 kSr.lt⟩ (fun hHeld => ?_)
            clear hK K
            (try simp only [List.getElem_toArray, List.getElem_cons_zero, List.getElem_cons_succ, Act.put, List.setIfInBounds_toArray, List.set_cons_zero, List.set_cons_succ])
            (refine wpAnyH_take (i := 19) (v := ?_) rfl (by kernel_rfl) (by kernel_rfl) (by kernel_rfl) (fun _ _ _ h => h) (Or.inl ⟨by rfl, ?_⟩) (by assumption) ?_; rotate_left; (· intro w5 hS5; (try dsimp only at hS5); go_simp <;> with_reducible rfl); (try simp only [List.getElem_toArray, List.getElem_cons_zero, List.getElem_cons_succ, Act.put, List.setIfInBounds_toArray, List.set_cons_zero, List.set_cons_succ]))
            (refine wpAnyH_take (i := 20) (v := ?_) rfl (by kernel_rfl) (by kernel_rfl) (by kernel_rfl) (fun _ _ _ h => h) (Or.inl ⟨by rfl, ?_⟩) (by assumption) ?_; rotate_left; (· intro w5 hS5; (try dsimp only at hS5); go_simp <;> with_reducible rfl); (try simp only [List.getElem_toArray, List.getElem_cons_zero, List.getElem_cons_succ, Act.put, List.setIfInBounds_toArray, List.set_cons_zero, List.set_cons_succ]))
            refine wpAnyH_done (by kernel_rfl) ?_ _
            clear hHeld
            go_wp2_with fail
            go_ret
            exact ⟨ret_bool HR.out.symm, below_next bwn bwn.size hb6⟩
        · have e9 : ((lk.length : Int) == n - 1) = false := beq_eq_false_iff_ne.2 hln
          have e10 : ((lk.length : Int) != n - 1) = true := by simp [bne, e9]
          have HR : Hid (res = false) := HN.out fun h => hln (HAT.out h).2.1
          clear hln
          go_wp2_with fail
          go_quiet (fail)
          go_wp2_with fail
          go_ret
          exact ⟨ret_bool HR.out.symm, below_drewN bwn _⟩
      · have e7 : (s == fk) = false := beq_eq_false_iff_ne.2 hs
        have e8 : (s != fk) = true := by simp [bne, e7]
        have HR : Hid (res = false) := HN.out fun h => hs (HAT.out h).1
        clear hs
        go_wp2_with fail
        go_quiet (fail)
        go_wp2_with fail
        go_ret
        exact ⟨ret_bool HR.out.symm, below_drewN bwn _⟩
    · have HR : Hid (res = true) := HY.out ⟨HLN.out, fun j hj1 hj2 => hall.out j (by omega) hj1 hj2⟩
      clear hall
      go_wp2_with fail
      go_ret
      exact ⟨ret_bool HR.out.symm, bw⟩

end Go.Proofs.Ytnjmkdgglpcfpaa
