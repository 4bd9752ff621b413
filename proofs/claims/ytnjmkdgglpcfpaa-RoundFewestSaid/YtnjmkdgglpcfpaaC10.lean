import Derived.Test.YtnjmkdgglpcfpaaA20
namespace Go.Proofs.Ytnjmkdgglpcfpaa
set_option linter.unusedSimpArgs false
set_option linter.unusedVariables false
open Go.RowKit

/-- columns that are a cut from a stand -/
structure HoldsP (C B F : Int) (p q : Nat → Bool) (s : Int) (l : List Int) : Prop where
  rise : Rise C l
  all : ∀ x ∈ l, q x.toNat = true ∧ rch C B F s x = false
  pair : l.Pairwise (fun y x => tog C B F p x y = false)
section
variable {C B F : Int} {p q : Nat → Bool} {s : Int} {l : List Int}
theorem HoldsP.nil : HoldsP C B F p q s [] := ⟨Rise.nil, by simp, List.Pairwise.nil⟩
theorem HoldsP.next {k : Nat} (hk : k < l.length) (h : HoldsP C B F p q s (l.take k)) (c1 : 0 ≤ l[k]) (c2 : l[k] < C) (c3 : q l[k].toNat = true) (c4 : rch C B F s l[k] = false) (c5 : ∀ (h0 : 0 < k), l[k - 1]'(by omega) < l[k]) (c6 : ∀ (j : Nat) (hj : j < k), tog C B F p l[k] (l[j]'(by omega)) = false) :
    HoldsP C B F p q s (l.take (k + 1)) := by
  refine ⟨?_, ?_, ?_⟩
  · by_cases h0 : 0 < k
    · exact rise_next hk h0 h.rise c1 c2 (c5 h0)
    · obtain rfl : k = 0 := by omega
      exact rise_first hk c1 c2
  · intro x hx
    rw [List.take_succ_eq_append_getElem hk] at hx
    rcases List.mem_append.1 hx with hx | hx
    · exact h.all x hx
    · rw [List.mem_singleton.1 hx]; exact ⟨c3, c4⟩
  · rw [List.take_succ_eq_append_getElem hk, List.pairwise_append]
    refine ⟨h.pair, List.pairwise_singleton _ _, fun a ha b hb => ?_⟩
    rw [List.mem_singleton.1 hb]
    obtain ⟨j, hj, rfl⟩ := List.mem_iff_getElem.1 ha
    have hj' : j < k := by simp at hj; omega
    rw [List.getElem_take]
    exact c6 j hj'
theorem HoldsP.at (h : HoldsP C B F p q s l) {k : Nat} (hk : k < l.length) : 0 ≤ l[k] ∧ l[k] < C ∧ q l[k].toNat = true ∧ rch C B F s l[k] = false ∧ (∀ (h0 : 0 < k), l[k - 1]'(by omega) < l[k]) ∧ (∀ (j : Nat) (hj : j < k), tog C B F p l[k] (l[j]'(by omega)) = false) :=
  ⟨(h.rise.at hk).1, (h.rise.at hk).2, (h.all _ (List.getElem_mem hk)).1, (h.all _ (List.getElem_mem hk)).2, fun h0 => h.rise.step hk h0, fun j hj => List.pairwise_iff_getElem.1 h.pair j k (by omega) hk hj⟩
end

set_option maxRecDepth 100000 in
set_option maxHeartbeats 4000000 in
theorem holds115_loop (C R B F : Int) (sl : Value) (p q : Nat → Bool) (s : Int) (E : Option Addr) (eap : Nat) (l : List Int) (w : World) (h1 : 1 ≤ C) (h2 : C ≤ 120) (h7 : 0 ≤ B) (h8 : 0 ≤ F) (h9 : F < C - B) (hs0 : 0 ≤ s) (hs1 : s < C) (hll : l.length ≤ 1000) (hcap : l.length ≤ eap) (hcm : eap ≤ maxLen) (hl : Ints w w.heap.size E l) (res : Bool)
    (HY : Hid (HoldsP C B F p q s l → res = true)) (HN : Hid (¬ HoldsP C B F p q s l → res = false)) :
    Calls Try.prog 115 #[.agg (sv C R B F sl p q), .agg #[.int .i64 s, .slice E l.length eap]] w fun e w' => e = .returned (.bool res) ∧ Below w.heap.size w w' := by
  have hb0 : Below w.heap.size w ((w.alloc (.cells (sv C R B F sl p q) 106)).alloc (.cells #[.int .i64 s, .slice E l.length eap] 104)) := (below_new w (.cells (sv C R B F sl p q) 106)).alloc (by simp) _
  have kS0 : Blk ((w.alloc (.cells (sv C R B F sl p q) 106)).alloc (.cells #[.int .i64 s, .slice E l.length eap] 104)) w.heap.size 106 (sv C R B F sl p q) := (Blk.new _ _ _).alloc _
  have kC0 : Blk ((w.alloc (.cells (sv C R B F sl p q) 106)).alloc (.cells #[.int .i64 s, .slice E l.length eap] 104)) (w.heap.size + 1) 104 #[.int .i64 s, .slice E l.length eap] := Blk.newAt (by simp)
  have c1 := kC0.cell 1
  go_enter Try.func115, Try.ntmps115
  go_wp2_with fail
  obtain ⟨w1, hw1⟩ : ∃ w1, ((w.alloc (.cells (sv C R B F sl p q) 106)).alloc (.cells #[.int .i64 s, .slice E l.length eap] 104)) = w1 := ⟨_, rfl⟩
  have hz : w1.heap.size = w.heap.size + 1 + 1 := by rw [← hw1]; simp
  rw [hw1] at hb0 kS0 kC0 ⊢
  clear hw1 c1
  go_loopw [12] (fun i wr => ∃ k : Nat, k ≤ l.length ∧ i = .int .i64 k ∧ Hid (HoldsP C B F p q s (l.take k)) ∧ Below w1.heap.size w1 wr)
    (fun i _ => l.length - (intOf i).toNat)
  case atStart => exact ⟨0, Nat.zero_le _, rfl, HoldsP.nil, Below.refl _ _⟩
  case round =>
    obtain ⟨k, hk, rfl, hall, hb⟩ := hrel
    have bw := below_next hb0 hb0.size hb
    have kS := kS0.below hb kS0.lt
    have kC := kC0.below hb kC0.lt
    obtain ⟨d0, d1, d2, d3, d4⟩ := kS.svFive
    have c0 := kC.cell 0
    have c1 := kC.cell 1
    have hzr := hb.size
    by_cases hlt : k < l.length
    · obtain ⟨ad, hE, hBd, hc⟩ := (hl.below bw).get hlt
      subst hE
      have hlt2 : (k : Int) < (l.length : Int) := by omega
      have hat : HoldsP C B F p q s l → _ := fun hh => hh.at hlt
      by_cases hx : 0 ≤ l[k] ∧ l[k] < C
      · have D1 : Hid (decide (0 ≤ l[k] ∧ l[k] < C) = true) := decide_eq_true hx
        obtain ⟨m, hm⟩ := Int.eq_ofNat_of_zero_le hx.1
        have hm3 : m < 120 := by omega
        have hq := kS.svWanted m hm3
        rw [hm] at hc D1
        have HM := Lib.hid hm
        have hx0 := hx.1
        have hx1 := hx.2
        rw [hm] at hx0 hx1
        by_cases hqm : q m = true
        · rw [hqm] at hq
          cases hr : rch C B F s m with
          | true =>
            have HR := Lib.hid hr
            have HF : Hid (res = false) := HN.out fun hh => by have := (hat hh).2.2.2.1; rw [HM.out, hr] at this; cases this
            clear hr hm hx hat
            go_wp2_with (first
              | (go_at_call 74; refine (isColumn_any C R B F _ m _).mono ?_; rw [D1.out]; rintro e w2 ⟨rfl, hb2⟩; have bw2 := below_next bw bw.size hb2; have kS2 := kS.below hb2 kS.lt; have kC2 := kC.below hb2 kC.lt; clear d0 d1 d2 d3 d4 hq c0 c1; obtain ⟨d0, d1, d2, d3, d4⟩ := kS2.svFive; have c0 := kC2.cell 0; have hq := kS2.svWanted m hm3; rw [hqm] at hq)
              | (go_at_call 109; refine (reaches_any C R B F _ s m _ h1 h2 hx0 hx1 hs0 hs1 h7 h8 h9).mono ?_; rw [HR.out]; rintro e w3 ⟨rfl, hb3⟩; have bw3 := below_next bw2 bw2.size hb3))
            go_ret
            exact ⟨ret_bool HF.out.symm, bw3⟩
          | false =>
            have HR := Lib.hid hr
            have hcp : Ints wr w.heap.size (some ad) l := hl.below bw
            have hkc : (k : Int) ≤ (eap : Int) := by omega
            by_cases h0 : 0 < k
            · obtain ⟨ad', e', _, hcq⟩ := hcp.get (k := k - 1) (by omega)
              cases e'
              have g1 : (0 : Int) < (k : Int) := by omega
              have g2 : decide ((0 : Int) < (k : Int)) = true := decide_eq_true g1
              have g3 : ((k : Int) - 1).toNat = k - 1 := by omega
              have g4 : IntKind.i64.wrap ((k : Int) - 1) = (k : Int) - 1 := IntWalk.i64_in _ (by omega)
              have g7 : (k : Int) - 1 < (l.length : Int) := by omega
              by_cases hpr : (m : Int) ≤ l[k - 1]
              · have HF : Hid (res = false) := HN.out fun hh => by have := (hat hh).2.2.2.2.1 h0; rw [HM.out] at this; omega
                have g6 : decide ((m : Int) ≤ l[k - 1]) = true := decide_eq_true hpr
                clear hr hm hx hat
                generalize l[k - 1] = y at *
                go_wp2_with (first
                  | (go_at_call 74; refine (isColumn_any C R B F _ m _).mono ?_; rw [D1.out]; rintro e w2 ⟨rfl, hb2⟩; have bw2 := below_next bw bw.size hb2; have kS2 := kS.below hb2 kS.lt; have kC2 := kC.below hb2 kC.lt; clear d0 d1 d2 d3 d4 hq c0 c1; obtain ⟨d0, d1, d2, d3, d4⟩ := kS2.svFive; have c0 := kC2.cell 0; have c1 := kC2.cell 1; have hq := kS2.svWanted m hm3; rw [hqm] at hq)
                  | (go_at_call 109; refine (reaches_any C R B F _ s m _ h1 h2 hx0 hx1 hs0 hs1 h7 h8 h9).mono ?_; rw [HR.out]; rintro e w3 ⟨rfl, hb3⟩; have bw3 := below_next bw2 bw2.size hb3; have kS3 := kS2.below hb3 kS2.lt; have kC3 := kC2.below hb3 kC2.lt; clear d0 d1 d2 d3 d4 hq c0 c1; have c1 := kC3.cell 1; have hcq3 := (hb3.cell (p := ad.add (k - 1)) (by have := hb2.size; rw [addr_block]; omega)).trans ((hb2.cell (p := ad.add (k - 1)) (by rw [addr_block]; omega)).trans hcq)))
                go_ret
                exact ⟨ret_bool HF.out.symm, bw3⟩
              · have g6 : decide ((m : Int) ≤ l[k - 1]) = false := decide_eq_false hpr
                have HPr : Hid (l[k - 1] < (m : Int)) := by unfold Hid; omega
                clear hr hm hx
                obtain ⟨y, hy⟩ : ∃ y, l[k - 1] = y := ⟨_, rfl⟩
                rw [hy] at g6 hpr hcq
                go_wp2_with (first
                  | (go_at_call 74; refine (isColumn_any C R B F _ m _).mono ?_; rw [D1.out]; rintro e w2 ⟨rfl, hb2⟩; have bw2 := below_next bw bw.size hb2; have kS2 := kS.below hb2 kS.lt; have kC2 := kC.below hb2 kC.lt; clear d0 d1 d2 d3 d4 hq c0 c1; obtain ⟨d0, d1, d2, d3, d4⟩ := kS2.svFive; have c0 := kC2.cell 0; have c1 := kC2.cell 1; have hq := kS2.svWanted m hm3; rw [hqm] at hq)
                  | (go_at_call 109; refine (reaches_any C R B F _ s m _ h1 h2 hx0 hx1 hs0 hs1 h7 h8 h9).mono ?_; rw [HR.out]; rintro e w3 ⟨rfl, hb3⟩; have bw3 := below_next bw2 bw2.size hb3; have kS3 := kS2.below hb3 kS2.lt; have kC3 := kC2.below hb3 kC2.lt; clear d0 d1 d2 d3 d4 hq c0 c1; have c1 := kC3.cell 1; have hcq3 := (hb3.cell (p := ad.add (k - 1)) (by have := hb2.size; rw [addr_block]; omega)).trans ((hb2.cell (p := ad.add (k - 1)) (by rw [addr_block]; omega)).trans hcq)))
                have hcp3 : Ints w3 w.heap.size (some ad) l := hcp.below ((hb2.trans (hb3.mono hb2.size)).mono bw.size)
                have hz23 := Nat.le_trans hb2.size hb3.size
                have hb23 := hb.trans ((hb2.trans (hb3.mono hb2.size)).mono hzr)
                have hhr := hall.out.rise
                clear hc
                go_loopw [54] (fun j wr => ∃ jn : Nat, jn ≤ k ∧ j = .int .i64 jn ∧ Hid (∀ (j' : Nat) (_ : j' < jn) (hj2 : j' < l.length), tog C B F p m (l[j']) = false) ∧ Below w3.heap.size w3 wr)
                  (fun j _ => k - (intOf j).toNat)
                case atStart => exact ⟨0, Nat.zero_le _, rfl, (by unfold Hid; intro j' hj; omega), Below.refl _ _⟩
                case round =>
                  obtain ⟨j, hjk, rfl, hto, hbj⟩ := hrel
                  have kSj := kS3.below hbj kS3.lt
                  have bwj := below_next bw3 bw3.size hbj
                  by_cases hjl : j < k
                  · obtain ⟨ad2, e2, _, hcj⟩ := (hcp3.below (hbj.mono bw3.size)).get (k := j) (by omega)
                    cases e2
                    have hjr : 0 ≤ l[j] ∧ l[j] < C := hhr.2 l[j] (by rw [List.mem_take_iff_getElem]; exact ⟨j, by omega, rfl⟩)
                    have hjki : (j : Int) < (k : Int) := by omega
                    obtain ⟨y2, hy2⟩ : ∃ y, l[j] = y := ⟨_, rfl⟩
                    rw [hy2] at hcj hjr
                    cases ht : tog C B F p m y2 with
                    | true =>
                      have HT := Lib.hid ht
                      have HF : Hid (res = false) := HN.out fun hh => by have := (hat hh).2.2.2.2.2 j hjl; rw [HM.out, hy2, ht] at this; cases this
                      clear ht
                      go_wp2_with (first
                        | (refine wpList_load_row (by rfl) 106 _ (by rfl) _ (by rfl) 106 _ (0, 0) _ kSj Try.underlying106 rfl (info106 _ _ _ _ _ _ _) ?_)
                        | (go_at_call 114; refine (together_any C R B F sl p q m y2 _ h1 h2 hx0 hx1 hjr.1 hjr.2 h7 h8 h9).mono ?_; rw [HT.out]; rintro e w5 ⟨rfl, hb5⟩; have bw5 := below_next bwj bwj.size hb5))
                      go_ret
                      exact ⟨ret_bool HF.out.symm, bw5⟩
                    | false =>
                      have HT := Lib.hid ht
                      have hto2 : Hid (∀ (j' : Nat) (_ : j' < j + 1) (hj2 : j' < l.length), tog C B F p m (l[j']) = false) := by
                        intro j' hj' hj2
                        rcases Nat.lt_or_ge j' j with h | h
                        · exact hto.out j' h hj2
                        · obtain rfl : j' = j := by omega
                          rw [hy2]; exact ht
                      clear ht hto
                      go_wp2_with (first
                        | (refine wpList_load_row (by rfl) 106 _ (by rfl) _ (by rfl) 106 _ (0, 0) _ kSj Try.underlying106 rfl (info106 _ _ _ _ _ _ _) ?_)
                        | (go_at_call 114; refine (together_any C R B F sl p q m y2 _ h1 h2 hx0 hx1 hjr.1 hjr.2 h7 h8 h9).mono ?_; rw [HT.out]; rintro e w5 ⟨rfl, hb5⟩))
                      go_roundw
                      case rel => exact ⟨j + 1, by omega, by go_num, hto2, below_next hbj hbj.size hb5⟩
                      case measure => simp [intOf]; try omega
                  · obtain rfl : j = k := by omega
                    have hnext : Hid (HoldsP C B F p q s (l.take (j + 1))) := by
                      have hmm := HM.out
                      exact HoldsP.next hlt hall.out (by rw [hmm]; exact hx0) (by rw [hmm]; exact hx1) (by rw [hmm]; simpa using hqm) (by rw [hmm]; exact HR.out) (fun h0' => by rw [hmm]; exact HPr.out) (fun j' hj' => by rw [hmm]; exact hto.out j' hj' (by omega))
                    clear hto hat
                    go_wp2_with fail
                    go_roundw
                    case rel => exact ⟨j + 1, by omega, by go_num, hnext, hb23.trans (hbj.mono (Nat.le_trans hzr hz23))⟩
                    case measure => simp [intOf]; try omega
            · have g1 : ¬ (0 : Int) < (k : Int) := by omega
              have g2 : decide ((0 : Int) < (k : Int)) = false := decide_eq_false g1
              clear hr hm hx
              go_wp2_with (first
                | (go_at_call 74; refine (isColumn_any C R B F _ m _).mono ?_; rw [D1.out]; rintro e w2 ⟨rfl, hb2⟩; have bw2 := below_next bw bw.size hb2; have kS2 := kS.below hb2 kS.lt; have kC2 := kC.below hb2 kC.lt; clear d0 d1 d2 d3 d4 hq c0 c1; obtain ⟨d0, d1, d2, d3, d4⟩ := kS2.svFive; have c0 := kC2.cell 0; have c1 := kC2.cell 1; have hq := kS2.svWanted m hm3; rw [hqm] at hq)
                | (go_at_call 109; refine (reaches_any C R B F _ s m _ h1 h2 hx0 hx1 hs0 hs1 h7 h8 h9).mono ?_; rw [HR.out]; rintro e w3 ⟨rfl, hb3⟩; have bw3 := below_next bw2 bw2.size hb3; have kS3 := kS2.below hb3 kS2.lt; have kC3 := kC2.below hb3 kC2.lt; clear d0 d1 d2 d3 d4 hq c0 c1; have c1 := kC3.cell 1))
              have hcp3 : Ints w3 w.heap.size (some ad) l := hcp.below ((hb2.trans (hb3.mono hb2.size)).mono bw.size)
              have hz23 := Nat.le_trans hb2.size hb3.size
              have hb23 := hb.trans ((hb2.trans (hb3.mono hb2.size)).mono hzr)
              have hhr := hall.out.rise
              clear hc
              go_loopw [54] (fun j wr => ∃ jn : Nat, jn ≤ k ∧ j = .int .i64 jn ∧ Hid (∀ (j' : Nat) (_ : j' < jn) (hj2 : j' < l.length), tog C B F p m (l[j']) = false) ∧ Below w3.heap.size w3 wr)
                (fun j _ => k - (intOf j).toNat)
              case atStart => exact ⟨0, Nat.zero_le _, rfl, (by unfold Hid; intro j' hj; omega), Below.refl _ _⟩
              case round =>
                obtain ⟨j, hjk, rfl, hto, hbj⟩ := hrel
                have kSj := kS3.below hbj kS3.lt
                have bwj := below_next bw3 bw3.size hbj
                by_cases hjl : j < k
                · obtain ⟨ad2, e2, _, hcj⟩ := (hcp3.below (hbj.mono bw3.size)).get (k := j) (by omega)
                  cases e2
                  have hjr : 0 ≤ l[j] ∧ l[j] < C := hhr.2 l[j] (by rw [List.mem_take_iff_getElem]; exact ⟨j, by omega, rfl⟩)
                  have hjki : (j : Int) < (k : Int) := by omega
                  obtain ⟨y2, hy2⟩ : ∃ y, l[j] = y := ⟨_, rfl⟩
                  rw [hy2] at hcj hjr
                  cases ht : tog C B F p m y2 with
                  | true =>
                    have HT := Lib.hid ht
                    have HF : Hid (res = false) := HN.out fun hh => by have := (hat hh).2.2.2.2.2 j hjl; rw [HM.out, hy2, ht] at this; cases this
                    clear ht
                    go_wp2_with (first
                      | (refine wpList_load_row (by rfl) 106 _ (by rfl) _ (by rfl) 106 _ (0, 0) _ kSj Try.underlying106 rfl (info106 _ _ _ _ _ _ _) ?_)
                      | (go_at_call 114; refine (together_any C R B F sl p q m y2 _ h1 h2 hx0 hx1 hjr.1 hjr.2 h7 h8 h9).mono ?_; rw [HT.out]; rintro e w5 ⟨rfl, hb5⟩; have bw5 := below_next bwj bwj.size hb5))
                    go_ret
                    exact ⟨ret_bool HF.out.symm, bw5⟩
                  | false =>
                    have HT := Lib.hid ht
                    have hto2 : Hid (∀ (j' : Nat) (_ : j' < j + 1) (hj2 : j' < l.length), tog C B F p m (l[j']) = false) := by
                      intro j' hj' hj2
                      rcases Nat.lt_or_ge j' j with h | h
                      · exact hto.out j' h hj2
                      · obtain rfl : j' = j := by omega
                        rw [hy2]; exact ht
                    clear ht hto
                    go_wp2_with (first
                      | (refine wpList_load_row (by rfl) 106 _ (by rfl) _ (by rfl) 106 _ (0, 0) _ kSj Try.underlying106 rfl (info106 _ _ _ _ _ _ _) ?_)
                      | (go_at_call 114; refine (together_any C R B F sl p q m y2 _ h1 h2 hx0 hx1 hjr.1 hjr.2 h7 h8 h9).mono ?_; rw [HT.out]; rintro e w5 ⟨rfl, hb5⟩))
                    go_roundw
                    case rel => exact ⟨j + 1, by omega, by go_num, hto2, below_next hbj hbj.size hb5⟩
                    case measure => simp [intOf]; try omega
                · obtain rfl : j = k := by omega
                  have hnext : Hid (HoldsP C B F p q s (l.take (j + 1))) := by
                    have hmm := HM.out
                    exact HoldsP.next hlt hall.out (by rw [hmm]; exact hx0) (by rw [hmm]; exact hx1) (by rw [hmm]; simpa using hqm) (by rw [hmm]; exact HR.out) (fun h0' => by rw [hmm]; omega) (fun j' hj' => by rw [hmm]; exact hto.out j' hj' (by omega))
                  clear hto hat
                  go_wp2_with fail
                  go_roundw
                  case rel => exact ⟨j + 1, by omega, by go_num, hnext, hb23.trans (hbj.mono (Nat.le_trans hzr hz23))⟩
                  case measure => simp [intOf]; try omega
        · have hqf : q m = false := by simpa using hqm
          rw [hqf] at hq
          have HF : Hid (res = false) := HN.out fun hh => by have := (hat hh).2.2.1; rw [HM.out] at this; exact hqm this
          clear hm hx hat hqm
          go_wp2_with (first
            | (go_at_call 74; refine (isColumn_any C R B F _ m _).mono ?_; rw [D1.out]; rintro e w2 ⟨rfl, hb2⟩; have bw2 := below_next bw bw.size hb2; have kS2 := kS.below hb2 kS.lt; clear d0 d1 d2 d3 d4 hq c0 c1; have hq := kS2.svWanted m hm3; rw [hqf] at hq))
          go_ret
          exact ⟨ret_bool HF.out.symm, bw2⟩
      · have D1 : Hid (decide (0 ≤ l[k] ∧ l[k] < C) = false) := decide_eq_false hx
        have HF : Hid (res = false) := HN.out fun hh => hx ⟨(hat hh).1, (hat hh).2.1⟩
        clear hx hat
        go_wp2_with (first
          | (go_at_call 74; refine (isColumn_any C R B F _ l[k] _).mono ?_; rw [D1.out]; rintro e w2 ⟨rfl, hb2⟩; have bw2 := below_next bw bw.size hb2))
        go_ret
        exact ⟨ret_bool HF.out.symm, bw2⟩
    · have ek : l.take k = l := List.take_of_length_le (by omega)
      have HF : Hid (res = true) := HY.out (by have := hall.out; rwa [ek] at this)
      clear ek hall
      go_wp2_with fail
      go_ret
      exact ⟨ret_bool HF.out.symm, bw⟩

end Go.Proofs.Ytnjmkdgglpcfpaa
