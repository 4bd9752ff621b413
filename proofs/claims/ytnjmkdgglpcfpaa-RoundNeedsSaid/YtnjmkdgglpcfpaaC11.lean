import Derived.Test.YtnjmkdgglpcfpaaC9
import Derived.Test.YtnjmkdgglpcfpaaM4
namespace Go.Proofs.Ytnjmkdgglpcfpaa
set_option linter.unusedSimpArgs false
set_option linter.unusedVariables false
open Go.RowKit

theorem shutL_mem {C : Int} {cl : List Int} {s x : Int} (h0 : 0 ≤ C) : x ∈ shutL C cl s ↔ (0 ≤ x ∧ x < C) ∧ (x ∈ cl ∨ x = s) := by
  unfold shutL
  rw [colsTo_mem]
  constructor
  · rintro ⟨i, hi, hp, rfl⟩
    refine ⟨⟨by omega, by omega⟩, ?_⟩
    simpa [isIn] using hp
  · rintro ⟨⟨h1, h2⟩, h3⟩
    refine ⟨x.toNat, by omega, ?_, by omega⟩
    have : ((x.toNat : Nat) : Int) = x := by omega
    simp [isIn, this, h3]
theorem shutL_len {C : Int} {cl : List Int} {s : Int} : (shutL C cl s).length ≤ C.toNat := colsTo_len _ _
theorem shutsL_snoc {C : Int} {cl st : List Int} {s : Int} : shutsL C cl (st ++ [s]) = shutL C (shutsL C cl st) s := by simp [shutsL]
theorem shutsL_spec {C : Int} {cl : List Int} (h0 : 0 ≤ C) (hr : Rise C cl) : ∀ (r st : List Int), r.reverse = st → (∀ x ∈ st, 0 ≤ x ∧ x < C) → Rise C (shutsL C cl st) ∧ ∀ x, x ∈ shutsL C cl st ↔ x ∈ cl ∨ x ∈ st
  | [], st, e, _ => by subst e; exact ⟨hr, by simp [shutsL]⟩
  | s :: r, st, e, hs => by
    rw [List.reverse_cons] at e
    subst e
    obtain ⟨h1, h2⟩ := shutsL_spec h0 hr r r.reverse rfl (fun x hx => hs x (by simp at hx ⊢; exact .inl hx))
    have hss := hs s (by simp)
    rw [shutsL_snoc]
    refine ⟨⟨colsTo_rise _ _, fun x hx => ((shutL_mem h0).1 hx).1⟩, fun x => ?_⟩
    rw [shutL_mem h0, h2]
    constructor
    · rintro ⟨_, (h | h) | h⟩
      · exact .inl h
      · exact .inr (List.mem_append.2 (.inl h))
      · exact .inr (List.mem_append.2 (.inr (by simp [h])))
    · rintro (h | h)
      · exact ⟨hr.2 x h, .inl (.inl h)⟩
      · refine ⟨hs x h, ?_⟩
        rcases List.mem_append.1 h with h | h
        · exact .inl (.inr h)
        · exact .inr (by simpa using h)
theorem shutsL_same {C R B F : Int} {cl st : List Int} (h : Ok C R B F cl) (hs : ∀ x ∈ st, 0 ≤ x ∧ x < C) : shutsL C cl st = clL cl st := by
  obtain ⟨h1, h2⟩ := shutsL_spec (by have := h.c3; omega) h.rise st.reverse st (List.reverse_reverse _) hs
  exact rise_ext _ _ h1.1 (clL_rise cl st) fun x => by rw [h2, clL_iff]
theorem shutsL_len {C : Int} {cl st : List Int} (h2 : C ≤ 120) (hl : cl.length ≤ 120) : (shutsL C cl st).length ≤ 120 := by
  rcases List.eq_nil_or_concat st with rfl | ⟨a, b, rfl⟩
  · exact hl
  · rw [List.concat_eq_append, shutsL_snoc]
    have := shutL_len (C := C) (cl := shutsL C cl a) (s := b)
    omega

/-- numbers that lie in none of two blocks -/
def IntsX (w : World) (g : Nat) (A : Option Addr) (l : List Int) : Prop :=
  ∀ k x, l[k]? = some x → ∃ ad, A = some ad ∧ ad.block < w.heap.size ∧ ad.block ≠ g ∧ ad.block ≠ g + 1 ∧ w.cell? (ad.add k) = some (.int .i64 x)
theorem IntsX.ints {w : World} {g : Nat} {A : Option Addr} {l : List Int} (h : IntsX w g A l) : Ints w w.heap.size A l := fun k x hx => by
  obtain ⟨ad, e, h1, _, _, h4⟩ := h k x hx
  exact ⟨ad, e, h1, h4⟩
theorem IntsX.set {w : World} {g : Nat} {A : Option Addr} {l : List Int} (h : IntsX w g A l) {p : Addr} (hp : p.block = g ∨ p.block = g + 1) (u : Value) : IntsX (w.setCell p u) g A l := fun k x hx => by
  obtain ⟨ad, e, h1, h2, h3, h4⟩ := h k x hx
  refine ⟨ad, e, by simpa [World.setCell] using h1, h2, h3, ?_⟩
  exact (World.cell?_of_block (heap_setCell_other w p _ u (by rw [addr_block]; omega))).trans h4
theorem IntsX.below {w w' : World} {g : Nat} {A : Option Addr} {l : List Int} (h : IntsX w g A l) (hb : Below w.heap.size w w') : IntsX w' g A l := fun k x hx => by
  obtain ⟨ad, e, h1, h2, h3, h4⟩ := h k x hx
  exact ⟨ad, e, Nat.lt_of_lt_of_le h1 hb.size, h2, h3, (hb.cell (p := ad.add k) (by rw [addr_block]; exact h1)).trans h4⟩
theorem IntsX.old {w : World} {B g : Nat} {A : Option Addr} {l : List Int} (h : Ints w B A l) (hB : B ≤ g) (hg : g < w.heap.size) : IntsX w g A l := fun k x hx => by
  obtain ⟨ad, e, h1, h2⟩ := h k x hx
  exact ⟨ad, e, by omega, by omega, by omega, h2⟩
theorem IntsX.own {w : World} {base g n c : Nat} {A : Option Addr} {l : List Int} (h : w.ownsRow base 3 1 (.slice A n c) n (l.map (Value.int .i64))) (hg : g + 1 < base) : IntsX w g A l := fun k x hx => by
  obtain ⟨ad, e, h1, h2⟩ := Ints.of_own h k x hx
  subst e
  have := (h.lt ad.block (by simp [Value.ownBlock])).1
  exact ⟨ad, rfl, h1, by omega, by omega, h2⟩

/-- a house that is made, or an error -/
def RetMadeW (w : World) (C R B F : Int) (l : List Int) (er : Int) (e : Ending) (w' : World) : Prop :=
  ∃ A c, e = .returned (.agg #[.int .i64 C, .int .i64 R, .int .i64 B, .int .i64 F, .slice A l.length c, .int .i64 er]) ∧ Ints w' w'.heap.size A l ∧ Below w.heap.size w w'

set_option maxRecDepth 100000 in
set_option maxHeartbeats 4000000 in
/-- the reference's Close -/
theorem refClose35_any (C R B F : Int) (A : Option Addr) (cap : Nat) (cl : List Int) (D : Option Addr) (dap : Nat) (st : List Int) (w : World) (hcl : cl.length ≤ 1000000) (hsl : st.length ≤ 1000000) (hr : Ints w w.heap.size A cl) (hs : Ints w w.heap.size D st) :
    Calls Try.prog 35 #[.agg #[.int .i64 C, .int .i64 R, .int .i64 B, .int .i64 F, .slice A cl.length cap], .slice D st.length dap] w (RetMadeW w (if clErr C R B F cl st = 0 then C else 0) (if clErr C R B F cl st = 0 then R else 0) (if clErr C R B F cl st = 0 then B else 0) (if clErr C R B F cl st = 0 then F else 0) (if clErr C R B F cl st = 0 then shutsL C cl st else []) (clErr C R B F cl st)) := by
  have hb0 : Below w.heap.size w ((w.alloc (.cells #[.int .i64 C, .int .i64 R, .int .i64 B, .int .i64 F, .slice A cl.length cap] 24)).alloc (.cells #[.int .i64 0, .int .i64 0, .int .i64 0, .int .i64 0, .slice none 0 0, .int .i64 0] 41)) := (below_new w (.cells #[.int .i64 C, .int .i64 R, .int .i64 B, .int .i64 F, .slice A cl.length cap] 24)).alloc (by simp) _
  have hbk : Blk ((w.alloc (.cells #[.int .i64 C, .int .i64 R, .int .i64 B, .int .i64 F, .slice A cl.length cap] 24)).alloc (.cells #[.int .i64 0, .int .i64 0, .int .i64 0, .int .i64 0, .slice none 0 0, .int .i64 0] 41)) w.heap.size 24 #[.int .i64 C, .int .i64 R, .int .i64 B, .int .i64 F, .slice A cl.length cap] := (Blk.new _ _ _).alloc _
  have hbq : Blk ((w.alloc (.cells #[.int .i64 C, .int .i64 R, .int .i64 B, .int .i64 F, .slice A cl.length cap] 24)).alloc (.cells #[.int .i64 0, .int .i64 0, .int .i64 0, .int .i64 0, .slice none 0 0, .int .i64 0] 41)) (w.heap.size + 1) 41 #[.int .i64 0, .int .i64 0, .int .i64 0, .int .i64 0, .slice none 0 0, .int .i64 0] := Blk.newAt (by simp)
  have hr1 := hr.behind hb0
  by_cases hok : Ok C R B F cl
  case neg =>
    obtain ⟨n1, n2⟩ := chk_ne hok
    obtain ⟨he, hne⟩ := clErr_bad st hok
    rw [if_neg hne, if_neg hne, if_neg hne, if_neg hne, if_neg hne, he]
    clear hok he hne
    go_enter Try.func35, Try.ntmps35
    go_wp2_with (first
      | (go_at_call 27; refine (refCheck_any C R B F A cap cl _ hcl hr1).mono ?_; rintro e w1 ⟨rfl, hb1⟩; have hbq1 := hbq.below hb1 (by simp); obtain ⟨m0, m1, m2, m3, m4, m5⟩ := hbq1.six; obtain ⟨m6, m7, m8, m9, m10, m11⟩ := hbq1.fz6))
    refine bodyPost_ret (v := .agg #[.int .i64 0, .int .i64 0, .int .i64 0, .int .i64 0, .slice none 0 0, .int .i64 (chk C R B F cl)]) (results_cell_row (g := w.heap.size + 1) rfl _ _ 41 _ (0, 0) _ rfl ((((((hbq1.store 0 (.int .i64 0)).store 1 (.int .i64 0)).store 2 (.int .i64 0)).store 3 (.int .i64 0)).store 4 (.slice none 0 0)).store 5 (.int .i64 (chk C R B F cl))) Try.underlying41 rfl info41) rfl ?_
    exact ⟨none, 0, rfl, Ints.nil, (((((((below_next hb0 (by simp; omega) hb1).setCell (p := ⟨w.heap.size + 1, 0, none⟩) (by simp) _).setCell (p := ⟨w.heap.size + 1, 1, none⟩) (by simp) _).setCell (p := ⟨w.heap.size + 1, 2, none⟩) (by simp) _).setCell (p := ⟨w.heap.size + 1, 3, none⟩) (by simp) _).setCell (p := ⟨w.heap.size + 1, 4, none⟩) (by simp) _).setCell (p := ⟨w.heap.size + 1, 5, none⟩) (by simp) _)⟩
  case pos =>
  have hz : Hid (chk C R B F cl = 0) := chk_ok.2 hok
  have k1 := hok.c3
  have k2 := hok.c120
  have k6 := hok.len
  have hce := clErr_ok st hok
  by_cases hl2 : 200 < st.length
  case pos =>
    rw [if_pos hl2] at hce
    have hne : ¬ clErr C R B F cl st = 0 := by rw [hce]; decide
    rw [if_neg hne, if_neg hne, if_neg hne, if_neg hne, if_neg hne, hce]
    have g1 : (200 : Int) < (st.length : Int) := by omega
    have g2 : decide ((200 : Int) < (st.length : Int)) = true := decide_eq_true g1
    clear hok hce hne hl2
    go_enter Try.func35, Try.ntmps35
    go_wp2_with (first
      | (go_at_call 27; refine (refCheck_any C R B F A cap cl _ hcl hr1).mono ?_; rw [hz.out]; rintro e w1 ⟨rfl, hb1⟩; have hbq1 := hbq.below hb1 (by simp); have hbk1 := hbk.below hb1 (by simp; omega); have bw1 := below_next hb0 (by simp; omega) hb1; obtain ⟨m0, m1, m2, m3, m4, m5⟩ := hbq1.six; obtain ⟨m6, m7, m8, m9, m10, m11⟩ := hbq1.fz6))
    refine bodyPost_ret (v := .agg #[.int .i64 0, .int .i64 0, .int .i64 0, .int .i64 0, .slice none 0 0, .int .i64 2]) (results_cell_row (g := w.heap.size + 1) rfl _ _ 41 _ (0, 0) _ rfl ((((((hbq1.store 0 (.int .i64 0)).store 1 (.int .i64 0)).store 2 (.int .i64 0)).store 3 (.int .i64 0)).store 4 (.slice none 0 0)).store 5 (.int .i64 2)) Try.underlying41 rfl info41) rfl ?_
    exact ⟨none, 0, rfl, Ints.nil, ((((((bw1.setCell (p := ⟨w.heap.size + 1, 0, none⟩) (by simp) _).setCell (p := ⟨w.heap.size + 1, 1, none⟩) (by simp) _).setCell (p := ⟨w.heap.size + 1, 2, none⟩) (by simp) _).setCell (p := ⟨w.heap.size + 1, 3, none⟩) (by simp) _).setCell (p := ⟨w.heap.size + 1, 4, none⟩) (by simp) _).setCell (p := ⟨w.heap.size + 1, 5, none⟩) (by simp) _)⟩
  case neg =>
    rw [if_neg hl2] at hce
    have g1 : ¬ (200 : Int) < (st.length : Int) := by omega
    have g2 : decide ((200 : Int) < (st.length : Int)) = false := decide_eq_false g1
    have HE := Lib.hid hce
    have hw1 : IntKind.i64.wrap (C - 1) = C - 1 := IntWalk.i64_in _ (by omega)
    clear hce
    generalize hce2 : clErr C R B F cl st = er at *
    obtain ⟨Q, hQ⟩ : ∃ Q, RetMadeW w (if er = 0 then C else 0) (if er = 0 then R else 0) (if er = 0 then B else 0) (if er = 0 then F else 0) (if er = 0 then shutsL C cl st else []) er = Q := ⟨_, rfl⟩
    rw [hQ]
    have HQ := Lib.hid hQ
    clear hQ
    go_enter Try.func35, Try.ntmps35
    go_wp2_with (first
      | (go_at_call 27; refine (refCheck_any C R B F A cap cl _ hcl hr1).mono ?_; rw [hz.out]; rintro e w1 ⟨rfl, hb1⟩; have hbq1 := hbq.below hb1 (by simp); have hbk1 := hbk.below hb1 (by simp; omega); have bw1 := below_next hb0 (by simp; omega) hb1))
    clear hb1 hb0 hbk hbq hr1
    have hlt1 := hbk1.lt
    have hltq := hbq1.lt
    go_loopw [6] (fun i wr => ∃ k : Nat, k ≤ st.length ∧ i = .int .i64 k ∧ Hid (∀ x ∈ st.take k, 0 ≤ x ∧ x < C) ∧ Below w1.heap.size w1 wr)
      (fun i _ => st.length - (intOf i).toNat)
    case atStart => exact ⟨0, Nat.zero_le _, rfl, by simp [Hid], Below.refl _ _⟩
    case round =>
      obtain ⟨k, hk, rfl, hall, hb⟩ := hrel
      have bwr := below_next bw1 bw1.size hb
      have kq := hbq1.below hb hltq
      have kk := hbk1.below hb hlt1
      obtain ⟨d0, d1, d2, d3, d4⟩ := kk.five
      by_cases hlt : k < st.length
      · obtain ⟨ad, hD, hB, hc⟩ := (hs.below bwr).get hlt
        subst hD
        have hki : (k : Int) < (st.length : Int) := by omega
        by_cases hx : 0 ≤ st[k] ∧ st[k] < C
        · have D1 : Hid (decide (0 ≤ st[k] ∧ st[k] ≤ C - 1) = true) := decide_eq_true (by omega)
          have hn : Hid (∀ x ∈ st.take (k + 1), 0 ≤ x ∧ x < C) := by
            intro x hxx
            rw [List.take_succ_eq_append_getElem hlt] at hxx
            rcases List.mem_append.1 hxx with h | h
            · exact hall.out x h
            · rw [List.mem_singleton.1 h]; exact hx
          clear hx hall
          go_wp2_with fail
          go_quiet ((go_at_call 61; exact Calls.quiet_of_same ((in_any _ _ _ _).mono fun e w' h => ⟨by rw [h.1, D1.out], h.2.symm⟩)))
          go_wp2_with fail
          go_roundw
          case rel => exact ⟨k + 1, by omega, by go_num, hn, below_drewN hb _⟩
          case measure => simp [intOf]; try omega
        · have D1 : Hid (decide (0 ≤ st[k] ∧ st[k] ≤ C - 1) = false) := decide_eq_false (by omega)
          have hres : Hid (er = 1) := by unfold Hid; rw [HE.out]; exact if_neg fun h => hx (h _ (List.getElem_mem hlt))
          have hres2 : ¬ er = 0 := by rw [hres.out]; decide
          have HQ2 : Hid (RetMadeW w 0 0 0 0 [] 1 = Q) := by
            have := HQ.out
            rwa [if_neg hres2, if_neg hres2, if_neg hres2, if_neg hres2, if_neg hres2, hres.out] at this
          clear hx hall hres2 hres HE hce2 HQ
          go_wp2_with fail
          go_quiet ((go_at_call 61; exact Calls.quiet_of_same ((in_any _ _ _ _).mono fun e w' h => ⟨by rw [h.1, D1.out], h.2.symm⟩)))
          obtain ⟨m0, m1, m2, m3, m4, m5⟩ := kq.six; obtain ⟨m6, m7, m8, m9, m10, m11⟩ := kq.fz6
          go_wp2_with fail
          refine bodyPost_ret (v := .agg #[.int .i64 0, .int .i64 0, .int .i64 0, .int .i64 0, .slice none 0 0, .int .i64 1]) (results_cell_row (g := w.heap.size + 1) rfl _ _ 41 _ (0, 0) _ rfl (((((((kq.drewN _).store 0 (.int .i64 0)).store 1 (.int .i64 0)).store 2 (.int .i64 0)).store 3 (.int .i64 0)).store 4 (.slice none 0 0)).store 5 (.int .i64 1)) Try.underlying41 rfl info41) rfl ?_
          rw [← HQ2.out]
          exact ⟨none, 0, rfl, Ints.nil, (((((((below_drewN bwr _).setCell (p := ⟨w.heap.size + 1, 0, none⟩) (by simp) _).setCell (p := ⟨w.heap.size + 1, 1, none⟩) (by simp) _).setCell (p := ⟨w.heap.size + 1, 2, none⟩) (by simp) _).setCell (p := ⟨w.heap.size + 1, 3, none⟩) (by simp) _).setCell (p := ⟨w.heap.size + 1, 4, none⟩) (by simp) _).setCell (p := ⟨w.heap.size + 1, 5, none⟩) (by simp) _)⟩
      · have hres : Hid (er = 0) := by unfold Hid; rw [HE.out]; exact if_pos (by have := hall.out; rwa [List.take_of_length_le (by omega)] at this)
        have hall2 : ∀ x ∈ st, 0 ≤ x ∧ x < C := by have := hall.out; rwa [List.take_of_length_le (by omega)] at this
        have HQ2 : Hid (RetMadeW w C R B F (shutsL C cl st) 0 = Q) := by
          have := HQ.out
          rwa [if_pos hres.out, if_pos hres.out, if_pos hres.out, if_pos hres.out, if_pos hres.out, hres.out] at this
        clear hres HE hce2 hall HQ
        go_wp2_with fail
        have hX := IntsX.old (g := w.heap.size) (hr.below bwr) (Nat.le_refl _) kk.lt
        have hzr := hb.size
        clear d0 d1 d2 d3 d4 hlt hb
        go_loopw [7] (fun i wr => ∃ (k : Nat) (A' : Option Addr) (c' : Nat), k ≤ st.length ∧ i = .int .i64 k ∧ Below w.heap.size w wr ∧ Blk wr w.heap.size 24 #[.int .i64 C, .int .i64 R, .int .i64 B, .int .i64 F, .slice A' (shutsL C cl (st.take k)).length c'] ∧ Blk wr (w.heap.size + 1) 41 #[.int .i64 0, .int .i64 0, .int .i64 0, .int .i64 0, .slice none 0 0, .int .i64 0] ∧ IntsX wr w.heap.size A' (shutsL C cl (st.take k)))
          (fun i _ => st.length - (intOf i).toNat)
        case atStart => exact ⟨0, A, cap, Nat.zero_le _, rfl, bwr, kk, kq, hX⟩
        case round =>
          obtain ⟨k, A', c', hk, rfl, bwr, kk, kq, hX⟩ := hrel
          have hcul := shutsL_len (cl := cl) (st := st.take k) k2 k6
          by_cases hlt : k < st.length
          · obtain ⟨ad, hD, hB, hc⟩ := (hs.below bwr).get hlt
            subst hD
            have hki : (k : Int) < (st.length : Int) := by omega
            have hsn : shutsL C cl (st.take (k + 1)) = shutL C (shutsL C cl (st.take k)) st[k] := by rw [List.take_succ_eq_append_getElem hlt, shutsL_snoc]
            have HSN := Lib.hid hsn
            clear hsn
            generalize shutsL C cl (st.take k) = cu at *
            generalize st[k] = s at *
            obtain ⟨d0, d1, d2, d3, d4⟩ := kk.five
            go_wp2_with fail
            go_still_tail 5, (by kernel_rfl)
            obtain ⟨w2, hw2⟩ : ∃ w2, wr.drew = w2 := ⟨_, rfl⟩
            have b2 : Below wr.heap.size wr w2 := by rw [← hw2]; exact (Below.refl _ _).drew
            have kk2 := kk.below b2 kk.lt
            have kq2 := kq.below b2 kq.lt
            have hX2 := hX.below b2
            have bw2 := below_next bwr bwr.size b2
            have hc2 := (b2.cell (p := ad.add k) (by rw [addr_block]; have := bwr.size; omega)).trans hc
            change wpList _ _ _ _ _ wr.drew
            rw [hw2]
            clear hw2 d0 d1 d2 d3 d4 hc
            obtain ⟨d0, d1, d2, d3, d4⟩ := kk2.five
            go_wp2_with (first
              | (go_at_call 85; refine (shut85_own C R B F A' c' cu s _ (by omega) k2 (by omega) hX2.ints).mono ?_; rintro e w3 ⟨A2, c2, rfl, hown, hb3⟩; have kk3 := kk2.below hb3 kk2.lt; have kq3 := kq2.below hb3 kq2.lt; clear d0 d1 d2 d3 d4; obtain ⟨d0, d1, d2, d3, d4⟩ := kk3.five; obtain ⟨d5, d6, d7, d8, d9⟩ := kk3.fz5))
            go_roundw
            case rel => exact ⟨k + 1, A2, c2, by omega, by go_num, ((((((below_next bw2 bw2.size hb3).setCell (p := ⟨w.heap.size, 0, none⟩) (by simp) (.int .i64 C)).setCell (p := ⟨w.heap.size, 1, none⟩) (by simp) (.int .i64 R)).setCell (p := ⟨w.heap.size, 2, none⟩) (by simp) (.int .i64 B)).setCell (p := ⟨w.heap.size, 3, none⟩) (by simp) (.int .i64 F)).setCell (p := ⟨w.heap.size, 4, none⟩) (by simp) (.slice A2 (shutL C cu s).length c2)), by rw [HSN.out]; exact (((((kk3.store 0 (.int .i64 C)).store 1 (.int .i64 R)).store 2 (.int .i64 B)).store 3 (.int .i64 F)).store 4 (.slice A2 (shutL C cu s).length c2)), (((((kq3.far (p := ⟨w.heap.size, 0, none⟩) (by simp) (.int .i64 C)).far (p := ⟨w.heap.size, 1, none⟩) (by simp) (.int .i64 R)).far (p := ⟨w.heap.size, 2, none⟩) (by simp) (.int .i64 B)).far (p := ⟨w.heap.size, 3, none⟩) (by simp) (.int .i64 F)).far (p := ⟨w.heap.size, 4, none⟩) (by simp) (.slice A2 (shutL C cu s).length c2)), by rw [HSN.out]; exact ((((((IntsX.own hown (by have := kq2.lt; omega)).set (p := ⟨w.heap.size, 0, none⟩) (.inl rfl) (.int .i64 C)).set (p := ⟨w.heap.size, 1, none⟩) (.inl rfl) (.int .i64 R)).set (p := ⟨w.heap.size, 2, none⟩) (.inl rfl) (.int .i64 B)).set (p := ⟨w.heap.size, 3, none⟩) (.inl rfl) (.int .i64 F)).set (p := ⟨w.heap.size, 4, none⟩) (.inl rfl) (.slice A2 (shutL C cu s).length c2))⟩
            case measure => simp [intOf]; try omega
          · obtain rfl : k = st.length := by omega
            rw [List.take_length] at kk hX hcul
            generalize shutsL C cl st = cu at *
            obtain ⟨d0, d1, d2, d3, d4⟩ := kk.five
            obtain ⟨m0, m1, m2, m3, m4, m5⟩ := kq.six; obtain ⟨m6, m7, m8, m9, m10, m11⟩ := kq.fz6
            go_wp2_with fail
            refine bodyPost_ret (v := .agg #[.int .i64 C, .int .i64 R, .int .i64 B, .int .i64 F, .slice A' cu.length c', .int .i64 0]) (results_cell_row (g := w.heap.size + 1) rfl _ _ 41 _ (0, 0) _ rfl ((((((kq.store 0 (.int .i64 C)).store 1 (.int .i64 R)).store 2 (.int .i64 B)).store 3 (.int .i64 F)).store 4 (.slice A' cu.length c')).store 5 (.int .i64 0)) Try.underlying41 rfl info41) rfl ?_
            rw [← HQ2.out]
            exact ⟨A', c', rfl, ((((((hX.set (p := ⟨w.heap.size + 1, 0, none⟩) (.inr rfl) (.int .i64 C)).set (p := ⟨w.heap.size + 1, 1, none⟩) (.inr rfl) (.int .i64 R)).set (p := ⟨w.heap.size + 1, 2, none⟩) (.inr rfl) (.int .i64 B)).set (p := ⟨w.heap.size + 1, 3, none⟩) (.inr rfl) (.int .i64 F)).set (p := ⟨w.heap.size + 1, 4, none⟩) (.inr rfl) (.slice A' cu.length c')).set (p := ⟨w.heap.size + 1, 5, none⟩) (.inr rfl) (.int .i64 0)).ints, ((((((bwr.setCell (p := ⟨w.heap.size + 1, 0, none⟩) (by simp) (.int .i64 C)).setCell (p := ⟨w.heap.size + 1, 1, none⟩) (by simp) (.int .i64 R)).setCell (p := ⟨w.heap.size + 1, 2, none⟩) (by simp) (.int .i64 B)).setCell (p := ⟨w.heap.size + 1, 3, none⟩) (by simp) (.int .i64 F)).setCell (p := ⟨w.heap.size + 1, 4, none⟩) (by simp) (.slice A' cu.length c')).setCell (p := ⟨w.heap.size + 1, 5, none⟩) (by simp) (.int .i64 0))⟩

end Go.Proofs.Ytnjmkdgglpcfpaa
