import Derived.Test.YtnjmkdgglpcfpaaA46
import Derived.Laws.CopyOwn
namespace Go.Proofs.Ytnjmkdgglpcfpaa
set_option linter.unusedSimpArgs false
set_option linter.unusedVariables false
open Go.RowKit

/-- the error of stands to be closed -/
def clErr (C R B F : Int) (cl st : List Int) : Int := if chk C R B F cl ≠ 0 then chk C R B F cl else if 200 < st.length then 2 else if ∀ x ∈ st, 0 ≤ x ∧ x < C then 0 else 1
def clL (cl st : List Int) : List Int := cmpt (srt (cl ++ st))
theorem clErr_bad {C R B F : Int} {cl : List Int} (st : List Int) (h : ¬ Ok C R B F cl) : clErr C R B F cl st = chk C R B F cl ∧ clErr C R B F cl st ≠ 0 := by
  have h0 : chk C R B F cl ≠ 0 := fun e => h (chk_ok.1 e)
  have h1 : clErr C R B F cl st = chk C R B F cl := if_pos h0
  exact ⟨h1, by rw [h1]; exact h0⟩
theorem clErr_ok {C R B F : Int} {cl : List Int} (st : List Int) (h : Ok C R B F cl) : clErr C R B F cl st = if 200 < st.length then 2 else if ∀ x ∈ st, 0 ≤ x ∧ x < C then 0 else 1 := if_neg fun e => e (chk_ok.2 h)
/-- what lies behind two copies, one behind the other -/
theorem two_copies (cl st : List Int) : splice (splice (part [] (cl.length + st.length)).toList 0 (cl.map (Value.int .i64))) cl.length (st.map (Value.int .i64)) = (part (cl ++ st) 0).toList := by
  have e1 : splice (part [] (cl.length + st.length)).toList 0 (cl.map (Value.int .i64)) = cl.map (Value.int .i64) ++ List.replicate st.length (Value.int .i64 0) := by
    unfold splice part
    simp
  rw [e1]
  unfold splice part
  simp [List.take_append_of_le_length, List.drop_append_of_le_length]

theorem make_part {w2 : World} {base n : Nat} {g : Nat} (h : w2.ownsRow base 3 1 (.slice (some ⟨g, 0, none⟩) n n) n (madeCells (Value.int .i64 0).cells (n * 1)).toList) : Blk w2 g 3 (part [] n) := by
  rcases h.2 with ⟨hv, _⟩ | ⟨g, cap', cur, hv, _, hg, _, _, h3, h4⟩
  · cases hv
  · cases hv
    have e5 : cur = part [] n := by
      rw [List.take_of_length_le (by simp; omega)] at h4
      apply Array.toList_inj.1
      rw [h4]
      simp [part, toList_madeCells_one, Value.cells]
    rw [← e5]
    exact hg
theorem one_copy (cl : List Int) : splice (part [] cl.length).toList 0 (cl.map (Value.int .i64)) = (part cl 0).toList := by
  unfold splice part
  simp
theorem Ints.src {w : World} {B : Nat} {A : Option Addr} {l : List Int} (h : Ints w B A l) (h0 : 0 < l.length) : ∃ ad, A = some ad ∧ ∀ j v, (l.map (Value.int .i64))[j]? = some v → w.cell? (ad.add j) = some v := by
  obtain ⟨ad, hA, _, _⟩ := h.get h0
  refine ⟨ad, hA, fun j v hv => ?_⟩
  rw [List.getElem?_map] at hv
  cases hx : l[j]? with
  | none => rw [hx] at hv; cases hv
  | some x =>
    rw [hx] at hv
    cases hv
    obtain ⟨ad', hA', _, hc⟩ := h j x hx
    rw [hA] at hA'
    cases hA'
    exact hc
theorem one_ints (l : List Int) : ∀ v ∈ l.map (Value.int .i64), v.oneCell' = true := by
  intro v hv
  obtain ⟨x, _, rfl⟩ := List.mem_map.1 hv
  rfl

set_option maxRecDepth 100000 in
/-- numbers copied into a block of numbers -/
theorem run_copyI {w : World} {G o dLen dCap : Nat} {A : Option Addr} {cap : Nat} {l : List Int} {cur : Array Value} {B : Nat} (hB : Blk w G 3 cur) (hl : Ints w B A l) (hd : l.length ≤ dLen) (hfit : o + l.length ≤ cur.size) :
    ∃ w', (Builtin.copy_ #[22, 22] 3 #[.slice (some ⟨G, o, none⟩) dLen dCap, .slice A l.length cap]).run Try.prog w = .ok (.int .i64 (l.length : Int)) w' ∧ Blk w' G 3 (splice cur.toList o (l.map (Value.int .i64))).toArray ∧ Below G w w' := by
  obtain ⟨i0, hi, hz0, hz1, hz2⟩ := info_parts int_info
  have hsz : (Try.prog.info? 3).map (·.size) = some 1 := by rw [hi]; exact congrArg some hz1
  by_cases h0 : l.length = 0
  · have hl0 : l = [] := List.eq_nil_of_length_eq_zero h0
    subst hl0
    refine ⟨w, run_copy_none w 22 22 3 3 _ _ _ _ _ _ Try.underlying22 hsz (Nat.zero_min _), ?_, Below.refl _ _⟩
    have : (splice cur.toList o (([] : List Int).map (Value.int .i64))).toArray = cur := by simp [splice]
    rw [this]
    exact hB
  · obtain ⟨ad, rfl, hsrc⟩ := hl.src (by omega)
    have hrun := run_copy_row Try.prog w 22 22 3 3 G o dLen dCap ad l.length cap cur 3 (l.map (Value.int .i64)) Try.underlying22 hsz hB (by rw [List.length_map]; exact (Nat.min_eq_left hd).symm) hsrc (by rw [List.length_map]; exact hfit) (one_ints l)
    rw [List.append_assoc] at hrun
    refine ⟨w.setRow G (splice cur.toList o (l.map (Value.int .i64))).toArray, ?_, ?_, ?_⟩
    · rw [hrun]
      simp [splice, goInt]
    · exact hB.setRow _
    · exact below_setRow (Below.refl _ _) (Nat.le_refl _) _

set_option maxRecDepth 100000 in
set_option maxHeartbeats 4000000 in
theorem close_any (C R B F : Int) (A : Option Addr) (cap : Nat) (cl : List Int) (D : Option Addr) (dap : Nat) (st : List Int) (w : World) (hB : B ≤ 9223372036854775807) (hcl : cl.length ≤ 9223372036854775807) (hll : st.length ≤ 9223372036854775807) (hr : Ints w w.heap.size A cl) (hl : Ints w w.heap.size D st) :
    Calls Try.prog 34 #[.agg #[.int .i64 C, .int .i64 R, .int .i64 B, .int .i64 F, .slice A cl.length cap], .slice D st.length dap] w (RetHouse w (if clErr C R B F cl st = 0 then C else 0) (if clErr C R B F cl st = 0 then R else 0) (if clErr C R B F cl st = 0 then B else 0) (if clErr C R B F cl st = 0 then F else 0) (if clErr C R B F cl st = 0 then clL cl st else []) (clErr C R B F cl st)) := by
  have hb0 : Below w.heap.size w ((w.alloc (.cells #[.int .i64 C, .int .i64 R, .int .i64 B, .int .i64 F, .slice A cl.length cap] 24)).alloc (.cells #[.int .i64 0, .int .i64 0, .int .i64 0, .int .i64 0, .slice none 0 0] 24)) := (below_new w (.cells #[.int .i64 C, .int .i64 R, .int .i64 B, .int .i64 F, .slice A cl.length cap] 24)).alloc (by simp) _
  have hbk : Blk ((w.alloc (.cells #[.int .i64 C, .int .i64 R, .int .i64 B, .int .i64 F, .slice A cl.length cap] 24)).alloc (.cells #[.int .i64 0, .int .i64 0, .int .i64 0, .int .i64 0, .slice none 0 0] 24)) w.heap.size 24 #[.int .i64 C, .int .i64 R, .int .i64 B, .int .i64 F, .slice A cl.length cap] := (Blk.new _ _ _).alloc _
  have hbq : Blk ((w.alloc (.cells #[.int .i64 C, .int .i64 R, .int .i64 B, .int .i64 F, .slice A cl.length cap] 24)).alloc (.cells #[.int .i64 0, .int .i64 0, .int .i64 0, .int .i64 0, .slice none 0 0] 24)) (w.heap.size + 1) 24 #[.int .i64 0, .int .i64 0, .int .i64 0, .int .i64 0, .slice none 0 0] := Blk.newAt (by simp)
  have hr1 := hr.behind hb0
  have hl1 := hl.behind hb0
  by_cases hok : Ok C R B F cl
  case neg =>
    obtain ⟨n1, n2⟩ := chk_ne hok
    obtain ⟨he, hne⟩ := clErr_bad st hok
    rw [if_neg hne, if_neg hne, if_neg hne, if_neg hne, if_neg hne, he]
    clear hok he hne
    go_enter Try.func34, Try.ntmps34
    go_wp2_with (first
      | (go_at_call 26; refine (check_any C R B F A cap cl _ hB hcl hr1).mono ?_; rintro e w1 ⟨rfl, hb1⟩; have hbq1 := hbq.below hb1 (by simp); have hbk1 := hbk.below hb1 (by simp; omega); obtain ⟨d0, d1, d2, d3, d4⟩ := hbk1.five; obtain ⟨m0, m1, m2, m3, m4⟩ := hbq1.five; obtain ⟨m5, m6, m7, m8, m9⟩ := hbq1.fz5))
    refine bodyPost_ret (results_cell2 (g := w.heap.size + 1) rfl _ _ 24 _ (0, 0) _ rfl (((((hbq1.store 0 (.int .i64 0)).store 1 (.int .i64 0)).store 2 (.int .i64 0)).store 3 (.int .i64 0)).store 4 (.slice none 0 0)) Try.underlying24 rfl (info24 _ _ _ _ _)) rfl ?_
    exact ⟨none, 0, rfl, Nat.le_refl _, by simp [maxLen], Ints.nil, ((((((below_next hb0 (by simp; omega) hb1).setCell (p := ⟨w.heap.size + 1, 0, none⟩) (by simp) _).setCell (p := ⟨w.heap.size + 1, 1, none⟩) (by simp) _).setCell (p := ⟨w.heap.size + 1, 2, none⟩) (by simp) _).setCell (p := ⟨w.heap.size + 1, 3, none⟩) (by simp) _).setCell (p := ⟨w.heap.size + 1, 4, none⟩) (by simp) _)⟩
  case pos =>
  have hz : Hid (chk C R B F cl = 0) := chk_ok.2 hok
  have k1 := hok.c3
  have k2 := hok.c120
  have k6 := hok.len
  have hte := clErr_ok st hok
  by_cases hy : 200 < st.length
  case pos =>
    rw [if_pos hy] at hte
    have hne : ¬ clErr C R B F cl st = 0 := by rw [hte]; decide
    rw [if_neg hne, if_neg hne, if_neg hne, if_neg hne, if_neg hne, hte]
    clear hok hte hne
    have e1 : decide ((200 : Int) < (st.length : Int)) = true := decide_eq_true (by omega)
    have e2 : (200 : Int) < (st.length : Int) := by omega
    go_enter Try.func34, Try.ntmps34
    go_wp2_with (first
      | (go_at_call 26; refine (check_any C R B F A cap cl _ hB hcl hr1).mono ?_; rw [hz.out]; rintro e w1 ⟨rfl, hb1⟩; have hbq1 := hbq.below hb1 (by simp); have hbk1 := hbk.below hb1 (by simp; omega); obtain ⟨d0, d1, d2, d3, d4⟩ := hbk1.five; obtain ⟨m0, m1, m2, m3, m4⟩ := hbq1.five; obtain ⟨m5, m6, m7, m8, m9⟩ := hbq1.fz5))
    refine bodyPost_ret (results_cell2 (g := w.heap.size + 1) rfl _ _ 24 _ (0, 0) _ rfl (((((hbq1.store 0 (.int .i64 0)).store 1 (.int .i64 0)).store 2 (.int .i64 0)).store 3 (.int .i64 0)).store 4 (.slice none 0 0)) Try.underlying24 rfl (info24 _ _ _ _ _)) rfl ?_
    exact ⟨none, 0, rfl, Nat.le_refl _, by simp [maxLen], Ints.nil, ((((((below_next hb0 (by simp; omega) hb1).setCell (p := ⟨w.heap.size + 1, 0, none⟩) (by simp) _).setCell (p := ⟨w.heap.size + 1, 1, none⟩) (by simp) _).setCell (p := ⟨w.heap.size + 1, 2, none⟩) (by simp) _).setCell (p := ⟨w.heap.size + 1, 3, none⟩) (by simp) _).setCell (p := ⟨w.heap.size + 1, 4, none⟩) (by simp) _)⟩
  case neg =>
  rw [if_neg hy] at hte
  have e1 : decide ((200 : Int) < (st.length : Int)) = false := decide_eq_false (by omega)
  have e2 : ¬ (200 : Int) < (st.length : Int) := by omega
  have hyes : Hid ((∀ x ∈ st, 0 ≤ x ∧ x < C) → clErr C R B F cl st = 0) := fun h => by rw [hte, if_pos h]
  have hno : Hid (¬ (∀ x ∈ st, 0 ≤ x ∧ x < C) → clErr C R B F cl st = 1) := fun h => by rw [hte, if_neg h]
  clear hok hte
  generalize clErr C R B F cl st = ce at *
  generalize hK : RetHouse w (if ce = 0 then C else 0) (if ce = 0 then R else 0) (if ce = 0 then B else 0) (if ce = 0 then F else 0) (if ce = 0 then clL cl st else []) ce = K
  have HK := Lib.hid hK
  clear hK
  obtain ⟨i0, hi, hz0, hz1, hz2⟩ := info_parts int_info
  go_enter Try.func34, Try.ntmps34
  go_wp2_with (first
    | (go_at_call 26; refine (check_any C R B F A cap cl _ hB hcl hr1).mono ?_; rw [hz.out]; rintro e w1 ⟨rfl, hb1⟩; have hbq1 := hbq.below hb1 (by simp); have hbk1 := hbk.below hb1 (by simp; omega); obtain ⟨d0, d1, d2, d3, d4⟩ := hbk1.five; obtain ⟨m0, m1, m2, m3, m4⟩ := hbq1.five; obtain ⟨m5, m6, m7, m8, m9⟩ := hbq1.fz5))
  have hlt1 := hbk1.lt
  have hltq := hbq1.lt
  have hba : Below w.heap.size w w1 := (below_next hb0 (by simp; omega) hb1)
  have hrA := hr.behind hba
  have hrD := hl.behind hba
  clear d0 d1 d2 d3 d4 m0 m1 m2 m3 m4 m5 m6 m7 m8 m9 hb1 hb0 hbk hbq hr1 hl1 hr hl
  go_loopw [8, 23] (fun _ i wr => ∃ k : Nat, k ≤ st.length ∧ i = .int .i64 k ∧ Hid (∀ x ∈ st.take k, 0 ≤ x ∧ x < C) ∧ Below w1.heap.size w1 wr)
    (fun _ i _ => st.length - (intOf i).toNat)
  case atStart => exact ⟨0, Nat.zero_le _, rfl, (by simp [Hid]), Below.refl _ _⟩
  case round =>
    obtain ⟨k, hk, rfl, hall, hb⟩ := hrel
    have hbw := below_next hba hba.size hb
    have hbkr := hbk1.below hb hlt1
    have hbq1 := hbq1.below hb hltq
    have hrAr := hrA.behind hb
    have hrDr := hrD.behind hb
    have hzr := hb.size
    obtain ⟨d0, d1, d2, d3, d4⟩ := hbkr.five
    obtain ⟨m0, m1, m2, m3, m4⟩ := hbq1.five
    obtain ⟨m5, m6, m7, m8, m9⟩ := hbq1.fz5
    by_cases hlt : k < st.length
    · obtain ⟨ad, hA, hadb, hce⟩ := hrDr.get hlt
      subst hA
      have hlt2 : (k : Int) < (st.length : Int) := by omega
      by_cases hx : 0 ≤ st[k] ∧ st[k] < C
      · have hall2 : Hid (∀ x ∈ st.take (k + 1), 0 ≤ x ∧ x < C) := by
          unfold Hid
          rw [List.take_succ_eq_append_getElem hlt]
          intro y hy
          rcases List.mem_append.1 hy with hy | hy
          · exact hall.out y hy
          · rw [List.mem_singleton.1 hy]; exact hx
        have HX := Lib.hid (decide_eq_true hx)
        clear hx hall hyes hno
        go_wp2_with (first
          | (go_at_call 74; refine (isColumn_any C R B F _ st[k] _).mono ?_; rw [HX.out]; rintro e w2 ⟨rfl, hb2⟩))
        go_roundw
        case rel => exact ⟨k + 1, by omega, by go_num, hall2, hb.trans (hb2.mono hzr)⟩
        case measure => simp [intOf]; try omega
      · have hc1 : Hid (ce = 1) := hno.out fun h => hx (h _ (List.getElem_mem hlt))
        have HX := Lib.hid (decide_eq_false hx)
        clear hx hall hyes hno
        go_wp2_with (first
          | (go_at_call 74; refine (isColumn_any C R B F _ st[k] _).mono ?_; rw [HX.out]; rintro e w2 ⟨rfl, hb2⟩; have hbq2 := hbq1.below hb2 hbq1.lt; clear d0 d1 d2 d3 d4 m0 m1 m2 m3 m4 m5 m6 m7 m8 m9; obtain ⟨m0, m1, m2, m3, m4⟩ := hbq2.five; obtain ⟨m5, m6, m7, m8, m9⟩ := hbq2.fz5))
        refine bodyPost_ret (results_cell2 (g := w.heap.size + 1) rfl _ _ 24 _ (0, 0) _ rfl (((((hbq2.store 0 (.int .i64 0)).store 1 (.int .i64 0)).store 2 (.int .i64 0)).store 3 (.int .i64 0)).store 4 (.slice none 0 0)) Try.underlying24 rfl (info24 _ _ _ _ _)) rfl ?_
        rw [← HK.out, hc1.out]
        exact ⟨none, 0, rfl, Nat.le_refl _, by simp [maxLen], Ints.nil, ((((((below_next hbw hbw.size hb2).setCell (p := ⟨w.heap.size + 1, 0, none⟩) (by simp) _).setCell (p := ⟨w.heap.size + 1, 1, none⟩) (by simp) _).setCell (p := ⟨w.heap.size + 1, 2, none⟩) (by simp) _).setCell (p := ⟨w.heap.size + 1, 3, none⟩) (by simp) _).setCell (p := ⟨w.heap.size + 1, 4, none⟩) (by simp) _)⟩
    · have hall' : ∀ x ∈ st, 0 ≤ x ∧ x < C := by have := hall.out; rwa [List.take_of_length_le (by omega)] at this
      have hc0 := hyes.out hall'
      have HK2 : Hid (RetHouse w C R B F (clL cl st) 0 = K) := by have := HK.out; rw [hc0] at this; exact this
      clear HK hyes hno hall hall' hc0
      have hns : IntKind.i64.wrap ((cl.length : Int) + (st.length : Int)) = (cl.length : Int) + (st.length : Int) := IntWalk.i64_in _ (by omega)
      have hs1 : (0 : Int) ≤ (cl.length : Int) := by omega
      have hs2 : (cl.length : Int) ≤ (cl.length : Int) + (st.length : Int) := by omega
      by_cases hst : st = []
      · subst hst
        clear hns hs2
        have hTl : Hid ((srt cl).length = cl.length) := by unfold Hid; rw [srt_len]
        have hclL : clL cl [] = cmpt (srt cl) := by unfold clL; rw [List.append_nil]
        rw [hclL] at HK2
        clear hclL
        have hsz : (Try.prog.info? 3).map (·.size) = some 1 := by rw [hi]; exact congrArg some hz1
        go_wp2_with (first
          | (at_make; refine wpList_make_full _ rfl _ _ 22 rfl wr.heap.size 3 i0 (.int .i64 0) 1 Try.underlying22 hi hz0 hz1 .i64 .i64 (cl.length : Int) (cl.length : Int) cl.length (by rfl) (by rfl) (by omega) (by omega) (by rw [hz2]; omega) (by simp only [maxLen]; omega) (Nat.le_refl _) ?_; intro w2 hown2 hgr2; have hb2 : Below wr.heap.size wr w2 := (Below.refl _ _).grown hgr2 (Nat.le_refl _) (fun k hk => (by cases hk)); have hbk2 := hbkr.below hb2 hbkr.lt; clear d0 d1 d2 d3 d4; obtain ⟨d0, d1, d2, d3, d4⟩ := hbk2.five; have hB2 := make_part hown2; obtain ⟨w3, hrun3, hB3, hb3⟩ := run_copyI (o := 0) (dLen := cl.length) (dCap := cl.length) (cap := cap) hB2 (hrAr.behind hb2) (by omega) (by simp [part]); have hb3x : Below wr.heap.size wr w3 := hb2.trans hb3; have hrun4 : (Builtin.copy_ #[22, 22] 3 #[.slice (some ⟨wr.heap.size, 0, none⟩) 0 0, .slice D 0 dap]).run Try.prog w3 = .ok (.int .i64 0) w3 := run_copy_none w3 22 22 3 3 _ _ _ _ _ _ Try.underlying22 hsz rfl; have hB4 : Blk w3 wr.heap.size 3 (part cl 0) := (by rw [one_copy, Array.toArray_toList] at hB3; exact hB3); have hb4x := hb3x; have hbk4 := hbkr.below hb4x hbkr.lt; have hsort := sort_any.out wr.heap.size (some ⟨wr.heap.size, 0, none⟩) cl.length cl w3 hb4x.size (by (try simp); omega) (own_part hB4 (Nat.le_refl _) (by simp [maxLen]; omega)))
          | (go_at_call 71; refine hsort.mono ?_; rintro e w5 ⟨rfl, hown5, hb5⟩; rw [← hTl.out] at hown5; have hcomp := compact_own wr.heap.size _ _ (srt cl) w5 (by have := hb5.size; have := hb4x.size; omega) (by rw [hTl.out]; omega) hown5; rw [hTl.out] at hcomp; have hb5x : Below wr.heap.size wr w5 := hb4x.trans hb5; have hbk5 := hbkr.below hb5x hbkr.lt; clear d0 d1 d2 d3 d4; obtain ⟨d0, d1, d2, d3, d4⟩ := hbk5.five)
          | (go_at_call 84; refine hcomp.mono ?_; rintro e w6 ⟨A6, rfl, hown6, hb6, hgr6⟩; have hb6x : Below wr.heap.size wr w6 := hb5x.trans hb6; have hbk6 := hbkr.below hb6x hbkr.lt; have hbq6 := hbq1.below hb6x hbq1.lt; clear d0 d1 d2 d3 d4 m0 m1 m2 m3 m4 m5 m6 m7 m8 m9; obtain ⟨d0, d1, d2, d3, d4⟩ := hbk6.five; obtain ⟨d5, d6, d7, d8, d9⟩ := hbk6.fz5; obtain ⟨m0, m1, m2, m3, m4⟩ := hbq6.five; obtain ⟨m5, m6, m7, m8, m9⟩ := hbq6.fz5))
        obtain ⟨s1, s2, _⟩ := own_facts hown6
        refine bodyPost_ret (results_cell2 (g := w.heap.size + 1) rfl _ _ 24 _ (0, 0) _ rfl ((((((hbq6.far (p := ⟨w.heap.size, 4, none⟩) (by simp) _).store 0 (.int .i64 C)).store 1 (.int .i64 R)).store 2 (.int .i64 B)).store 3 (.int .i64 F)).store 4 _) Try.underlying24 rfl (info24 _ _ _ _ _)) rfl ?_
        rw [← HK2.out]
        exact ⟨A6, _, rfl, s1, s2, Ints.of_own (ownsRow_setCell_below (ownsRow_setCell_below (ownsRow_setCell_below (ownsRow_setCell_below (ownsRow_setCell_below (ownsRow_setCell_below hown6 (a := ⟨w.heap.size, 4, none⟩) (show w.heap.size < wr.heap.size by omega) _) (a := ⟨w.heap.size + 1, 0, none⟩) (show w.heap.size + 1 < wr.heap.size by omega) _) (a := ⟨w.heap.size + 1, 1, none⟩) (show w.heap.size + 1 < wr.heap.size by omega) _) (a := ⟨w.heap.size + 1, 2, none⟩) (show w.heap.size + 1 < wr.heap.size by omega) _) (a := ⟨w.heap.size + 1, 3, none⟩) (show w.heap.size + 1 < wr.heap.size by omega) _) (a := ⟨w.heap.size + 1, 4, none⟩) (show w.heap.size + 1 < wr.heap.size by omega) _), (((((((below_next hbw hbw.size hb6x).setCell (p := ⟨w.heap.size, 4, none⟩) (by simp) _).setCell (p := ⟨w.heap.size + 1, 0, none⟩) (by simp) _).setCell (p := ⟨w.heap.size + 1, 1, none⟩) (by simp) _).setCell (p := ⟨w.heap.size + 1, 2, none⟩) (by simp) _).setCell (p := ⟨w.heap.size + 1, 3, none⟩) (by simp) _).setCell (p := ⟨w.heap.size + 1, 4, none⟩) (by simp) _)⟩
      · have hTl : Hid ((srt (cl ++ st)).length = (cl.length + st.length)) := by unfold Hid; rw [srt_len]; simp
        have hclL : clL cl st = cmpt (srt (cl ++ st)) := rfl
        rw [hclL] at HK2
        clear hclL
        have hsz : (Try.prog.info? 3).map (·.size) = some 1 := by rw [hi]; exact congrArg some hz1
        have hst0 : st.length ≠ 0 := fun e => hst (List.eq_nil_of_length_eq_zero e)
        go_wp2_with (first
          | (at_make; refine wpList_make_full _ rfl _ _ 22 rfl wr.heap.size 3 i0 (.int .i64 0) 1 Try.underlying22 hi hz0 hz1 .i64 .i64 ((cl.length : Int) + (st.length : Int)) ((cl.length : Int) + (st.length : Int)) (cl.length + st.length) (by rfl) (by rfl) (by omega) (by omega) (by rw [hz2]; omega) (by simp only [maxLen]; omega) (Nat.le_refl _) ?_; intro w2 hown2 hgr2; have hb2 : Below wr.heap.size wr w2 := (Below.refl _ _).grown hgr2 (Nat.le_refl _) (fun k hk => (by cases hk)); have hbk2 := hbkr.below hb2 hbkr.lt; clear d0 d1 d2 d3 d4; obtain ⟨d0, d1, d2, d3, d4⟩ := hbk2.five; have hB2 := make_part hown2; obtain ⟨w3, hrun3, hB3, hb3⟩ := run_copyI (o := 0) (dLen := (cl.length + st.length)) (dCap := (cl.length + st.length)) (cap := cap) hB2 (hrAr.behind hb2) (by omega) (by simp [part]); have hb3x : Below wr.heap.size wr w3 := hb2.trans hb3; obtain ⟨w4, hrun4, hB4', hb4⟩ := run_copyI (o := cl.length) (dLen := st.length) (dCap := st.length) (cap := dap) hB3 (hrDr.behind hb3x) (Nat.le_refl _) (by simp [splice, part]); have hB4 : Blk w4 wr.heap.size 3 (part (cl ++ st) 0) := (by simp only [List.toList_toArray, two_copies, Array.toArray_toList] at hB4'; exact hB4'); have hb4x : Below wr.heap.size wr w4 := hb3x.trans hb4; have hbk4 := hbkr.below hb4x hbkr.lt; have hsort := sort_any.out wr.heap.size (some ⟨wr.heap.size, 0, none⟩) (cl ++ st).length (cl ++ st) w4 hb4x.size (by (try simp); omega) (own_part hB4 (Nat.le_refl _) (by simp [maxLen]; omega)); rw [List.length_append] at hsort)
          | (go_at_call 71; refine hsort.mono ?_; rintro e w5 ⟨rfl, hown5, hb5⟩; rw [← hTl.out] at hown5; have hcomp := compact_own wr.heap.size _ _ (srt (cl ++ st)) w5 (by have := hb5.size; have := hb4x.size; omega) (by rw [hTl.out]; omega) hown5; rw [hTl.out] at hcomp; have hb5x : Below wr.heap.size wr w5 := hb4x.trans hb5; have hbk5 := hbkr.below hb5x hbkr.lt; clear d0 d1 d2 d3 d4; obtain ⟨d0, d1, d2, d3, d4⟩ := hbk5.five)
          | (go_at_call 84; refine hcomp.mono ?_; rintro e w6 ⟨A6, rfl, hown6, hb6, hgr6⟩; have hb6x : Below wr.heap.size wr w6 := hb5x.trans hb6; have hbk6 := hbkr.below hb6x hbkr.lt; have hbq6 := hbq1.below hb6x hbq1.lt; clear d0 d1 d2 d3 d4 m0 m1 m2 m3 m4 m5 m6 m7 m8 m9; obtain ⟨d0, d1, d2, d3, d4⟩ := hbk6.five; obtain ⟨d5, d6, d7, d8, d9⟩ := hbk6.fz5; obtain ⟨m0, m1, m2, m3, m4⟩ := hbq6.five; obtain ⟨m5, m6, m7, m8, m9⟩ := hbq6.fz5))
        obtain ⟨s1, s2, _⟩ := own_facts hown6
        refine bodyPost_ret (results_cell2 (g := w.heap.size + 1) rfl _ _ 24 _ (0, 0) _ rfl ((((((hbq6.far (p := ⟨w.heap.size, 4, none⟩) (by simp) _).store 0 (.int .i64 C)).store 1 (.int .i64 R)).store 2 (.int .i64 B)).store 3 (.int .i64 F)).store 4 _) Try.underlying24 rfl (info24 _ _ _ _ _)) rfl ?_
        rw [← HK2.out]
        exact ⟨A6, _, rfl, s1, s2, Ints.of_own (ownsRow_setCell_below (ownsRow_setCell_below (ownsRow_setCell_below (ownsRow_setCell_below (ownsRow_setCell_below (ownsRow_setCell_below hown6 (a := ⟨w.heap.size, 4, none⟩) (show w.heap.size < wr.heap.size by omega) _) (a := ⟨w.heap.size + 1, 0, none⟩) (show w.heap.size + 1 < wr.heap.size by omega) _) (a := ⟨w.heap.size + 1, 1, none⟩) (show w.heap.size + 1 < wr.heap.size by omega) _) (a := ⟨w.heap.size + 1, 2, none⟩) (show w.heap.size + 1 < wr.heap.size by omega) _) (a := ⟨w.heap.size + 1, 3, none⟩) (show w.heap.size + 1 < wr.heap.size by omega) _) (a := ⟨w.heap.size + 1, 4, none⟩) (show w.heap.size + 1 < wr.heap.size by omega) _), (((((((below_next hbw hbw.size hb6x).setCell (p := ⟨w.heap.size, 4, none⟩) (by simp) _).setCell (p := ⟨w.heap.size + 1, 0, none⟩) (by simp) _).setCell (p := ⟨w.heap.size + 1, 1, none⟩) (by simp) _).setCell (p := ⟨w.heap.size + 1, 2, none⟩) (by simp) _).setCell (p := ⟨w.heap.size + 1, 3, none⟩) (by simp) _).setCell (p := ⟨w.heap.size + 1, 4, none⟩) (by simp) _)⟩

set_option maxRecDepth 100000 in
set_option maxHeartbeats 1000000 in
theorem columns30_any (C R B F : Int) (A : Option Addr) (cap : Nat) (cl : List Int) (D : Option Addr) (dap : Nat) (l : List Int) (w : World) (hB : B ≤ 9223372036854775807) (hcl : cl.length ≤ 9223372036854775807) (hll : l.length ≤ 9223372036854775807) (hr : Ints w w.heap.size A cl) (hl : Ints w w.heap.size D l) :
    Calls Try.prog 30 #[.agg #[.int .i64 C, .int .i64 R, .int .i64 B, .int .i64 F, .slice A cl.length cap], .slice D l.length dap] w (RetInts2 w (if holesErr C R B F cl l = 0 then cols (isIn (colm C l)) else []) (holesErr C R B F cl l)) := by
  have hb0 := below_new w (.cells #[.int .i64 C, .int .i64 R, .int .i64 B, .int .i64 F, .slice A cl.length cap] 24)
  have hbk := Blk.new w 24 #[.int .i64 C, .int .i64 R, .int .i64 B, .int .i64 F, .slice A cl.length cap]
  have hr1 := hr.behind hb0
  have hl1 := hl.behind hb0
  by_cases he : holesErr C R B F cl l = 0
  · have hk := holesErr_zero.1 he
    have k1 := hk.ok.c3
    have k2 := hk.ok.c120
    have hlen := hk.len
    have hpos : ∀ x ∈ l, 0 ≤ x := fun x hx => (hk.all x hx).1
    rw [if_pos he, he]
    have HE := Lib.hid he
    clear he hk
    go_enter Try.func30, Try.ntmps30
    go_wp2_with (first
      | (go_at_call 76; refine (checkHoles_any _ hB hcl hr1 hl1 hll).mono ?_; rw [HE.out]; rintro e w1 ⟨rfl, hb1⟩; obtain ⟨d0, d1, d2, d3, d4⟩ := (hbk.below hb1 hbk.lt).five)
      | (go_at_call 77; refine (columnsOf_any C R B F _ l D dap _ (by omega) k2 (by omega) hpos (hl1.behind hb1)).mono ?_; rintro e w2 ⟨rfl, hb2⟩)
      | (go_at_call 78; refine (list_any _ _).mono ?_; rintro e w3 ⟨S, sap, rfl, s1, s2, s3, hb3⟩))
    go_ret2
    exact ⟨S, sap, rfl, s1, s2, s3, below_next (below_next (below_next hb0 hb0.size hb1) (by have := hb1.size; simp at this; omega) hb2) (by have := hb1.size; have := hb2.size; simp at *; omega) hb3⟩
  · have n1 : (holesErr C R B F cl l == 0) = false := by simpa using he
    have n2 : (holesErr C R B F cl l != 0) = true := by simpa using he
    rw [if_neg he]
    clear he
    go_enter Try.func30, Try.ntmps30
    go_wp2_with (first
      | (go_at_call 76; refine (checkHoles_any _ hB hcl hr1 hl1 hll).mono ?_; rintro e w1 ⟨rfl, hb1⟩))
    go_ret2
    exact RetInts2.err (below_next hb0 hb0.size hb1)

end Go.Proofs.Ytnjmkdgglpcfpaa
