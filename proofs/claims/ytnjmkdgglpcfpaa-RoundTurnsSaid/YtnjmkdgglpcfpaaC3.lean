import Derived.Test.YtnjmkdgglpcfpaaM5
namespace Go.Proofs.Ytnjmkdgglpcfpaa
set_option linter.unusedSimpArgs false
set_option linter.unusedVariables false
open Go.RowKit

theorem addr_zero (a : Addr) : a.add 0 = a := if_pos rfl
/-- how far it is from a stand to the next one -/
def gapAt (C : Int) (l : List Int) (k : Nat) : Int := if k + 1 < l.length then l.getD (k + 1) 0 - l.getD k 0 else l.getD 0 0 + C - l.getD k 0
def gapsTo (C : Int) (l : List Int) (k : Nat) : List Int := (List.range k).map (gapAt C l)
theorem gapsTo_len (C : Int) (l : List Int) (k : Nat) : (gapsTo C l k).length = k := by simp [gapsTo]
theorem gapsTo_succ (C : Int) (l : List Int) (k : Nat) : gapsTo C l (k + 1) = gapsTo C l k ++ [gapAt C l k] := by simp [gapsTo, List.range_succ]
def gapErr (C R B F : Int) (cl l : List Int) : Int := if chk C R B F cl ≠ 0 then chk C R B F cl else standsErr C cl l

set_option maxRecDepth 100000 in
set_option maxHeartbeats 4000000 in
theorem gaps_any (C R B F : Int) (A : Option Addr) (cap : Nat) (cl : List Int) (D : Option Addr) (dap : Nat) (l : List Int) (w : World) (hB : B ≤ 9223372036854775807) (hcl : cl.length ≤ 9223372036854775807) (hll : l.length ≤ 9223372036854775807) (hr : Ints w w.heap.size A cl) (hl : Ints w w.heap.size D l) :
    Calls Try.prog 49 #[.agg #[.int .i64 C, .int .i64 R, .int .i64 B, .int .i64 F, .slice A cl.length cap], .slice D l.length dap] w (RetInts2 w (if gapErr C R B F cl l = 0 then gapsTo C l l.length else []) (gapErr C R B F cl l)) := by
  have hb0 := below_new w (.cells #[.int .i64 C, .int .i64 R, .int .i64 B, .int .i64 F, .slice A cl.length cap] 24)
  have hbk := Blk.new w 24 #[.int .i64 C, .int .i64 R, .int .i64 B, .int .i64 F, .slice A cl.length cap]
  have hr1 := hr.behind hb0
  have hl1 := hl.behind hb0
  by_cases hok : Ok C R B F cl
  case neg =>
    obtain ⟨n1, n2⟩ := chk_ne hok
    have he : gapErr C R B F cl l = chk C R B F cl := if_pos fun e => hok (chk_ok.1 e)
    rw [he, if_neg fun e => hok (chk_ok.1 e)]
    clear hok he
    go_enter Try.func49, Try.ntmps49
    go_wp2_with (first
      | (go_at_call 26; refine (check_any C R B F A cap cl _ hB hcl hr1).mono ?_; rintro e w1 ⟨rfl, hb1⟩))
    go_ret2
    exact RetInts2.err (below_next hb0 hb0.size hb1)
  case pos =>
  have hz : Hid (chk C R B F cl = 0) := chk_ok.2 hok
  have he : gapErr C R B F cl l = standsErr C cl l := if_neg fun e => e (chk_ok.2 hok)
  rw [he]
  clear he
  have q1 := hok.c3
  have q2 := hok.c120
  by_cases hs : standsErr C cl l = 0
  case neg =>
    have n1 : (standsErr C cl l == 0) = false := by simpa using hs
    have n2 : (standsErr C cl l != 0) = true := by simpa using hs
    rw [if_neg hs]
    clear hs
    go_enter Try.func49, Try.ntmps49
    go_wp2_with (first
      | (go_at_call 26; refine (check_any C R B F A cap cl _ hB hcl hr1).mono ?_; rw [hz.out]; rintro e w1 ⟨rfl, hb1⟩; have hbk1 := hbk.below hb1 hbk.lt; obtain ⟨d0, d1, d2, d3, d4⟩ := hbk1.five)
      | (go_at_call 81; refine (checkStands_any _ hok (hr1.behind hb1) (hl1.behind hb1) hll).mono ?_; rintro e w2 ⟨rfl, hb2⟩))
    go_ret2
    exact RetInts2.err (below_next (below_next hb0 hb0.size hb1) (by have := hb1.size; simp at this; omega) hb2)
  case pos =>
  obtain ⟨hl200, hrise, _⟩ := standsErr_zero hs
  have hM : Hid (∀ x ∈ l, 0 ≤ x ∧ x < C) := hrise.2
  have HS := Lib.hid hs
  rw [if_pos hs, hs]
  clear hs hrise
  go_enter Try.func49, Try.ntmps49
  go_wp2_with (first
    | (go_at_call 26; refine (check_any C R B F A cap cl _ hB hcl hr1).mono ?_; rw [hz.out]; rintro e w1 ⟨rfl, hb1⟩; have hbk1 := hbk.below hb1 hbk.lt; obtain ⟨d0, d1, d2, d3, d4⟩ := hbk1.five)
    | (go_at_call 81; refine (checkStands_any _ hok (hr1.behind hb1) (hl1.behind hb1) hll).mono ?_; rw [HS.out]; rintro e w2 ⟨rfl, hb2⟩))
  have hbk2 := hbk1.below hb2 hbk1.lt
  have hba := below_next (below_next hb0 hb0.size hb1) (by have := hb1.size; simp at this; omega) hb2
  have hl2 := hl.behind hba
  clear hr1 hl1 hb0 hb1 hb2 hbk hbk1 d0 d1 d2 d3 d4 hr hl hok
  go_loopw [8, 24] (fun v i wr => ∃ (k : Nat) (A' : Option Addr) (c' : Nat), k ≤ l.length ∧ i = .int .i64 k ∧ v = .slice A' (gapsTo C l k).length c' ∧ Below w2.heap.size w2 wr ∧ wr.ownsRow w2.heap.size 3 1 (.slice A' (gapsTo C l k).length c') (gapsTo C l k).length ((gapsTo C l k).map (Value.int .i64)))
    (fun _ i _ => l.length - (intOf i).toNat)
  case atStart => exact ⟨0, none, 0, Nat.zero_le _, rfl, rfl, Below.refl _ _, World.ownsRow_nil _ _ _ _⟩
  case round =>
    obtain ⟨k, A', c', hk, rfl, rfl, hb, hown⟩ := hrel
    have hbw := below_next hba hba.size hb
    have hbkr := hbk2.below hb hbk2.lt
    have hltk := hbk2.lt
    have hzr := hb.size
    obtain ⟨d0, d1, d2, d3, d4⟩ := hbkr.five
    have hgl : (gapsTo C l k).length ≤ 200 := by rw [gapsTo_len]; omega
    by_cases hlt : k < l.length
    · obtain ⟨ad, hA, hadb, hce⟩ := (hl2.behind hb).get hlt
      subst hA
      have hx := hM.out _ (List.getElem_mem hlt)
      have hlt2 : (k : Int) < (l.length : Int) := by omega
      have HG := Lib.hid (gapsTo_succ C l k)
      by_cases hn : k + 1 < l.length
      · obtain ⟨ad', hA', hadb', hcn⟩ := (hl2.behind hb).get hn
        cases hA'
        have hy := hM.out _ (List.getElem_mem hn)
        have hg : Hid (gapAt C l k = l[k + 1] - l[k]) := by
          unfold Hid gapAt
          rw [if_pos hn]
          simp [List.getD, hn, hlt]
        have e1 : (k : Int) + 1 < (l.length : Int) := by omega
        have e2 : decide ((k : Int) + 1 < (l.length : Int)) = true := decide_eq_true e1
        have e3 : (0 : Int) ≤ (k : Int) + 1 := by omega
        have e4 : ((k : Int) + 1).toNat = k + 1 := by omega
        have e5 : IntKind.i64.wrap ((k : Int) + 1) = (k : Int) + 1 := IntWalk.i64_in _ (by omega)
        rw [addr_succ] at hcn
        generalize l[k] = x at *
        generalize l[k + 1] = y at *
        generalize gapsTo C l k = gs at *
        go_wp2_with (first
          | (at_builtin; refine app1 (by rfl) _ _ (by rfl) w2.heap.size gs (y - x) _ (by rfl) hown (by rfl) (by omega) (by omega) ?_; intro A5 c5 w5 hown5 hb5))
        go_roundw
        case rel => exact ⟨k + 1, A5, c5, by omega, by go_num, by rw [HG.out]; simp, hb.trans hb5, by rw [HG.out, hg.out]; exact hown5⟩
        case measure => simp [intOf]; try omega
      · obtain ⟨ad', hA', hadb', hcw⟩ := hl2.get (k := 0) (by omega)
        cases hA'
        rw [addr_zero] at hcw
        have hc0 := (hb.cell (p := ad) (by simpa [addr_zero] using hadb')).trans hcw
        have e9 : 0 < l.length := by omega
        have hy := hM.out _ (List.getElem_mem (show 0 < l.length by omega))
        have hg : Hid (gapAt C l k = l[0]'(by omega) + C - l[k]) := by
          unfold Hid gapAt
          rw [if_neg hn]
          have : 0 < l.length := by omega
          simp [List.getD, hlt, this]
        have e1 : ¬ (k : Int) + 1 < (l.length : Int) := by omega
        have e2 : decide ((k : Int) + 1 < (l.length : Int)) = false := decide_eq_false e1
        have e5 : IntKind.i64.wrap ((k : Int) + 1) = (k : Int) + 1 := IntWalk.i64_in _ (by omega)
        have e6 : (0 : Int) < (l.length : Int) := by omega
        generalize l[k] = x at *
        generalize l[0]'(by omega) = y at *
        have e7 : IntKind.i64.wrap (y + C) = y + C := IntWalk.i64_in _ (by omega)
        have e8 : IntKind.i64.wrap (y + C - x) = y + C - x := IntWalk.i64_in _ (by omega)
        generalize gapsTo C l k = gs at *
        go_wp2_with fail
        go_region_held3 (fun w' => w'.cell? ⟨w.heap.size, 0, none⟩ = some (.int .i64 C) ∧ w'.cell? ad = some (.int .i64 y)) (first | exact K2 | exact ⟨d0, hc0⟩ | go_keep)
          (first
            | (rw [if_pos (by rfl)]; refine wp_appI _ _ (by rfl) w2.heap.size gs (y + C - x) (.slice A' gs.length c') (by rfl) (by first | with_reducible exact (own_below hown (Below.refl _ _).drew).alloc _ | with_reducible exact (hown.alloc _).drew) ⟨_, 0, none⟩ (by rfl) (by first | exact (Blk.new _ 3 #[.int .i64 (y + C - x)]).cell 0) (by omega) (by simp; omega) ?_; intro A5 c5 w5 hown5 hb5; have hbx : Below w2.heap.size w2 w5 := (by first | exact ((hb.trans (Below.refl _ _).drew).alloc (by simpa using hzr) _).trans hb5 | exact (((hb.alloc hzr _).trans (Below.refl _ _).drew)).trans hb5); have hbk5 := hbk2.below hbx hltk; have K2 : w5.cell? ⟨w.heap.size, 0, none⟩ = some (.int .i64 C) ∧ w5.cell? ad = some (.int .i64 y) := ⟨hbk5.cell 0, (hbx.cell (p := ad) hadb').trans hcw⟩))
        all_goals (
          go_wp2_with fail
          go_roundw
          case rel => exact ⟨k + 1, A5, c5, by omega, by go_num, by rw [HG.out]; simp, hbx, by rw [HG.out, hg.out]; exact hown5⟩
          case measure => simp [intOf]; try omega)
    · obtain rfl : k = l.length := by omega
      go_wp2_with fail
      go_ret2
      exact RetInts2.of_own hown hbw

end Go.Proofs.Ytnjmkdgglpcfpaa
