import Derived.Test.YtbhiphjifdnhmaaGreatDoorK18
import Derived.Test.YtbhiphjifdnhmaaGreatDoorK24
import Derived.Test.YtbhiphjifdnhmaaGreatDoorR1
set_option linter.unusedSimpArgs false
set_option linter.unusedVariables false
/- formed, Calendar, checkKnown, checkName. -/
namespace Go.Proofs.YtbhiphjifdnhmaaGreatDoor
open Go.RowKit Go.Maps
def emptyB (s : ByteArray) : Bool := s.toList.isEmpty
/-- a definition is formed -/
def formedB (d : Df) : Bool := (nameB d.name && dayB d.known) &&
 (if d.kind = 1 then (emptyB d.of && emptyB d.wth) && vok d.days
 else if d.kind = 2 then (nameB d.of && emptyB d.wth) && vok d.days
 else if d.kind = 3 ∨ d.kind = 4 then (nameB d.of && nameB d.wth) && sameV d.days zeroV
 else false)
theorem wpl_eq26z {ops : Array Oper} {rest : List Oper} {o : Oper} {a : Act} {w : World} {Q : Exit → Act → World → Prop} (hgd : Region.wanted o (yielded ops a.tmps) = true) (x y : Operand) (t : TypeId) (ho : o.op = .binOp .eql 26 x y t) (v u : Nat → Int) (hx : a.eval x = .agg (va v)) (hy : a.eval y = .agg (va u))
  (h : wpList Tryz.prog ops Q rest (a.put o.dst (.bool (sameV v u))) w) : wpList Tryz.prog ops Q (o :: rest) a w :=
 wpList_step fun _ hK => by
  rw [if_pos hgd]
  unfold Oper.wp execOp
  simp only [ho, hx, hy, Sem.run_bind, guard26, run_eq26, Result.andThen_ok, Sem.run_pure]
  exact hK _ _ h
theorem str_yes {s : ByteArray} (h : emptyB s = true) : s.toList.isEmpty = true ∧ s.toList = [] := ⟨h, List.isEmpty_iff.1 h⟩
theorem str_no {s : ByteArray} (h : emptyB s = false) : s.toList.isEmpty = false ∧ ¬ s.toList = [] := ⟨h, fun e => by unfold emptyB at h; rw [e] at h; cases h⟩
set_option maxRecDepth 100000 in
set_option maxHeartbeats 8000000 in
theorem formed_any (d : Df) (w : World) (hs : d.name.size ≤ maxLen) (hos : d.of.size ≤ maxLen) (hws : d.wth.size ≤ maxLen) :
  Calls Tryz.prog 84 #[.agg (dfA d)] w fun e w' => e = .returned (.bool (formedB d)) ∧ Below w.heap.size w w' := by
 have kD := Blk.new w 60 (dfA d)
 have hb0 := below_new w (.cells (dfA d) 60)
 obtain ⟨d0, d1, d2, d3, d4⟩ := kD.df
 obtain ⟨R, hR⟩ : ∃ R, R = formedB d := ⟨_, rfl⟩
 rw [← hR]
 unfold formedB at hR
 cases hn : nameB d.name
 ·have HR := Lib.hid (show R = false by rw [hR, hn]; rfl)
  have HN := Lib.hid hn
  clear hR hn
  go_enter Tryz.func84, Tryz.ntmps84
  go_wp2_with (first
   | go_skip
   | (go_at_call 121; refine (isName_any _ (by assumption) _).mono ?_; (first | rw [HN.out] | rw [HO.out] | rw [HW.out]); rintro e w1 ⟨rfl, rfl⟩)
   | (go_at_call 122; refine (isDay_any _ _).mono ?_; rw [HD.out]; rintro e w1 ⟨rfl, rfl⟩)
   | (refine ldDaysG 26 (by rfl) rfl kD rfl ?_)
   | (refine ldDaysG 42 (by rfl) rfl kD rfl ?_)
   | (refine ldDaysG 59 (by rfl) rfl kD rfl ?_)
   | (refine wpl_eq26z (by rfl) (.tmp 60) (.tmp 61) _ rfl d.days zeroV rfl (by kernel_rfl) ?_)
   | (go_at_call 14; refine (check_any _ _).mono ?_; rw [HV.out]; rintro e w2 ⟨rfl, hb2⟩))
  go_ret
  exact ⟨ret_bool (by first | exact HR.out.symm | (rw [HR.out]; rfl)), by first | exact below_next hb0 (by simp) hb2 | exact hb0⟩
 ·have HN := Lib.hid hn
  rw [hn] at hR
  clear hn
  cases hd : dayB d.known
  ·have HR := Lib.hid (show R = false by rw [hR, hd]; rfl)
   have HD := Lib.hid hd
   clear hR hd
   go_enter Tryz.func84, Tryz.ntmps84
   go_wp2_with (first
    | go_skip
    | (go_at_call 121; refine (isName_any _ (by assumption) _).mono ?_; (first | rw [HN.out] | rw [HO.out] | rw [HW.out]); rintro e w1 ⟨rfl, rfl⟩)
    | (go_at_call 122; refine (isDay_any _ _).mono ?_; rw [HD.out]; rintro e w1 ⟨rfl, rfl⟩)
    | (refine ldDaysG 26 (by rfl) rfl kD rfl ?_)
    | (refine ldDaysG 42 (by rfl) rfl kD rfl ?_)
    | (refine ldDaysG 59 (by rfl) rfl kD rfl ?_)
    | (refine wpl_eq26z (by rfl) (.tmp 60) (.tmp 61) _ rfl d.days zeroV rfl (by kernel_rfl) ?_)
    | (go_at_call 14; refine (check_any _ _).mono ?_; rw [HV.out]; rintro e w2 ⟨rfl, hb2⟩))
   go_ret
   exact ⟨ret_bool (by first | exact HR.out.symm | (rw [HR.out]; rfl)), by first | exact below_next hb0 (by simp) hb2 | exact hb0⟩
  ·have HD := Lib.hid hd
   rw [hd, Bool.true_and, Bool.true_and] at hR
   clear hd
   by_cases h1 : d.kind = 1
   ·rw [if_pos h1] at hR
    rw [h1] at d2
    clear h1
    rcases Bool.eq_false_or_eq_true (emptyB d.of) with he | he
    ·rw [he, Bool.true_and] at hR
     obtain ⟨sof1, sof2⟩ := str_yes he
     clear he
     rcases Bool.eq_false_or_eq_true (emptyB d.wth) with he | he
     ·rw [he, Bool.true_and] at hR
      obtain ⟨swth1, swth2⟩ := str_yes he
      clear he
      cases hv : vok d.days
      all_goals
       have HR := Lib.hid (hR.trans hv)
       have HV := Lib.hid (show chkV d.days = _ by first | exact chkV_ok hv | exact chkV_no hv)
       clear hR hv
       go_enter Tryz.func84, Tryz.ntmps84
       go_wp2_with (first
        | go_skip
        | (go_at_call 121; refine (isName_any _ (by assumption) _).mono ?_; (first | rw [HN.out] | rw [HO.out] | rw [HW.out]); rintro e w1 ⟨rfl, rfl⟩)
        | (go_at_call 122; refine (isDay_any _ _).mono ?_; rw [HD.out]; rintro e w1 ⟨rfl, rfl⟩)
        | (refine ldDaysG 26 (by rfl) rfl kD rfl ?_)
        | (refine ldDaysG 42 (by rfl) rfl kD rfl ?_)
        | (refine ldDaysG 59 (by rfl) rfl kD rfl ?_)
        | (refine wpl_eq26z (by rfl) (.tmp 60) (.tmp 61) _ rfl d.days zeroV rfl (by kernel_rfl) ?_)
        | (go_at_call 14; refine (check_any _ _).mono ?_; rw [HV.out]; rintro e w2 ⟨rfl, hb2⟩))
       go_ret
       exact ⟨ret_bool (by first | exact HR.out.symm | (rw [HR.out]; rfl)), by first | exact below_next hb0 (by simp) hb2 | exact hb0⟩
     ·have HR := Lib.hid (show R = false by rw [hR, he]; rfl)
      obtain ⟨swth1, swth2⟩ := str_no he
      clear he
      clear hR
      go_enter Tryz.func84, Tryz.ntmps84
      go_wp2_with (first
       | go_skip
       | (go_at_call 121; refine (isName_any _ (by assumption) _).mono ?_; (first | rw [HN.out] | rw [HO.out] | rw [HW.out]); rintro e w1 ⟨rfl, rfl⟩)
       | (go_at_call 122; refine (isDay_any _ _).mono ?_; rw [HD.out]; rintro e w1 ⟨rfl, rfl⟩)
       | (refine ldDaysG 26 (by rfl) rfl kD rfl ?_)
       | (refine ldDaysG 42 (by rfl) rfl kD rfl ?_)
       | (refine ldDaysG 59 (by rfl) rfl kD rfl ?_)
       | (refine wpl_eq26z (by rfl) (.tmp 60) (.tmp 61) _ rfl d.days zeroV rfl (by kernel_rfl) ?_)
       | (go_at_call 14; refine (check_any _ _).mono ?_; rw [HV.out]; rintro e w2 ⟨rfl, hb2⟩))
      go_ret
      exact ⟨ret_bool (by first | exact HR.out.symm | (rw [HR.out]; rfl)), by first | exact below_next hb0 (by simp) hb2 | exact hb0⟩
    ·have HR := Lib.hid (show R = false by rw [hR, he]; rfl)
     obtain ⟨sof1, sof2⟩ := str_no he
     clear he
     clear hR
     go_enter Tryz.func84, Tryz.ntmps84
     go_wp2_with (first
      | go_skip
      | (go_at_call 121; refine (isName_any _ (by assumption) _).mono ?_; (first | rw [HN.out] | rw [HO.out] | rw [HW.out]); rintro e w1 ⟨rfl, rfl⟩)
      | (go_at_call 122; refine (isDay_any _ _).mono ?_; rw [HD.out]; rintro e w1 ⟨rfl, rfl⟩)
      | (refine ldDaysG 26 (by rfl) rfl kD rfl ?_)
      | (refine ldDaysG 42 (by rfl) rfl kD rfl ?_)
      | (refine ldDaysG 59 (by rfl) rfl kD rfl ?_)
      | (refine wpl_eq26z (by rfl) (.tmp 60) (.tmp 61) _ rfl d.days zeroV rfl (by kernel_rfl) ?_)
      | (go_at_call 14; refine (check_any _ _).mono ?_; rw [HV.out]; rintro e w2 ⟨rfl, hb2⟩))
     go_ret
     exact ⟨ret_bool (by first | exact HR.out.symm | (rw [HR.out]; rfl)), by first | exact below_next hb0 (by simp) hb2 | exact hb0⟩
   ·rw [if_neg h1] at hR
    have k1 : (d.kind == 1) = false := by simp [h1]
    by_cases h2 : d.kind = 2
    ·rw [if_pos h2] at hR
     rw [h2] at d2
     clear h1 h2 k1
     cases ho : nameB d.of
     ·have HR := Lib.hid (show R = false by rw [hR, ho]; rfl)
      have HO := Lib.hid ho
      clear hR ho
      go_enter Tryz.func84, Tryz.ntmps84
      go_wp2_with (first
       | go_skip
       | (go_at_call 121; refine (isName_any _ (by assumption) _).mono ?_; (first | rw [HN.out] | rw [HO.out] | rw [HW.out]); rintro e w1 ⟨rfl, rfl⟩)
       | (go_at_call 122; refine (isDay_any _ _).mono ?_; rw [HD.out]; rintro e w1 ⟨rfl, rfl⟩)
       | (refine ldDaysG 26 (by rfl) rfl kD rfl ?_)
       | (refine ldDaysG 42 (by rfl) rfl kD rfl ?_)
       | (refine ldDaysG 59 (by rfl) rfl kD rfl ?_)
       | (refine wpl_eq26z (by rfl) (.tmp 60) (.tmp 61) _ rfl d.days zeroV rfl (by kernel_rfl) ?_)
       | (go_at_call 14; refine (check_any _ _).mono ?_; rw [HV.out]; rintro e w2 ⟨rfl, hb2⟩))
      go_ret
      exact ⟨ret_bool (by first | exact HR.out.symm | (rw [HR.out]; rfl)), by first | exact below_next hb0 (by simp) hb2 | exact hb0⟩
     ·have HO := Lib.hid ho
      rw [ho, Bool.true_and] at hR
      clear ho
      rcases Bool.eq_false_or_eq_true (emptyB d.wth) with he | he
      ·rw [he, Bool.true_and] at hR
       obtain ⟨swth1, swth2⟩ := str_yes he
       clear he
       cases hv : vok d.days
       all_goals
        have HR := Lib.hid (hR.trans hv)
        have HV := Lib.hid (show chkV d.days = _ by first | exact chkV_ok hv | exact chkV_no hv)
        clear hR hv
        go_enter Tryz.func84, Tryz.ntmps84
        go_wp2_with (first
         | go_skip
         | (go_at_call 121; refine (isName_any _ (by assumption) _).mono ?_; (first | rw [HN.out] | rw [HO.out] | rw [HW.out]); rintro e w1 ⟨rfl, rfl⟩)
         | (go_at_call 122; refine (isDay_any _ _).mono ?_; rw [HD.out]; rintro e w1 ⟨rfl, rfl⟩)
         | (refine ldDaysG 26 (by rfl) rfl kD rfl ?_)
         | (refine ldDaysG 42 (by rfl) rfl kD rfl ?_)
         | (refine ldDaysG 59 (by rfl) rfl kD rfl ?_)
         | (refine wpl_eq26z (by rfl) (.tmp 60) (.tmp 61) _ rfl d.days zeroV rfl (by kernel_rfl) ?_)
         | (go_at_call 14; refine (check_any _ _).mono ?_; rw [HV.out]; rintro e w2 ⟨rfl, hb2⟩))
        go_ret
        exact ⟨ret_bool (by first | exact HR.out.symm | (rw [HR.out]; rfl)), by first | exact below_next hb0 (by simp) hb2 | exact hb0⟩
      ·have HR := Lib.hid (show R = false by rw [hR, he]; rfl)
       obtain ⟨swth1, swth2⟩ := str_no he
       clear he
       clear hR
       go_enter Tryz.func84, Tryz.ntmps84
       go_wp2_with (first
        | go_skip
        | (go_at_call 121; refine (isName_any _ (by assumption) _).mono ?_; (first | rw [HN.out] | rw [HO.out] | rw [HW.out]); rintro e w1 ⟨rfl, rfl⟩)
        | (go_at_call 122; refine (isDay_any _ _).mono ?_; rw [HD.out]; rintro e w1 ⟨rfl, rfl⟩)
        | (refine ldDaysG 26 (by rfl) rfl kD rfl ?_)
        | (refine ldDaysG 42 (by rfl) rfl kD rfl ?_)
        | (refine ldDaysG 59 (by rfl) rfl kD rfl ?_)
        | (refine wpl_eq26z (by rfl) (.tmp 60) (.tmp 61) _ rfl d.days zeroV rfl (by kernel_rfl) ?_)
        | (go_at_call 14; refine (check_any _ _).mono ?_; rw [HV.out]; rintro e w2 ⟨rfl, hb2⟩))
       go_ret
       exact ⟨ret_bool (by first | exact HR.out.symm | (rw [HR.out]; rfl)), by first | exact below_next hb0 (by simp) hb2 | exact hb0⟩
    ·rw [if_neg h2] at hR
     have k2 : (d.kind == 2) = false := by simp [h2]
     by_cases h3 : d.kind = 3 ∨ d.kind = 4
     ·rw [if_pos h3] at hR
      cases ho : nameB d.of
      ·have HR := Lib.hid (show R = false by rw [hR, ho]; rfl)
       have HO := Lib.hid ho
       clear hR ho
       rcases h3 with h3 | h3
       all_goals
        rw [h3] at d2
        clear h1 h2 k1 k2 h3
        go_enter Tryz.func84, Tryz.ntmps84
        go_wp2_with (first
         | go_skip
         | (go_at_call 121; refine (isName_any _ (by assumption) _).mono ?_; (first | rw [HN.out] | rw [HO.out] | rw [HW.out]); rintro e w1 ⟨rfl, rfl⟩)
         | (go_at_call 122; refine (isDay_any _ _).mono ?_; rw [HD.out]; rintro e w1 ⟨rfl, rfl⟩)
         | (refine ldDaysG 26 (by rfl) rfl kD rfl ?_)
         | (refine ldDaysG 42 (by rfl) rfl kD rfl ?_)
         | (refine ldDaysG 59 (by rfl) rfl kD rfl ?_)
         | (refine wpl_eq26z (by rfl) (.tmp 60) (.tmp 61) _ rfl d.days zeroV rfl (by kernel_rfl) ?_)
         | (go_at_call 14; refine (check_any _ _).mono ?_; rw [HV.out]; rintro e w2 ⟨rfl, hb2⟩))
        go_ret
        exact ⟨ret_bool (by first | exact HR.out.symm | (rw [HR.out]; rfl)), by first | exact below_next hb0 (by simp) hb2 | exact hb0⟩
      ·have HO := Lib.hid ho
       rw [ho, Bool.true_and] at hR
       clear ho
       cases hw : nameB d.wth
       ·have HR := Lib.hid (show R = false by rw [hR, hw]; rfl)
        have HW := Lib.hid hw
        clear hR hw
        rcases h3 with h3 | h3
        all_goals
         rw [h3] at d2
         clear h1 h2 k1 k2 h3
         go_enter Tryz.func84, Tryz.ntmps84
         go_wp2_with (first
          | go_skip
          | (go_at_call 121; refine (isName_any _ (by assumption) _).mono ?_; (first | rw [HN.out] | rw [HO.out] | rw [HW.out]); rintro e w1 ⟨rfl, rfl⟩)
          | (go_at_call 122; refine (isDay_any _ _).mono ?_; rw [HD.out]; rintro e w1 ⟨rfl, rfl⟩)
          | (refine ldDaysG 26 (by rfl) rfl kD rfl ?_)
          | (refine ldDaysG 42 (by rfl) rfl kD rfl ?_)
          | (refine ldDaysG 59 (by rfl) rfl kD rfl ?_)
          | (refine wpl_eq26z (by rfl) (.tmp 60) (.tmp 61) _ rfl d.days zeroV rfl (by kernel_rfl) ?_)
          | (go_at_call 14; refine (check_any _ _).mono ?_; rw [HV.out]; rintro e w2 ⟨rfl, hb2⟩))
         go_ret
         exact ⟨ret_bool (by first | exact HR.out.symm | (rw [HR.out]; rfl)), by first | exact below_next hb0 (by simp) hb2 | exact hb0⟩
       ·have HW := Lib.hid hw
        rw [hw, Bool.true_and] at hR
        clear hw
        have HR := Lib.hid hR
        clear hR
        rcases h3 with h3 | h3
        all_goals
         rw [h3] at d2
         clear h1 h2 k1 k2 h3
         go_enter Tryz.func84, Tryz.ntmps84
         go_wp2_with (first
          | go_skip
          | (go_at_call 121; refine (isName_any _ (by assumption) _).mono ?_; (first | rw [HN.out] | rw [HO.out] | rw [HW.out]); rintro e w1 ⟨rfl, rfl⟩)
          | (go_at_call 122; refine (isDay_any _ _).mono ?_; rw [HD.out]; rintro e w1 ⟨rfl, rfl⟩)
          | (refine ldDaysG 26 (by rfl) rfl kD rfl ?_)
          | (refine ldDaysG 42 (by rfl) rfl kD rfl ?_)
          | (refine ldDaysG 59 (by rfl) rfl kD rfl ?_)
          | (refine wpl_eq26z (by rfl) (.tmp 60) (.tmp 61) _ rfl d.days zeroV rfl (by kernel_rfl) ?_)
          | (go_at_call 14; refine (check_any _ _).mono ?_; rw [HV.out]; rintro e w2 ⟨rfl, hb2⟩))
         go_ret
         exact ⟨ret_bool (by first | exact HR.out.symm | (rw [HR.out]; rfl)), by first | exact below_next hb0 (by simp) hb2 | exact hb0⟩
     ·rw [if_neg h3] at hR
      have HR := Lib.hid hR
      clear hR
      have k3 : (d.kind == 3) = false := by simp; omega
      have k4 : (d.kind == 4) = false := by simp; omega
      have h3' : ¬ d.kind = 3 := by omega
      have h4' : ¬ d.kind = 4 := by omega
      go_enter Tryz.func84, Tryz.ntmps84
      go_wp2_with (first
       | go_skip
       | (go_at_call 121; refine (isName_any _ (by assumption) _).mono ?_; (first | rw [HN.out] | rw [HO.out] | rw [HW.out]); rintro e w1 ⟨rfl, rfl⟩)
       | (go_at_call 122; refine (isDay_any _ _).mono ?_; rw [HD.out]; rintro e w1 ⟨rfl, rfl⟩)
       | (refine ldDaysG 26 (by rfl) rfl kD rfl ?_)
       | (refine ldDaysG 42 (by rfl) rfl kD rfl ?_)
       | (refine ldDaysG 59 (by rfl) rfl kD rfl ?_)
       | (refine wpl_eq26z (by rfl) (.tmp 60) (.tmp 61) _ rfl d.days zeroV rfl (by kernel_rfl) ?_)
       | (go_at_call 14; refine (check_any _ _).mono ?_; rw [HV.out]; rintro e w2 ⟨rfl, hb2⟩))
      go_ret
      exact ⟨ret_bool (by first | exact HR.out.symm | (rw [HR.out]; rfl)), by first | exact below_next hb0 (by simp) hb2 | exact hb0⟩
end Go.Proofs.YtbhiphjifdnhmaaGreatDoor
namespace Go.Proofs.YtbhiphjifdnhmaaGreatDoor
open Go.RowKit Go.Maps
def sameD (x y : Df) : Bool := decide (y.name = x.name) && decide (y.known = x.known)
/-- the first error of definitions, behind some -/
def calScan : List Df → List Df → Int
 | _, [] => 0
 | pre, x :: t => if formedB x = false then 7 else if pre.any (sameD x) = true then 6 else calScan (pre ++ [x]) t
/-- the first error of definitions -/
def calE (l : List Df) : Int := if 30 < l.length then 2 else calScan [] l
set_option maxRecDepth 100000 in
set_option maxHeartbeats 2000000 in
theorem calendar_in (A : Option Addr) (cap : Nat) (l : List Df) (w : World) (hl : l.length ≤ 30) (hc : l.length ≤ cap) (hcm : cap ≤ maxLen) (hD : Defs w w.heap.size A l) (hF : ∀ d ∈ l, ∀ w, Calls Tryz.prog 84 #[.agg (dfA d)] w fun e w' => e = .returned (.bool (formedB d)) ∧ Below w.heap.size w w') :
  Calls Tryz.prog 33 #[.slice A l.length cap] w fun e w' => e = .returned (.int .i64 (calScan [] l)) ∧ Below w.heap.size w w' := by
 obtain ⟨R, hR⟩ : ∃ R, R = calScan [] l := ⟨_, rfl⟩
 rw [← hR]
 have hR0 : Hid (R = calScan (l.take 0) (l.drop 0)) := Lib.hid hR
 clear hR
 have h30 : ¬ (30 : Int) < (l.length : Int) := by omega
 have HF := Lib.hid hF
 clear hF
 go_enter Tryz.func33, Tryz.ntmps33
 go_wp2_with fail
 go_loopw [12] (fun t12 wq => ∃ k : Nat, k ≤ l.length ∧ t12 = .int .i64 k ∧ Hid (R = calScan (l.take k) (l.drop k)) ∧ Below w.heap.size w wq) (fun t12 _ => l.length - (intOf t12).toNat)
 case atStart => exact ⟨0, by omega, rfl, hR0, Below.refl _ _⟩
 case round =>
  obtain ⟨k, hk, rfl, HRk, hb1⟩ := hrel
  clear hR0
  by_cases hlt : k < l.length
  ·obtain ⟨x, hx⟩ : ∃ x, l[k]? = some x := ⟨_, List.getElem?_eq_getElem hlt⟩
   obtain ⟨ag, ao, hA, hag, hcx⟩ := (hD.below hb1) k x hx
   subst hA
   have hr : wr.rangeAt ag (ao + k * 29) (dfL x) := hcx
   have kZ : Blk (wr.alloc (.cells #[.string ⟨#[]⟩, .int .i64 0, .int .i64 0, .string ⟨#[]⟩, .string ⟨#[]⟩, .int .i64 0, .int .i64 0, .int .i64 0, .int .i64 0, .int .i64 0, .int .i64 0, .int .i64 0, .int .i64 0, .int .i64 0, .int .i64 0, .int .i64 0, .int .i64 0, .int .i64 0, .int .i64 0, .int .i64 0, .int .i64 0, .int .i64 0, .int .i64 0, .int .i64 0, .int .i64 0, .int .i64 0, .int .i64 0, .int .i64 0, .int .i64 0] 60)) wr.heap.size 60 (dfA df0) := by rw [z60]; exact Blk.new _ _ _
   have kX := kZ.setRow (dfA x)
   have hbx : Below wr.heap.size wr ((wr.alloc (.cells #[.string ⟨#[]⟩, .int .i64 0, .int .i64 0, .string ⟨#[]⟩, .string ⟨#[]⟩, .int .i64 0, .int .i64 0, .int .i64 0, .int .i64 0, .int .i64 0, .int .i64 0, .int .i64 0, .int .i64 0, .int .i64 0, .int .i64 0, .int .i64 0, .int .i64 0, .int .i64 0, .int .i64 0, .int .i64 0, .int .i64 0, .int .i64 0, .int .i64 0, .int .i64 0, .int .i64 0, .int .i64 0, .int .i64 0, .int .i64 0, .int .i64 0] 60)).setRow wr.heap.size (dfA x)) := below_setRow (below_new _ _) (Nat.le_refl _) _
   have hFx := HF.out x (List.mem_of_getElem? hx)
   have HFx := Lib.hid hFx
   have HX := Lib.hid hx
   have hdr : calScan (l.take k) (l.drop k) = if formedB x = false then 7 else if (l.take k).any (sameD x) = true then 6 else calScan (l.take (k + 1)) (l.drop (k + 1)) := by
    obtain ⟨hlt2, hx2⟩ := List.getElem?_eq_some_iff.1 hx
    rw [List.drop_eq_getElem_cons hlt2, hx2, calScan, List.take_succ_eq_append_getElem hlt2, hx2]
   rw [hdr] at HRk
   clear hFx hx hdr
   obtain ⟨F, hF⟩ : ∃ F, F = formedB x := ⟨_, rfl⟩
   rw [← hF] at HRk HFx
   clear hF
   have hkc1 : k ≤ cap := by omega
   cases F
   ·have HR7 := Lib.hid (show R = 7 by rw [HRk.out, if_pos rfl])
    go_wp2_with (first
     | (refine ldD 15 rfl rfl hr rfl ?_)
     | (refine stD 4 16 rfl rfl kZ rfl rfl ?_)
     | (refine ldDr 4 rfl rfl kX rfl ?_)
     | (go_at_call 84; refine (HFx.out _).mono ?_; rintro e w2 ⟨rfl, hb2⟩))
    go_ret
    exact ⟨ret_int HR7.out.symm, below_next hb1 hb1.size (below_next hbx hbx.size hb2)⟩
   rw [if_neg (by simp)] at HRk
   go_wp2_with (first
    | (refine ldD 15 rfl rfl hr rfl ?_)
    | (refine stD 4 16 rfl rfl kZ rfl rfl ?_)
    | (refine ldDr 4 rfl rfl kX rfl ?_)
    | (go_at_call 84; refine (HFx.out _).mono ?_; rintro e w2 ⟨rfl, hb2⟩))
   have kX2 := kX.below hb2 kX.lt
   have hb3 := below_next hb1 hb1.size (below_next hbx hbx.size hb2)
   have hkl := kX2.lt
   clear kX kZ hbx hb2 hr hcx
   obtain ⟨X, hX⟩ : ∃ X, X = wr.heap.size := ⟨_, rfl⟩
   have hwX : w.heap.size ≤ X := by rw [hX]; exact hb1.size
   rw [← hX] at kX2 hkl ⊢
   clear hX
   have hno0 : Hid ((l.take 0).any (sameD x) = false) := Lib.hid rfl
   go_loopw [24] (fun t24 wq => ∃ j : Nat, j ≤ k ∧ t24 = .int .i64 j ∧ Hid ((l.take j).any (sameD x) = false) ∧ Blk wq X 60 (dfA x) ∧ Below w.heap.size w wq) (fun t24 _ => k - (intOf t24).toNat)
   case atStart => exact ⟨0, by omega, rfl, hno0, kX2, hb3⟩
   case round =>
    obtain ⟨j, hj, rfl, HNo, kX3, hb4⟩ := hrel
    clear kX2 hb3 hkl hno0
    by_cases hjk : j < k
    ·obtain ⟨y, hy⟩ : ∃ y, l[j]? = some y := ⟨_, List.getElem?_eq_getElem (by omega)⟩
     obtain ⟨ag2, ao2, hA2, hag2, hcy⟩ := (hD.below hb4) j y hy
     injection hA2 with hA2
     injection hA2 with e1 e2
     subst e1 e2
     have hry : wr.rangeAt ag (ao + j * 29) (dfL y) := hcy
     have kZ : Blk (wr.alloc (.cells #[.string ⟨#[]⟩, .int .i64 0, .int .i64 0, .string ⟨#[]⟩, .string ⟨#[]⟩, .int .i64 0, .int .i64 0, .int .i64 0, .int .i64 0, .int .i64 0, .int .i64 0, .int .i64 0, .int .i64 0, .int .i64 0, .int .i64 0, .int .i64 0, .int .i64 0, .int .i64 0, .int .i64 0, .int .i64 0, .int .i64 0, .int .i64 0, .int .i64 0, .int .i64 0, .int .i64 0, .int .i64 0, .int .i64 0, .int .i64 0, .int .i64 0] 60)) wr.heap.size 60 (dfA df0) := by rw [z60]; exact Blk.new _ _ _
     have kY := kZ.setRow (dfA y)
     have hby : Below wr.heap.size wr ((wr.alloc (.cells #[.string ⟨#[]⟩, .int .i64 0, .int .i64 0, .string ⟨#[]⟩, .string ⟨#[]⟩, .int .i64 0, .int .i64 0, .int .i64 0, .int .i64 0, .int .i64 0, .int .i64 0, .int .i64 0, .int .i64 0, .int .i64 0, .int .i64 0, .int .i64 0, .int .i64 0, .int .i64 0, .int .i64 0, .int .i64 0, .int .i64 0, .int .i64 0, .int .i64 0, .int .i64 0, .int .i64 0, .int .i64 0, .int .i64 0, .int .i64 0, .int .i64 0] 60)).setRow wr.heap.size (dfA y)) := below_setRow (below_new _ _) (Nat.le_refl _) _
     have kX4 := kX3.below hby kX3.lt
     obtain ⟨y0, y1, y2, y3, y4⟩ := kY.df
     obtain ⟨x0, x1, x2, x3, x4⟩ := kX4.df
     have hst : (l.take (j + 1)).any (sameD x) = sameD x y := by
      obtain ⟨hlt2, hy2⟩ := List.getElem?_eq_some_iff.1 hy
      rw [List.take_succ_eq_append_getElem hlt2, List.any_append, HNo.out, hy2]; simp
     have hyl : y ∈ l.take k := by
      obtain ⟨hlt2, hy2⟩ := List.getElem?_eq_some_iff.1 hy
      exact List.mem_take_iff_getElem.2 ⟨j, by omega, hy2⟩
     have hbig : sameD x y = true → (l.take k).any (sameD x) = true := fun h => List.any_eq_true.2 ⟨y, hyl, h⟩
     have HST := Lib.hid hst
     have HBG := Lib.hid hbig
     clear hst hbig hyl
     have hb5 := below_next hb4 hb4.size hby
     clear hy hcy
     by_cases hnm : y.name = x.name
     ·rw [hnm] at y0
      by_cases hkn : y.known = x.known
      ·have HR6 := Lib.hid (show R = 6 by rw [HRk.out, if_pos (HBG.out (by simp [sameD, hnm, hkn]))])
       rw [hkn] at y1
       clear hnm hkn
       go_wp2_with (first
       | (refine ldD 26 rfl rfl hry rfl ?_)
       | (refine stD 6 27 rfl rfl kZ rfl rfl ?_))
       go_ret
       exact ⟨ret_int HR6.out.symm, hb5⟩
      ·have HN2 := Lib.hid (show (l.take (j + 1)).any (sameD x) = false by rw [HST.out]; simp [sameD, hkn])
       go_wp2_with (first
       | (refine ldD 26 rfl rfl hry rfl ?_)
       | (refine stD 6 27 rfl rfl kZ rfl rfl ?_))
       all_goals
        go_roundw
        case rel => exact ⟨j + 1, by omega, by go_num, HN2, kX4, hb5⟩
        case measure => simp [intOf]; omega
     ·have hnl : ¬ y.name.toList = x.name.toList := fun e => hnm (bytes_eq (by rwa [ByteArray.toList_eq, ByteArray.toList_eq] at e))
      have HN2 := Lib.hid (show (l.take (j + 1)).any (sameD x) = false by rw [HST.out]; simp [sameD, hnm])
      go_wp2_with (first
       | (refine ldD 26 rfl rfl hry rfl ?_)
       | (refine stD 6 27 rfl rfl kZ rfl rfl ?_))
      all_goals
       go_roundw
       case rel => exact ⟨j + 1, by omega, by go_num, HN2, kX4, hb5⟩
       case measure => simp [intOf]; omega
    ·obtain rfl : j = k := by omega
     rw [HNo.out, if_neg (by simp)] at HRk
     go_wp2_with fail
     go_roundw
     case rel => exact ⟨j + 1, by omega, by go_num, HRk, hb4⟩
     case measure => simp [intOf]; omega
  ·obtain rfl : k = l.length := by omega
   have HR0 := Lib.hid (show R = 0 by rw [HRk.out, List.drop_length]; rfl)
   go_wp2
   go_ret
   exact ⟨ret_int HR0.out.symm, hb1⟩
/-- what is known of the texts of definitions -/
def DfsSz (l : List Df) : Prop := ∀ d ∈ l, d.name.size ≤ maxLen ∧ d.of.size ≤ maxLen ∧ d.wth.size ≤ maxLen
theorem calendar_any (A : Option Addr) (cap : Nat) (l : List Df) (w : World) (hll : l.length ≤ 1000) (hc : l.length ≤ cap) (hcm : cap ≤ maxLen) (hD : Defs w w.heap.size A l) (hs : DfsSz l) :
  Calls Tryz.prog 33 #[.slice A l.length cap] w fun e w' => e = .returned (.int .i64 (calE l)) ∧ Below w.heap.size w w' := by
 by_cases h30 : 30 < l.length
 ·have hR := Lib.hid (show calE l = 2 by unfold calE; rw [if_pos h30])
  have h30' : (30 : Int) < (l.length : Int) := by omega
  go_enter Tryz.func33, Tryz.ntmps33
  go_wp2
  go_ret
  exact ⟨ret_int hR.out.symm, Below.refl _ _⟩
 ·have hR : calE l = calScan [] l := by unfold calE; rw [if_neg h30]
  rw [hR]
  exact calendar_in A cap l w (by omega) hc hcm hD fun d hd w => formed_any d w (hs d hd).1 (hs d hd).2.1 (hs d hd).2.2
end Go.Proofs.YtbhiphjifdnhmaaGreatDoor
namespace Go.Proofs.YtbhiphjifdnhmaaGreatDoor
open Go.RowKit Go.Maps
/-- the first error of definitions with a day as known, and with a name -/
def knownE (l : List Df) (k : Int) : Int := if calE l = 0 then (if dayB k then 0 else 1) else calE l
def nameE (l : List Df) (n : ByteArray) (k : Int) : Int := if knownE l k = 0 then (if nameB n then 0 else 7) else knownE l k
/-- what is known of definitions in memory -/
structure LOk (A : Option Addr) (cap : Nat) (l : List Df) : Prop where
 len : l.length ≤ 1000
 lenCap : l.length ≤ cap
 capMax : cap ≤ maxLen
 sz : DfsSz l
set_option maxRecDepth 100000 in
set_option maxHeartbeats 1000000 in
theorem checkKnown_any {A : Option Addr} {cap : Nat} {l : List Df} (h : LOk A cap l) (known : Int) (w : World) (hD : Defs w w.heap.size A l) :
  Calls Tryz.prog 98 #[.slice A l.length cap, .int .i64 known] w fun e w' => e = .returned (.int .i64 (knownE l known)) ∧ Below w.heap.size w w' := by
 have HC : Hid (Calls Tryz.prog 33 #[.slice A l.length cap] w fun e w' => e = .returned (.int .i64 (calE l)) ∧ Below w.heap.size w w') := calendar_any A cap l w h.len h.lenCap h.capMax hD h.sz
 obtain ⟨E, hE⟩ : ∃ E, E = calE l := ⟨_, rfl⟩
 rw [← hE] at HC
 by_cases h0 : E = 0
 ·have HR := Lib.hid (show knownE l known = if dayB known then 0 else 1 by unfold knownE; rw [← hE, if_pos h0])
  subst h0
  clear hE
  cases hk : dayB known
  all_goals
   have HK := Lib.hid hk
   rw [hk] at HR
   clear hk
   go_enter Tryz.func98, Tryz.ntmps98
   go_wp2_with (first
    | (go_at_call 33; refine HC.out.mono ?_; rintro e w1 ⟨rfl, hb1⟩)
    | (go_at_call 122; refine (isDay_any _ _).mono ?_; rw [HK.out]; rintro e w2 ⟨rfl, rfl⟩))
   go_ret
   exact ⟨ret_int (by rw [HR.out]; rfl), hb1⟩
 ·have HR := Lib.hid (show knownE l known = E by unfold knownE; rw [← hE, if_neg h0])
  have g0 : (E != 0) = true := by simp [h0]
  clear hE h0
  go_enter Tryz.func98, Tryz.ntmps98
  go_wp2_with (go_at_call 33; refine HC.out.mono ?_; rintro e w1 ⟨rfl, hb1⟩)
  go_ret
  exact ⟨ret_int HR.out.symm, hb1⟩
set_option maxRecDepth 100000 in
set_option maxHeartbeats 1000000 in
theorem checkName_any {A : Option Addr} {cap : Nat} {l : List Df} (h : LOk A cap l) (n : ByteArray) (hn : n.size ≤ maxLen) (known : Int) (w : World) (hD : Defs w w.heap.size A l) :
  Calls Tryz.prog 85 #[.slice A l.length cap, .string n, .int .i64 known] w fun e w' => e = .returned (.int .i64 (nameE l n known)) ∧ Below w.heap.size w w' := by
 have HC := Lib.hid (checkKnown_any h known w hD)
 obtain ⟨E, hE⟩ : ∃ E, E = knownE l known := ⟨_, rfl⟩
 rw [← hE] at HC
 by_cases h0 : E = 0
 ·have HR := Lib.hid (show nameE l n known = if nameB n then 0 else 7 by unfold nameE; rw [← hE, if_pos h0])
  subst h0
  clear hE
  cases hk : nameB n
  all_goals
   have HK := Lib.hid hk
   rw [hk] at HR
   clear hk
   go_enter Tryz.func85, Tryz.ntmps85
   go_wp2_with (first
    | (go_at_call 98; refine HC.out.mono ?_; rintro e w1 ⟨rfl, hb1⟩)
    | (go_at_call 121; refine (isName_any _ hn _).mono ?_; rw [HK.out]; rintro e w2 ⟨rfl, rfl⟩))
   go_ret
   exact ⟨ret_int (by rw [HR.out]; rfl), hb1⟩
 ·have HR := Lib.hid (show nameE l n known = E by unfold nameE; rw [← hE, if_neg h0])
  have g0 : (E != 0) = true := by simp [h0]
  clear hE h0
  go_enter Tryz.func85, Tryz.ntmps85
  go_wp2_with (go_at_call 98; refine HC.out.mono ?_; rintro e w1 ⟨rfl, hb1⟩)
  go_ret
  exact ⟨ret_int HR.out.symm, hb1⟩
end Go.Proofs.YtbhiphjifdnhmaaGreatDoor
