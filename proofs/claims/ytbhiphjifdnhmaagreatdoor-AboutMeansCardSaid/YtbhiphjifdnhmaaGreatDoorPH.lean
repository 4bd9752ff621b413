import Derived.Test.YtbhiphjifdnhmaaGreatDoorPG
import Derived.Deep.QuietTactic
import Derived.BigQuiet
set_option linter.unusedSimpArgs false
set_option linter.unusedVariables false
/- The reference: Calendar, asked, has. -/
namespace Go.Proofs.YtbhiphjifdnhmaaGreatDoor
open Go.RowKit Go.Maps
set_option maxRecDepth 100000 in
set_option maxHeartbeats 4000000 in
theorem refCalendar_in (A : Option Addr) (cap : Nat) (l : List Df) (w : World) (hl : l.length ≤ 30) (hc : l.length ≤ cap) (hcm : cap ≤ maxLen) (hD : Defs w w.heap.size A l) (hF : ∀ d ∈ l, ∀ w, Calls Tryz.prog 108 #[.agg (dfA d)] w fun e w' => e = .returned (.bool (formedB d)) ∧ Below w.heap.size w w') :
  Calls Tryz.prog 59 #[.slice A l.length cap] w fun e w' => e = .returned (.int .i64 (calScan [] l)) ∧ Below w.heap.size w w' := by
 obtain ⟨R, hR⟩ : ∃ R, R = calScan [] l := ⟨_, rfl⟩
 rw [← hR]
 have hR0 : Hid (R = calScan (l.take 0) (l.drop 0)) := Lib.hid hR
 clear hR
 have h30 : ¬ (30 : Int) < (l.length : Int) := by omega
 have HF := Lib.hid hF
 clear hF
 go_enter Tryz.func59, Tryz.ntmps59
 go_wp2_with fail
 go_loopw [3] (fun t3 wq => ∃ k : Nat, k ≤ l.length ∧ t3 = .int .i64 k ∧ Hid (R = calScan (l.take k) (l.drop k)) ∧ Below w.heap.size w wq) (fun t3 _ => l.length - (intOf t3).toNat)
 case atStart => exact ⟨0, by omega, rfl, hR0, Below.refl _ _⟩
 case round =>
  obtain ⟨k, hk, rfl, HRk, hb1⟩ := hrel
  clear hR0
  by_cases hlt : k < l.length
  ·obtain ⟨x, hx⟩ : ∃ x, l[k]? = some x := ⟨_, List.getElem?_eq_getElem hlt⟩
   obtain ⟨ag, ao, hA, hag, hcx⟩ := (hD.below hb1) k x hx
   subst hA
   have hr : wr.rangeAt ag (ao + k * 29) (dfL x) := hcx
   have hdr : calScan (l.take k) (l.drop k) = if formedB x = false then 7 else if (l.take k).any (sameD x) = true then 6 else calScan (l.take (k + 1)) (l.drop (k + 1)) := by
    obtain ⟨hlt2, hx2⟩ := List.getElem?_eq_some_iff.1 hx
    rw [List.drop_eq_getElem_cons hlt2, hx2, calScan, List.take_succ_eq_append_getElem hlt2, hx2]
   rw [hdr] at HRk
   have HFx := Lib.hid (HF.out x (List.mem_of_getElem? hx))
   have HX := Lib.hid hx
   clear hx hdr hcx
   obtain ⟨F, hF⟩ : ∃ F, F = formedB x := ⟨_, rfl⟩
   rw [← hF] at HRk HFx
   clear hF
   have hkc1 : k ≤ cap := by omega
   have hq : IntKind.i64.wrap ((k : Int) + 1) = (k : Int) + 1 := IntWalk.i64_in _ (by simp [maxLen] at hcm; omega)
   cases F
   ·have HR7 := Lib.hid (show R = 7 by rw [HRk.out, if_pos rfl])
    go_wp2_with (first
     | (refine ldD 17 rfl rfl hr rfl ?_)
     | (go_at_call 108; refine (HFx.out _).mono ?_; rintro e w2 ⟨rfl, hb2⟩))
    go_ret
    exact ⟨ret_int HR7.out.symm, below_next hb1 hb1.size hb2⟩
   rw [if_neg (by simp)] at HRk
   go_wp2_with (first
    | (refine ldD 17 rfl rfl hr rfl ?_)
    | (go_at_call 108; refine (HFx.out _).mono ?_; rintro e w2 ⟨rfl, hb2⟩))
   have hb3 := below_next hb1 hb1.size hb2
   clear hb1 hb2 hr
   have hno0 : Hid ((l.take 0).any (sameD x) = false) := Lib.hid rfl
   go_loopw [5] (fun t5 wq => ∃ j : Nat, j ≤ k ∧ t5 = .int .i64 j ∧ Hid ((l.take j).any (sameD x) = false) ∧ Below w.heap.size w wq) (fun t5 _ => k - (intOf t5).toNat)
   case atStart => exact ⟨0, by omega, rfl, hno0, hb3⟩
   case round =>
    obtain ⟨j, hj, rfl, HNo, hb4⟩ := hrel
    clear hb3 hno0
    by_cases hjk : j < k
    ·obtain ⟨y, hy⟩ : ∃ y, l[j]? = some y := ⟨_, List.getElem?_eq_getElem (by omega)⟩
     obtain ⟨ag2, ao2, hA2, hag2, hcy⟩ := (hD.below hb4) j y hy
     injection hA2 with hA2
     injection hA2 with e1 e2
     subst e1 e2
     obtain ⟨ag3, ao3, hA3, hag3, hcx⟩ := (hD.below hb4) k x HX.out
     injection hA3 with hA3
     injection hA3 with e1 e2
     subst e1 e2
     have y0 : wr.cell? ⟨ag, ao + j * 29, none⟩ = some (.string y.name) := hcy 0 _ rfl
     have y1 : wr.cell? ⟨ag, ao + j * 29 + 1, none⟩ = some (.int .i64 y.known) := hcy 1 _ rfl
     have x0 : wr.cell? ⟨ag, ao + k * 29, none⟩ = some (.string x.name) := hcx 0 _ rfl
     have x1 : wr.cell? ⟨ag, ao + k * 29 + 1, none⟩ = some (.int .i64 x.known) := hcx 1 _ rfl
     have hst : (l.take (j + 1)).any (sameD x) = sameD x y := by
      obtain ⟨hlt2, hy2⟩ := List.getElem?_eq_some_iff.1 hy
      rw [List.take_succ_eq_append_getElem hlt2, List.any_append, HNo.out, hy2]; simp
     have hyl : y ∈ l.take k := by
      obtain ⟨hlt2, hy2⟩ := List.getElem?_eq_some_iff.1 hy
      exact List.mem_take_iff_getElem.2 ⟨j, by omega, hy2⟩
     have hbig : sameD x y = true → (l.take k).any (sameD x) = true := fun h => List.any_eq_true.2 ⟨y, hyl, h⟩
     have HST := Lib.hid hst
     have HBG := Lib.hid hbig
     have hq2 : IntKind.i64.wrap ((j : Int) + 1) = (j : Int) + 1 := IntWalk.i64_in _ (by simp [maxLen] at hcm; omega)
     have hjl : j < l.length := by omega
     clear hst hbig hyl hy hcy hcx
     by_cases hnm : y.name = x.name
     ·rw [hnm] at y0
      by_cases hkn : y.known = x.known
      ·have HR6 := Lib.hid (show R = 6 by rw [HRk.out, if_pos (HBG.out (by simp [sameD, hnm, hkn]))])
       rw [hkn] at y1
       clear hnm hkn
       go_wp2_with fail
       go_quiet (fail)
       all_goals
        go_wp2_with fail
        go_ret
        exact ⟨ret_int HR6.out.symm, below_drewN hb4 _⟩
      ·have HN2 := Lib.hid (show (l.take (j + 1)).any (sameD x) = false by rw [HST.out]; simp [sameD, hkn])
       go_wp2_with fail
       go_quiet (fail)
       all_goals
        go_wp2_with fail
        go_roundw
        case rel => exact ⟨j + 1, by omega, by go_num, HN2, below_drewN hb4 _⟩
        case measure => simp [intOf]; omega
     ·have hnl : ¬ y.name.toList = x.name.toList := fun e => hnm (bytes_eq (by rwa [ByteArray.toList_eq, ByteArray.toList_eq] at e))
      have HN2 := Lib.hid (show (l.take (j + 1)).any (sameD x) = false by rw [HST.out]; simp [sameD, hnm])
      go_wp2_with fail
      go_quiet (fail)
      all_goals
       go_wp2_with fail
       go_roundw
       case rel => exact ⟨j + 1, by omega, by go_num, HN2, below_drewN hb4 _⟩
       case measure => simp [intOf]; omega
    ·obtain rfl : j = k := by omega
     rw [HNo.out, if_neg (by simp)] at HRk
     go_wp2_with fail
     go_roundw
     case rel => exact ⟨j + 1, by omega, by go_num, HRk, hb4⟩
     case measure => simp [intOf]; omega
  ·obtain rfl : k = l.length := by omega
   have HR0 := Lib.hid (show R = 0 by rw [HRk.out, List.drop_length]; rfl)
   go_wp2
   go_ret
   exact ⟨ret_int HR0.out.symm, hb1⟩
theorem refCalendar_any (A : Option Addr) (cap : Nat) (l : List Df) (w : World) (hll : l.length ≤ 1000) (hc : l.length ≤ cap) (hcm : cap ≤ maxLen) (hD : Defs w w.heap.size A l) (hs : DfsSz l) :
  Calls Tryz.prog 59 #[.slice A l.length cap] w fun e w' => e = .returned (.int .i64 (calE l)) ∧ Below w.heap.size w w' := by
 by_cases h30 : 30 < l.length
 ·have hR := Lib.hid (show calE l = 2 by unfold calE; rw [if_pos h30])
  have h30' : (30 : Int) < (l.length : Int) := by omega
  go_enter Tryz.func59, Tryz.ntmps59
  go_wp2
  go_ret
  exact ⟨ret_int hR.out.symm, Below.refl _ _⟩
 ·have hR : calE l = calScan [] l := by unfold calE; rw [if_neg h30]
  rw [hR]
  exact refCalendar_in A cap l w (by omega) hc hcm hD fun d hd w => refDefined_any d w (hs d hd).1 (hs d hd).2.1 (hs d hd).2.2
end Go.Proofs.YtbhiphjifdnhmaaGreatDoor
namespace Go.Proofs.YtbhiphjifdnhmaaGreatDoor
open Go.RowKit Go.Maps
set_option maxRecDepth 100000 in
set_option maxHeartbeats 1000000 in
theorem refAsked_any {A : Option Addr} {cap : Nat} {l : List Df} (h : LOk A cap l) (known : Int) (w : World) (hD : Defs w w.heap.size A l) :
  Calls Tryz.prog 101 #[.slice A l.length cap, .int .i64 known] w fun e w' => e = .returned (.int .i64 (knownE l known)) ∧ Below w.heap.size w w' := by
 have HC : Hid (Calls Tryz.prog 59 #[.slice A l.length cap] w fun e w' => e = .returned (.int .i64 (calE l)) ∧ Below w.heap.size w w') := refCalendar_any A cap l w h.len h.lenCap h.capMax hD h.sz
 obtain ⟨E, hE⟩ : ∃ E, E = calE l := ⟨_, rfl⟩
 rw [← hE] at HC
 by_cases h0 : E = 0
 ·have HR := Lib.hid (show knownE l known = if dayB known then 0 else 1 by unfold knownE; rw [← hE, if_pos h0])
  subst h0
  clear hE
  by_cases c1 : known < 0
  ·rw [show dayB known = false by simp [dayB]; omega] at HR
   go_enter Tryz.func101, Tryz.ntmps101
   go_wp2_with (first | go_skip | (go_at_call 59; refine HC.out.mono ?_; rintro e w1 ⟨rfl, hb1⟩))
   go_ret
   exact ⟨ret_int (by rw [HR.out]; rfl), hb1⟩
  ·by_cases c2 : 730 < known
   ·rw [show dayB known = false by simp [dayB]; omega] at HR
    go_enter Tryz.func101, Tryz.ntmps101
    go_wp2_with (first | go_skip | (go_at_call 59; refine HC.out.mono ?_; rintro e w1 ⟨rfl, hb1⟩))
    go_ret
    exact ⟨ret_int (by rw [HR.out]; rfl), hb1⟩
   ·rw [show dayB known = true by simp [dayB]; omega] at HR
    go_enter Tryz.func101, Tryz.ntmps101
    go_wp2_with (first | go_skip | (go_at_call 59; refine HC.out.mono ?_; rintro e w1 ⟨rfl, hb1⟩))
    go_ret
    exact ⟨ret_int (by rw [HR.out]; rfl), hb1⟩
 ·have HR := Lib.hid (show knownE l known = E by unfold knownE; rw [← hE, if_neg h0])
  have g0 : (E != 0) = true := by simp [h0]
  clear hE h0
  go_enter Tryz.func101, Tryz.ntmps101
  go_wp2_with (go_at_call 59; refine HC.out.mono ?_; rintro e w1 ⟨rfl, hb1⟩)
  go_ret
  exact ⟨ret_int HR.out.symm, hb1⟩
/-- has a list a text -/
def hasL (l : List ByteArray) (s : ByteArray) : Bool := l.any fun x => decide (x = s)
set_option maxRecDepth 100000 in
set_option maxHeartbeats 1000000 in
theorem refHas_any (A : Option Addr) (c B : Nat) (l : List ByteArray) (s : ByteArray) (w : World) (hl : l.length ≤ 1000000) (hA : Strs w B A l) :
  Calls Tryz.prog 104 #[.slice A l.length c, .string s] w fun e w' => e = .returned (.bool (hasL l s)) ∧ w = w' := by
 obtain ⟨R, hR⟩ : ∃ R, R = hasL l s := ⟨_, rfl⟩
 rw [← hR]
 have hR0 : Hid (R = hasL (l.drop 0) s) := Lib.hid hR
 clear hR
 go_enter Tryz.func104, Tryz.ntmps104
 go_wp2_with fail
 go_loopw [5] (fun t5 wq => ∃ k : Nat, k ≤ l.length ∧ t5 = .int .i64 k ∧ Hid (R = hasL (l.drop k) s) ∧ w = wq) (fun t5 _ => l.length - (intOf t5).toNat)
 case atStart => exact ⟨0, by omega, rfl, hR0, rfl⟩
 case round =>
  obtain ⟨k, hk, rfl, HRk, rfl⟩ := hrel
  clear hR0
  by_cases hlt : k < l.length
  ·obtain ⟨ad, rfl, hab, hcell⟩ := hA.get hlt
   obtain ⟨x, hx⟩ : ∃ x, x = l[k] := ⟨_, rfl⟩
   have hdr : hasL (l.drop k) s = (decide (x = s) || hasL (l.drop (k + 1)) s) := by rw [List.drop_eq_getElem_cons hlt, ← hx]; rfl
   rw [← hx] at hcell
   rw [hdr] at HRk
   have hq : IntKind.i64.wrap ((k : Int) + 1) = (k : Int) + 1 := IntWalk.i64_in _ (by omega)
   clear hdr hx
   by_cases he : x = s
   ·have HR1 := Lib.hid (show R = true by rw [HRk.out, decide_eq_true he]; rfl)
    rw [he] at hcell
    go_wp2_with fail
    go_ret
    exact ⟨ret_bool HR1.out.symm, rfl⟩
   ·have HR1 := Lib.hid (show R = hasL (l.drop (k + 1)) s by rw [HRk.out, decide_eq_false he]; rfl)
    have hnl : ¬ x.toList = s.toList := fun e => he (bytes_eq (by rwa [ByteArray.toList_eq, ByteArray.toList_eq] at e))
    have hnb : (x.toList == s.toList) = false := beq_eq_false_iff_ne.2 hnl
    go_wp2_with fail
    go_roundw
    case rel => exact ⟨k + 1, by omega, by go_num, HR1, trivial⟩
    case measure => simp [intOf]; omega
  ·obtain rfl : k = l.length := by omega
   have HR0 := Lib.hid (show R = false by rw [HRk.out, List.drop_length]; rfl)
   go_wp2_with fail
   go_ret
   exact ⟨ret_bool HR0.out.symm, rfl⟩
end Go.Proofs.YtbhiphjifdnhmaaGreatDoor
