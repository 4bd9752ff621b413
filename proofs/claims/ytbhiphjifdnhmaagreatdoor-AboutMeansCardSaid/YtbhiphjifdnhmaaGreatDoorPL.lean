import Derived.Test.YtbhiphjifdnhmaaGreatDoorPE
import Derived.Test.YtbhiphjifdnhmaaGreatDoorPH
import Derived.Test.YtbhiphjifdnhmaaGreatDoorPK
import Derived.Test.YtbhiphjifdnhmaaGreatDoorPD
import Derived.Test.YtbhiphjifdnhmaaGreatDoorPC
import Derived.Test.YtbhiphjifdnhmaaGreatDoorPJ
import Derived.Test.YtbhiphjifdnhmaaGreatDoorK8
set_option linter.unusedSimpArgs false
set_option linter.unusedVariables false
/- The reference: Names, Needs, Means. -/
namespace Go.Proofs.YtbhiphjifdnhmaaGreatDoor
open Go.RowKit Go.Maps
/-- texts with an error are returned -/
def RetTx (w : World) (L : List ByteArray) (er : Int) (e : Ending) (w' : World) : Prop :=
 ∃ A c, e = .returned (.agg #[.slice A L.length c, .int .i64 er]) ∧ Strs w' w'.heap.size A L ∧ L.length ≤ c ∧ c ≤ maxLen ∧ Below w.heap.size w w'
theorem info94 (x y : Value) : (Tryz.prog.info? 94).map (·.size) = some (#[x, y] : Array Value).size := by
 show _ = some 2
 kernel_rfl
theorem resTx {fn : Func} {p : Tmp} (h : fn.results = #[.cell p 94]) (tmps : Array Value) (w : World) {g : Nat} {x y : Value} (hB : Blk w g 94 #[x, y]) (hx : x.oneCell' = true) (hy : y.oneCell' = true) (hp : tmps.getD p undef = .pointer (some ⟨g, 0, none⟩)) : (results fn tmps).run Tryz.prog w = .ok (.agg #[x, y]) w :=
 results_cell_row h _ _ g 94 #[x, y] (0, 0) _ hp hB Tryz.underlying94 (by simp [hx, hy]) (info94 _ _)
theorem Blk.notStr {w : World} {g t : Nat} {p : Option Addr} {n c : Nat} {k : IntKind} {y : Int} (h : Blk w g t #[.slice p n c, .int k y]) {ad : Addr} {x : ByteArray} (hc : w.cell? ad = some (.string x)) : ad.block ≠ g := by
 intro e
 subst e
 unfold Blk at h
 simp only [World.cell?, h] at hc
 split at hc
 ·cases hc
 ·rcases ho : ad.off with _ | _ | m
  ·rw [ho] at hc; simp at hc
  ·rw [ho] at hc; simp at hc
  ·rw [ho] at hc; simp at hc
theorem Strs.setBox {w : World} {B g t : Nat} {A p : Option Addr} {n c : Nat} {k : IntKind} {y : Int} {l : List ByteArray} (h : Strs w B A l) (hB : Blk w g t #[.slice p n c, .int k y]) (i : Nat) (u : Value) : Strs (w.setCell ⟨g, i, none⟩ u) B A l := fun j x hx => by
 obtain ⟨ad, e, hb, hc⟩ := h j x hx
 exact ⟨ad, e, hb, (World.cell?_of_block (heap_setCell_other w ⟨g, i, none⟩ _ u (hB.notStr hc))).trans hc⟩
theorem Strs.setBox2 {w : World} {g t : Nat} {A p : Option Addr} {n c : Nat} {k : IntKind} {y : Int} {l : List ByteArray} (h : Strs w w.heap.size A l) (hB : Blk w g t #[.slice p n c, .int k y]) (p' : Option Addr) (n' c' : Nat) (u : Value) :
  Strs ((w.setCell ⟨g, 0, none⟩ (.slice p' n' c')).setCell ⟨g, 1, none⟩ u) ((w.setCell ⟨g, 0, none⟩ (.slice p' n' c')).setCell ⟨g, 1, none⟩ u).heap.size A l := by
 have hB2 : Blk (w.setCell ⟨g, 0, none⟩ (.slice p' n' c')) g t #[.slice p' n' c', .int k y] := hB.store 0 _
 refine ((h.setBox hB 0 _).setBox hB2 1 u).more ?_
 simp
set_option maxRecDepth 100000 in
set_option maxHeartbeats 2000000 in
theorem refNames_ok {A : Option Addr} {cap : Nat} {l : List Df} (h : LOk A cap l) (known : Int) (w : World) (hD : Defs w w.heap.size A l) (h0 : knownE l known = 0) :
  Calls Tryz.prog 55 #[.slice A l.length cap, .int .i64 known] w (RetTx w (namesL l known) 0) := by
 have k0 := Blk.new w 94 #[.slice none 0 0, .int .i64 0]
 have hb0 := below_new w (.cells #[.slice none 0 0, .int .i64 0] 94)
 have hD0 := hD.behind hb0
 have hl := h.len
 have HA := refAsked_any h known _ hD0
 rw [h0] at HA
 have HA := Lib.hid HA
 have HL : Hid (namesL l known = namesTo l known l.length) := Lib.hid rfl
 go_enter Tryz.func55, Tryz.ntmps55
 go_wp2_with (go_at_call 101; refine HA.out.mono ?_; rintro e w1 ⟨rfl, hb1⟩; have k1 := k0.below hb1 k0.lt; have hB1 := below_next hb0 hb0.size hb1)
 have hD1 := hD0.behind hb1
 clear hb1 hD0
 go_loopg [7, 6] (l.length) (fun g t7 t6 wq => ∃ (k : Nat) (A2 : Option Addr) (c2 : Nat) (L : List ByteArray), k ≤ l.length ∧ l.length - k ≤ g ∧ t7 = .int .i64 k ∧ t6 = .slice A2 L.length c2 ∧ Hid (L = namesTo l known k) ∧ L.length ≤ k ∧ Strs wq wq.heap.size A2 L ∧ L.length ≤ c2 ∧ c2 ≤ maxLen ∧ Blk wq w.heap.size 94 #[.slice none 0 0, .int .i64 0] ∧ Below w.heap.size w wq)
 case atStart => exact ⟨0, none, 0, [], by omega, by omega, rfl, rfl, Lib.hid rfl, by simp, Strs.nil, by simp, by simp, k1, hB1⟩
 case round =>
  obtain ⟨k, A2, c2, L, hk, hg, rfl, rfl, HL2, hLk, hS2, hc2, hcm2, k2, hb2⟩ := hrel
  clear k1 hB1 k0 hb0 hD1
  have hq : IntKind.i64.wrap ((k : Int) + 1) = (k : Int) + 1 := IntWalk.i64_in _ (by omega)
  have HQ := Lib.hid hq
  clear hq
  by_cases hlt : k < l.length
  ·obtain ⟨x, hx⟩ : ∃ x, l[k]? = some x := ⟨_, List.getElem?_eq_getElem hlt⟩
   have hst := namesTo_succ (known := known) hx
   rw [← HL2.out] at hst
   have HS := Lib.hid hst
   obtain ⟨ag, ao, hA, hag, hcx⟩ := (hD.behind hb2) k x hx
   subst hA
   have x0 : wr.cell? ⟨ag, ao + k * 29, none⟩ = some (.string x.name) := hcx 0 _ rfl
   have x1 : wr.cell? ⟨ag, ao + k * 29 + 1, none⟩ = some (.int .i64 x.known) := hcx 1 _ rfl
   clear hx hst hcx
   by_cases hkn : x.known ≤ known
   ·have HN := Lib.hid (show putL ltS L x.name = namesTo l known (k + 1) by rw [HS.out, if_pos hkn])
    have hLx := putL_len (lt := ltS) L x.name
    go_wp2_with (go_at_call 102; refine (put_any A2 c2 L x.name _ (by omega) hc2 hcm2 hS2).mono ?_; rintro e w3 ⟨A3, c3, rfl, hS3, hc3, hcm3, hb3⟩)
    go_roundg (l.length - (k + 1))
    case measure => omega
    case rel => exact ⟨k + 1, A3, c3, putL ltS L x.name, by omega, by omega, by go_num, rfl, HN, by omega, hS3, hc3, hcm3, k2.below hb3 k2.lt, below_next hb2 hb2.size hb3⟩
   ·have HN := Lib.hid (show L = namesTo l known (k + 1) by rw [HS.out, if_neg hkn])
    have hkd : decide (x.known ≤ known) = false := decide_eq_false hkn
    go_wp2_with fail
    go_roundg (l.length - (k + 1))
    case measure => omega
    case rel => exact ⟨k + 1, A2, c2, L, by omega, by omega, by go_num, rfl, HN, by omega, hS2, hc2, hcm2, k2, hb2⟩
  ·obtain rfl : k = l.length := by omega
   obtain ⟨c0, c1⟩ := k2.two
   obtain ⟨f0, f1⟩ := k2.two_frozen
   have k3 := k2.twoStore (.slice A2 L.length c2) (.int .i64 0)
   have hS3 : Strs ((wr.setCell ⟨w.heap.size, 0, none⟩ (.slice A2 L.length c2)).setCell ⟨w.heap.size, 1, none⟩ (.int .i64 0)) ((wr.setCell ⟨w.heap.size, 0, none⟩ (.slice A2 L.length c2)).setCell ⟨w.heap.size, 1, none⟩ (.int .i64 0)).heap.size A2 L := hS2.setBox2 k2 _ _ _ _
   have hb3 : Below w.heap.size w ((wr.setCell ⟨w.heap.size, 0, none⟩ (.slice A2 L.length c2)).setCell ⟨w.heap.size, 1, none⟩ (.int .i64 0)) := (hb2.setCell (by simp) _).setCell (by simp) _
   go_wp2_with fail
   refine bodyPost_ret (resTx rfl _ _ k3 rfl rfl rfl) rfl ?_
   rw [HL.out, ← HL2.out]
   exact ⟨A2, c2, rfl, hS3, hc2, hcm2, hb3⟩
set_option maxRecDepth 100000 in
set_option maxHeartbeats 2000000 in
theorem refNames_any {A : Option Addr} {cap : Nat} {l : List Df} (h : LOk A cap l) (known : Int) (w : World) (hD : Defs w w.heap.size A l) :
  Calls Tryz.prog 55 #[.slice A l.length cap, .int .i64 known] w (RetTx w (if knownE l known = 0 then namesL l known else []) (knownE l known)) := by
 by_cases h0 : knownE l known = 0
 ·rw [if_pos h0, h0]
  exact refNames_ok h known w hD h0
 ·rw [if_neg h0]
  have k0 := Blk.new w 94 #[.slice none 0 0, .int .i64 0]
  have hb0 := below_new w (.cells #[.slice none 0 0, .int .i64 0] 94)
  have hD0 := hD.behind hb0
  have HA := refAsked_any h known _ hD0
  obtain ⟨E, hE⟩ : ∃ E, E = knownE l known := ⟨_, rfl⟩
  rw [← hE] at h0 HA ⊢
  have HA := Lib.hid HA
  have g0 : (E != 0) = true := by simp [h0]
  clear hE h0
  go_enter Tryz.func55, Tryz.ntmps55
  go_wp2_with (go_at_call 101; refine HA.out.mono ?_; rintro e w1 ⟨rfl, hb1⟩; have k1 := k0.below hb1 k0.lt; have hB1 := below_next hb0 hb0.size hb1; obtain ⟨c0, c1⟩ := k1.two; obtain ⟨f0, f1⟩ := k1.two_frozen)
  refine bodyPost_ret (resTx rfl _ _ (k1.twoStore (.slice none 0 0) (.int .i64 E)) rfl rfl rfl) rfl ?_
  exact ⟨none, 0, rfl, Strs.nil, by simp, by simp, (hB1.setCell (by simp) _).setCell (by simp) _⟩
end Go.Proofs.YtbhiphjifdnhmaaGreatDoor
namespace Go.Proofs.YtbhiphjifdnhmaaGreatDoor
open Go.RowKit Go.Maps
theorem newO_none (l : List Df) (n : ByteArray) (known : Int) : newO l n known l.length = none ↔ bookF l known n.data.toList = none := by
 rw [newO_is]
 cases hq : newO l n known l.length with
 | none => simp
 | some i =>
  have hi := (newO_lt l n known l.length i hq).2
  simp [List.getElem?_eq_getElem hi]
set_option maxRecDepth 100000 in
set_option maxHeartbeats 2000000 in
theorem refNeeds_any {A : Option Addr} {cap : Nat} {l : List Df} (h : LOk A cap l) (n : ByteArray) (hn : n.size ≤ maxLen) (known : Int) (w : World) (hD : Defs w w.heap.size A l) (R : List ByteArray) (hR : Inc ltS R) (hRr : ∀ z, z ∈ R ↔ Rch (prt (bookF l known)) n z) :
  Calls Tryz.prog 57 #[.slice A l.length cap, .string n, .int .i64 known] w (RetTx w (if needE l n known = 0 then R else []) (needE l n known)) := by
 have k0 := Blk.new w 94 #[.slice none 0 0, .int .i64 0]
 have hb0 := below_new w (.cells #[.slice none 0 0, .int .i64 0] 94)
 have hD0 := hD.behind hb0
 have HA := refAsked_any h known _ hD0
 obtain ⟨E, hE⟩ : ∃ E, E = knownE l known := ⟨_, rfl⟩
 rw [← hE] at HA
 have HA := Lib.hid HA
 by_cases h0 : E = 0
 ·obtain ⟨hg, _, _⟩ := knownE_cal (hE.symm.trans h0)
  have hBk : BookOk (bookF l known) (useL l) := bookOk_of (by have := hg.len; omega) h.sz known
  have hRt := fun w1 (hD1 : Defs w1 w1.heap.size A l) => rests_any A cap l n known w1 h.len hD1 (useL l) hBk R hR hRr
  have HRT := Lib.hid hRt
  have HNW := Lib.hid (fun w1 (hD1 : Defs w1 w1.heap.size A l) => newest_any A cap l n known w1 h.len hD1)
  clear hRt hBk hg hR hRr
  subst h0
  cases hnb : nameB n
  ·have HX := Lib.hid (show needE l n known = 7 by unfold needE nameE; rw [← hE, hnb]; rfl)
   rw [HX.out, if_neg (by decide)]
   have HB := Lib.hid hnb
   clear hE hnb HNW HRT
   go_enter Tryz.func57, Tryz.ntmps57
   go_wp2_with (first
    | (go_at_call 101; refine HA.out.mono ?_; rintro e w1 ⟨rfl, hb1⟩; have k1 := k0.below hb1 k0.lt; have hB1 := below_next hb0 hb0.size hb1; obtain ⟨c0, c1⟩ := k1.two; obtain ⟨f0, f1⟩ := k1.two_frozen)
    | (go_at_call 107; refine (refName_any _ hn _).mono ?_; rw [HB.out]; rintro e w2 ⟨rfl, rfl⟩))
   refine bodyPost_ret (resTx rfl _ _ (k1.twoStore (.slice none 0 0) (.int .i64 7)) rfl rfl rfl) rfl ?_
   exact ⟨none, 0, rfl, Strs.nil, by simp, by simp, (hB1.setCell (by simp) _).setCell (by simp) _⟩
  ·have HB := Lib.hid hnb
   cases hq : newO l n known l.length with
   | none =>
    have hbn := (newO_none l n known).1 hq
    have HX := Lib.hid (show needE l n known = 5 by unfold needE nameE; rw [← hE, hnb, hbn]; rfl)
    rw [HX.out, if_neg (by decide)]
    have HQ := Lib.hid hq
    clear hE hnb hbn hq HRT
    go_enter Tryz.func57, Tryz.ntmps57
    go_wp2_with (first
     | (go_at_call 101; refine HA.out.mono ?_; rintro e w1 ⟨rfl, hb1⟩; have k1 := k0.below hb1 k0.lt; have hB1 := below_next hb0 hb0.size hb1; have hD1 := hD0.behind hb1)
     | (go_at_call 107; refine (refName_any _ hn _).mono ?_; rw [HB.out]; rintro e w2 ⟨rfl, rfl⟩)
     | (go_at_call 103; refine (HNW.out _ hD1).mono ?_; rw [HQ.out, show encI none = (-1 : Int) from rfl]; rintro e w3 ⟨rfl, hb3⟩; have k3 := k1.below hb3 k1.lt; have hB3 := below_next hB1 hB1.size hb3; obtain ⟨c0, c1⟩ := k3.two; obtain ⟨f0, f1⟩ := k3.two_frozen))
    refine bodyPost_ret (resTx rfl _ _ (k3.twoStore (.slice none 0 0) (.int .i64 5)) rfl rfl rfl) rfl ?_
    exact ⟨none, 0, rfl, Strs.nil, by simp, by simp, (hB3.setCell (by simp) _).setCell (by simp) _⟩
   | some i =>
    have hbn : (bookF l known n.data.toList).isSome = true := by
     cases hb : bookF l known n.data.toList with
     | none => rw [(newO_none l n known).2 hb] at hq; cases hq
     | some _ => rfl
    have HX := Lib.hid (show needE l n known = 0 by unfold needE nameE; rw [← hE, hnb, hbn]; rfl)
    rw [HX.out, if_pos rfl]
    have HQ := Lib.hid hq
    have hi0 : ¬ (i : Int) < 0 := by omega
    clear hE hnb hbn hq
    go_enter Tryz.func57, Tryz.ntmps57
    go_wp2_with (first
     | (go_at_call 101; refine HA.out.mono ?_; rintro e w1 ⟨rfl, hb1⟩; have k1 := k0.below hb1 k0.lt; have hB1 := below_next hb0 hb0.size hb1; have hD1 := hD0.behind hb1)
     | (go_at_call 107; refine (refName_any _ hn _).mono ?_; rw [HB.out]; rintro e w2 ⟨rfl, rfl⟩)
     | (go_at_call 103; refine (HNW.out _ hD1).mono ?_; rw [HQ.out, show encI (some i) = (i : Int) from rfl]; rintro e w3 ⟨rfl, hb3⟩; have k3 := k1.below hb3 k1.lt; have hB3 := below_next hB1 hB1.size hb3; have hD3 := hD1.behind hb3)
     | (go_at_call 105; refine (HRT.out _ hD3).mono ?_; rintro e w4 ⟨A4, c4, rfl, hS4, hc4, hcm4, hb4⟩; have k4 := k3.below hb4 k3.lt; have hB4 := below_next hB3 hB3.size hb4; obtain ⟨c0, c1⟩ := k4.two; obtain ⟨f0, f1⟩ := k4.two_frozen))
    refine bodyPost_ret (resTx rfl _ _ (k4.twoStore (.slice A4 R.length c4) (.int .i64 0)) rfl rfl rfl) rfl ?_
    exact ⟨A4, c4, rfl, hS4.setBox2 k4 _ _ _ _, hc4, hcm4, (hB4.setCell (by simp) _).setCell (by simp) _⟩
 ·have HX := Lib.hid (show needE l n known = E by unfold needE nameE; rw [← hE, if_neg h0, if_neg h0])
  rw [HX.out, if_neg h0]
  have g0 : (E != 0) = true := by simp [h0]
  clear hE h0 hR hRr
  go_enter Tryz.func57, Tryz.ntmps57
  go_wp2_with (go_at_call 101; refine HA.out.mono ?_; rintro e w1 ⟨rfl, hb1⟩; have k1 := k0.below hb1 k0.lt; have hB1 := below_next hb0 hb0.size hb1; obtain ⟨c0, c1⟩ := k1.two; obtain ⟨f0, f1⟩ := k1.two_frozen)
  refine bodyPost_ret (resTx rfl _ _ (k1.twoStore (.slice none 0 0) (.int .i64 E)) rfl rfl rfl) rfl ?_
  exact ⟨none, 0, rfl, Strs.nil, by simp, by simp, (hB1.setCell (by simp) _).setCell (by simp) _⟩
end Go.Proofs.YtbhiphjifdnhmaaGreatDoor
namespace Go.Proofs.YtbhiphjifdnhmaaGreatDoor
open Go.RowKit Go.Maps
theorem refMeans_at {A : Option Addr} {cap : Nat} {l : List Df} (hl : l.length ≤ 400) (hs : DfsSz l) (hf : ∀ d ∈ l, formedB d = true) (n : ByteArray) (known : Int) (v : Nat → Int) (er : Int) (hM : MSpec (bookF l known) n v er)
  (hd : ∀ x, Upon (bookF l known) n x → bookF l known x.data.toList ≠ .none) (hr : ∀ y, Upon (bookF l known) n y → ¬ Rch (prt (bookF l known)) y y) (w : World) (hD : Defs w w.heap.size A l) :
  Calls Tryz.prog 106 #[.slice A l.length cap, .string n, .int .i64 known] w (RetMd w v er) := by
 obtain ⟨K, hK⟩ := hM.val hd hr
 have hB := bookOk_of hl hs known
 obtain ⟨O, hT, hO⟩ := topo_of hB (by rw [useL_len]; omega) n hr
 have h := means_all A cap l known (by omega) hT (K + O.length + 1) (fun x hx => by
  cases hb : bookF l known x.data.toList with
  | none => exact absurd hb (hd x ((hO x).1 hx))
  | some d => exact ⟨d, rfl, formedB_kind (hf d (bookF_some l d hb).1)⟩) (by omega) n ((hO n).2 (.inl rfl)) w hD
 rw [hK _ (by omega)] at h
 exact h
theorem bld75e (e : Int) (w : World) : (Instr.build 75 #[(1, .int .i64 e)]).run Tryz.prog w = .ok (.agg (mnA zeroV e)) w := by kernel_rfl
set_option maxRecDepth 100000 in
set_option maxHeartbeats 4000000 in
theorem refMeans_bad {A : Option Addr} {cap : Nat} {l : List Df} (n : ByteArray) (known : Int) (w : World) (E : Int) (hE : E ≠ 0)
  (hN : ∀ w1, Below w.heap.size w w1 → Calls Tryz.prog 57 #[.slice A l.length cap, .string n, .int .i64 known] w1 (RetTx w1 [] E)) :
  Calls Tryz.prog 56 #[.slice A l.length cap, .string n, .int .i64 known] w (RetMd w zeroV E) := by
 have k0 := new75z w
 have hb0 := below_new w (.cells #[.int .i64 0, .int .i64 0, .int .i64 0, .int .i64 0, .int .i64 0, .int .i64 0, .int .i64 0, .int .i64 0, .int .i64 0, .int .i64 0, .int .i64 0, .int .i64 0, .int .i64 0, .int .i64 0, .int .i64 0, .int .i64 0, .int .i64 0, .int .i64 0, .int .i64 0, .int .i64 0, .int .i64 0, .int .i64 0, .int .i64 0, .int .i64 0, .int .i64 0] 75)
 have HN := Lib.hid (hN _ hb0)
 have g0 : (E != 0) = true := by simp [hE]
 clear hE hN
 go_enter Tryz.func56, Tryz.ntmps56
 go_wp2_with (first
  | (go_at_call 57; refine HN.out.mono ?_; rintro e1 w1 ⟨A1, c1, rfl, hS1, hc1, hcm1, hb1⟩; have hT := below_new w1 (.cells #[.slice A1 0 c1, .int .i64 E] 94); have k1 := (k0.below hb1 k0.lt).below hT (k0.below hb1 k0.lt).lt; have hB1 := below_next (below_next hb0 hb0.size hb1) (below_next hb0 hb0.size hb1).size hT; obtain ⟨c0, cE⟩ := (Blk.new w1 94 #[.slice A1 0 c1, .int .i64 E]).two)
  | (refine stMd 6 21 rfl rfl k1 rfl (v := zeroV) (e := E) (by kernel_rfl) ?_))
 exact bodyPost_ret (resMd rfl _ _ (k1.setRow _) rfl) rfl ⟨rfl, below_setRow hB1 (by omega) _⟩
end Go.Proofs.YtbhiphjifdnhmaaGreatDoor
namespace Go.Proofs.YtbhiphjifdnhmaaGreatDoor
open Go.RowKit Go.Maps
set_option maxRecDepth 100000 in
set_option maxHeartbeats 4000000 in
theorem refMeans_walk {A : Option Addr} {cap : Nat} {l : List Df} (hl : l.length ≤ 1000) (n : ByteArray) (known : Int) (w : World) (hD : Defs w w.heap.size A l) (R : List ByteArray) (hRl : R.length ≤ 900) (v : Nat → Int) (er : Int)
  (hN : ∀ w1, Defs w1 w1.heap.size A l → Calls Tryz.prog 57 #[.slice A l.length cap, .string n, .int .i64 known] w1 (RetTx w1 R 0))
  (hNW : ∀ (x : ByteArray) (w1 : World), Defs w1 w1.heap.size A l → Calls Tryz.prog 103 #[.slice A l.length cap, .string x, .int .i64 known] w1 fun e w' => e = .returned (.int .i64 (encI (newO l x known l.length))) ∧ Below w1.heap.size w1 w')
  (P : ByteArray → List ByteArray) (hP : ∀ x ∈ putL ltS R n, (P x).length ≤ 1000 ∧ ∀ w1, Defs w1 w1.heap.size A l → Calls Tryz.prog 105 #[.slice A l.length cap, .string x, .int .i64 known] w1 fun e w' => ∃ A' c', e = .returned (.slice A' (P x).length c') ∧ Strs w' w'.heap.size A' (P x) ∧ (P x).length ≤ c' ∧ c' ≤ maxLen ∧ Below w1.heap.size w1 w')
  (h5 : ∀ x ∈ R, newO l x known l.length = none → v = zeroV ∧ er = 5)
  (h4 : (∀ x ∈ R, newO l x known l.length ≠ none) → ∀ x ∈ putL ltS R n, hasL (P x) x = true → v = zeroV ∧ er = 4)
  (h0 : (∀ x ∈ R, newO l x known l.length ≠ none) → (∀ x ∈ putL ltS R n, hasL (P x) x = false) → ∀ w1, Defs w1 w1.heap.size A l → Calls Tryz.prog 106 #[.slice A l.length cap, .string n, .int .i64 known] w1 (RetMd w1 v er)) :
  Calls Tryz.prog 56 #[.slice A l.length cap, .string n, .int .i64 known] w (RetMd w v er) := by
 have k0 := new75z w
 have hb0 := below_new w (.cells #[.int .i64 0, .int .i64 0, .int .i64 0, .int .i64 0, .int .i64 0, .int .i64 0, .int .i64 0, .int .i64 0, .int .i64 0, .int .i64 0, .int .i64 0, .int .i64 0, .int .i64 0, .int .i64 0, .int .i64 0, .int .i64 0, .int .i64 0, .int .i64 0, .int .i64 0, .int .i64 0, .int .i64 0, .int .i64 0, .int .i64 0, .int .i64 0, .int .i64 0] 75)
 have hD0 := hD.behind hb0
 have HN := Lib.hid (hN _ hD0)
 have HNW := Lib.hid hNW
 have HP := Lib.hid hP
 have H5 := Lib.hid h5
 have H4 := Lib.hid h4
 have H0 := Lib.hid h0
 have HD := Lib.hid hD
 clear hN hNW hP h5 h4 h0 hD
 go_enter Tryz.func56, Tryz.ntmps56
 go_wp2_with (go_at_call 57; refine HN.out.mono ?_; rintro e1 w1 ⟨A1, c1, rfl, hS1, hc1, hcm1, hb1⟩; have hT := below_new w1 (.cells #[.slice A1 R.length c1, .int .i64 0] 94); have k1 := (k0.below hb1 k0.lt).below hT (k0.below hb1 k0.lt).lt; have hB1 := below_next (below_next hb0 hb0.size hb1) (below_next hb0 hb0.size hb1).size hT; have kT := Blk.new w1 94 #[.slice A1 R.length c1, .int .i64 0]; obtain ⟨c0, cE⟩ := kT.two; have hST := hS1.behind hT; have hsz1 : w.heap.size < w1.heap.size := Nat.lt_of_lt_of_le (by simp) hb1.size)
 go_loopg [8] (R.length) (fun g t8 wq => ∃ (k : Nat), k ≤ R.length ∧ R.length - k ≤ g ∧ t8 = .int .i64 k ∧ Hid (∀ x ∈ R.take k, newO l x known l.length ≠ none) ∧ Blk wq w.heap.size 75 (mnA zeroV 0) ∧ Blk wq w1.heap.size 94 #[.slice A1 R.length c1, .int .i64 0] ∧ Strs wq wq.heap.size A1 R ∧ Below w.heap.size w wq)
 case atStart => exact ⟨0, by omega, by omega, rfl, Lib.hid (by simp), k1, kT, hST, hB1⟩
 case round =>
  obtain ⟨k, hk, hg, rfl, HA1, k2, kT2, hS2, hB2⟩ := hrel
  clear k1 kT hST hB1 c0 cE hT hb1 hS1 k0 hb0 hD0
  obtain ⟨c0, cE⟩ := kT2.two
  have hDr := HD.out.behind hB2
  have hq : IntKind.i64.wrap ((k : Int) + 1) = (k : Int) + 1 := IntWalk.i64_in _ (by omega)
  have HQ := Lib.hid hq
  clear hq
  by_cases hlt : k < R.length
  ·obtain ⟨x, hx⟩ : ∃ x, R[k]? = some x := ⟨_, List.getElem?_eq_getElem hlt⟩
   obtain ⟨ad, hA, hag, hcx⟩ := hS2 k x hx
   subst hA
   have hxR : x ∈ R := List.mem_of_getElem? hx
   cases hq : newO l x known l.length with
   | none =>
    obtain ⟨hv, he⟩ := H5.out x hxR hq
    have HQ2 := Lib.hid hq
    subst hv
    subst he
    clear hq hxR hx H5 H4 H0 HP HA1
    go_wp2_with (first
     | (go_at_call 103; refine (HNW.out x _ hDr).mono ?_; rw [HQ2.out, show encI none = (-1 : Int) from rfl]; rintro e3 w3 ⟨rfl, hb3⟩; have k3 := k2.below hb3 k2.lt; have hB3 := below_next hB2 hB2.size hb3)
     | (refine stMd 6 38 rfl rfl k3 rfl (v := zeroV) (e := 5) (by kernel_rfl) ?_))
    exact bodyPost_ret (resMd rfl _ _ (k3.setRow _) rfl) rfl ⟨rfl, below_setRow hB3 (by omega) _⟩
   | some i =>
    have HQ2 := Lib.hid hq
    have hi0 : ¬ (i : Int) < 0 := by omega
    have HA2 := Lib.hid (show ∀ y ∈ R.take (k + 1), newO l y known l.length ≠ none by
     intro y hy
     obtain ⟨q1, q2⟩ := List.getElem?_eq_some_iff.1 hx
     rw [List.take_succ_eq_append_getElem hlt] at hy
     rcases List.mem_append.1 hy with hy | hy
     ·exact HA1.out y hy
     ·rw [List.mem_singleton, q2] at hy
      subst hy
      rw [hq]
      simp)
    clear hq hxR hx H5 H4 H0 HP HA1
    go_wp2_with (go_at_call 103; refine (HNW.out x _ hDr).mono ?_; rw [HQ2.out, show encI (some i) = (i : Int) from rfl]; rintro e3 w3 ⟨rfl, hb3⟩)
    go_roundg (R.length - (k + 1))
    case measure => omega
    case rel => exact ⟨k + 1, by omega, by omega, by go_num, HA2, k2.below hb3 k2.lt, kT2.below hb3 kT2.lt, hS2.behind hb3, below_next hB2 hB2.size hb3⟩
  ·obtain rfl : k = R.length := by omega
   have HA2 := Lib.hid (show ∀ y ∈ R, newO l y known l.length ≠ none by
    have h := HA1.out
    rwa [List.take_length] at h)
   have H4b := Lib.hid (H4.out HA2.out)
   have H0b := Lib.hid (H0.out HA2.out)
   clear H4 H0 H5 HA1 HA2 hlt hk hg
   have hpl := (putL_len (lt := ltS) R n).2
   go_wp2_with (go_at_call 102; refine (put_any A1 c1 R n _ (by omega) hc1 hcm1 hS2).mono ?_; rintro e4 w4 ⟨A4, c4, rfl, hS4, hc4, hcm4, hb4⟩)
   have k4 := k2.below hb4 k2.lt
   have hB4 := below_next hB2 hB2.size hb4
   clear k2 kT2 hB2 hb4 hS2 c0 cE hDr
   obtain ⟨M, hM⟩ : ∃ M, M = putL ltS R n := ⟨_, rfl⟩
   rw [← hM] at hS4 hc4 H4b H0b HP hpl ⊢
   clear hM
   go_loopg [10] (M.length) (fun g t10 wq => ∃ (k : Nat), k ≤ M.length ∧ M.length - k ≤ g ∧ t10 = .int .i64 k ∧ Hid (∀ x ∈ M.take k, hasL (P x) x = false) ∧ Blk wq w.heap.size 75 (mnA zeroV 0) ∧ Strs wq wq.heap.size A4 M ∧ Below w.heap.size w wq)
   case atStart => exact ⟨0, by omega, by omega, rfl, Lib.hid (by simp), k4, hS4, hB4⟩
   case round =>
    clear k4 hS4 hB4
    obtain ⟨k, hk, hg, rfl, HA1, k4, hS4, hB4⟩ := hrel
    have hDr := HD.out.behind hB4
    have hDr2 : Defs wr.drew wr.drew.heap.size A l := hDr
    have k4d : Blk wr.drew w.heap.size 75 (mnA zeroV 0) := k4
    have hS4d : Strs wr.drew wr.drew.heap.size A4 M := hS4
    have hq : IntKind.i64.wrap ((k : Int) + 1) = (k : Int) + 1 := IntWalk.i64_in _ (by omega)
    have HQ2 := Lib.hid hq
    clear hq HQ
    by_cases hlt : k < M.length
    ·obtain ⟨x, hx⟩ : ∃ x, M[k]? = some x := ⟨_, List.getElem?_eq_getElem hlt⟩
     obtain ⟨ad, hA, hag, hcx⟩ := hS4 k x hx
     subst hA
     have hxM : x ∈ M := List.mem_of_getElem? hx
     obtain ⟨hPl, hPc⟩ := HP.out x hxM
     have HPC := Lib.hid hPc
     clear hPc
     cases hb : hasL (P x) x with
     | false =>
      have HB := Lib.hid hb
      have HA2 := Lib.hid (show ∀ y ∈ M.take (k + 1), hasL (P y) y = false by
       intro y hy
       obtain ⟨q1, q2⟩ := List.getElem?_eq_some_iff.1 hx
       rw [List.take_succ_eq_append_getElem hlt] at hy
       rcases List.mem_append.1 hy with hy | hy
       ·exact HA1.out y hy
       ·rw [List.mem_singleton, q2] at hy
        subst hy
        exact hb)
      clear hb hx hxM HA1 H4b H0b HP
      go_wp2_with fail
      go_region_held3 (fun w' => w'.cell? (ad.add k) = some (.string x)) (first | exact K1 | exact hcx)
       (first
        | (go_at_call 105; refine (HPC.out wr.drew hDr2).mono ?_; rintro e5 w5 ⟨A5, c5, rfl, hS5, hc5, hcm5, hb5⟩; have K1 : w5.cell? (ad.add k) = some (.string x) := keepL (W := wr.drew) hb5 hcx; have k5 := k4d.below hb5 k4d.lt; have hS6 := hS4d.behind hb5; have hB5 := below_next hB4.drew hB4.drew.size hb5)
        | (go_at_call 104; refine (refHas_any A5 c5 _ (P x) x _ (by omega) hS5).mono ?_; rw [HB.out]; rintro e6 w6 ⟨rfl, rfl⟩))
      go_wp2_with fail
      go_roundg (M.length - (k + 1))
      case measure => omega
      case rel => exact ⟨k + 1, by omega, by omega, by go_num, HA2, k5, hS6, hB5⟩
     | true =>
      have HB := Lib.hid hb
      obtain ⟨hv, he⟩ := H4b.out x hxM hb
      subst hv
      subst he
      clear hb hx hxM HA1 H4b H0b HP
      go_wp2_with fail
      go_region_held3 (fun w' => w'.cell? (ad.add k) = some (.string x)) (first | exact K1 | exact hcx)
       (first
        | (go_at_call 105; refine (HPC.out wr.drew hDr2).mono ?_; rintro e5 w5 ⟨A5, c5, rfl, hS5, hc5, hcm5, hb5⟩; have K1 : w5.cell? (ad.add k) = some (.string x) := keepL (W := wr.drew) hb5 hcx; have k5 := k4d.below hb5 k4d.lt; have hB5 := below_next hB4.drew hB4.drew.size hb5)
        | (go_at_call 104; refine (refHas_any A5 c5 _ (P x) x _ (by omega) hS5).mono ?_; rw [HB.out]; rintro e6 w6 ⟨rfl, rfl⟩))
      go_wp2_with (refine stMd 6 62 rfl rfl k5 rfl (v := zeroV) (e := 4) (by kernel_rfl) ?_)
      exact bodyPost_ret (resMd rfl _ _ (k5.setRow _) rfl) rfl ⟨rfl, below_setRow hB5 (by omega) _⟩
    ·obtain rfl : k = M.length := by omega
     have H0c := Lib.hid (H0b.out (by
      have h := HA1.out
      rwa [List.take_length] at h))
     clear H0b H4b HP HA1 hlt hk hg
     go_wp2_with (first
      | (go_at_call 106; refine (H0c.out _ hDr).mono ?_; rintro e7 w7 ⟨rfl, hb7⟩; have k7 := k4.below hb7 k4.lt; have hB7 := below_next hB4 hB4.size hb7)
      | (refine stMd 6 66 rfl rfl k7 rfl rfl ?_))
     exact bodyPost_ret (resMd rfl _ _ (k7.setRow _) rfl) rfl ⟨rfl, below_setRow hB7 (by omega) _⟩
end Go.Proofs.YtbhiphjifdnhmaaGreatDoor
namespace Go.Proofs.YtbhiphjifdnhmaaGreatDoor
open Go.RowKit Go.Maps
theorem refMeans_any {A : Option Addr} {cap : Nat} {l : List Df} (h : LOk A cap l) (hl4 : l.length ≤ 400) (n : ByteArray) (hn : n.size ≤ maxLen) (known : Int) (w : World) (hD : Defs w w.heap.size A l) {v : Nat → Int} {er : Int} (hM : MeansIs l n known v er) :
  Calls Tryz.prog 56 #[.slice A l.length cap, .string n, .int .i64 known] w (RetMd w v er) := by
 by_cases hN0 : needE l n known = 0
 ·have hn0 : nameE l n known = 0 := by
   unfold needE at hN0
   by_cases h1 : nameE l n known = 0
   ·exact h1
   ·rw [if_neg h1] at hN0
    exact absurd hN0 h1
  have hsome : bookF l known n.data.toList ≠ none := by
   unfold needE at hN0
   rw [if_pos hn0] at hN0
   intro hb
   rw [hb] at hN0
   cases hN0
  obtain ⟨hk, hb⟩ := nameE_ok hn0
  obtain ⟨hg, k1, k2⟩ := knownE_cal hk
  have hl30 := hg.len
  have hB := bookOk_of (by omega) h.sz known
  have hMs : MSpec (bookF l known) n v er := by
   rcases hM with ⟨_, hM⟩ | ⟨h1, _⟩
   ·exact hM
   ·exact absurd hn0 h1
  obtain ⟨R, ⟨hR, hRr⟩, hRl⟩ := reach_of (by omega) h.sz n known
  rw [useL_len] at hRl
  have hP : ∀ x : ByteArray, ∃ P, (Inc ltS P ∧ ∀ z, z ∈ P ↔ Rch (prt (bookF l known)) x z) ∧ P.length ≤ (useL l).length := fun x => reach_of (by omega) h.sz x known
  obtain ⟨P, hP⟩ := Classical.axiomOfChoice hP
  have hup : ∀ x, x ∈ putL ltS R n ↔ Upon (bookF l known) n x := fun x => by
   rw [putL_mem ltS_ord, hRr]
   exact Iff.rfl
  have hnone : ∀ x, newO l x known l.length = none ↔ bookF l known x.data.toList = none := fun x => newO_none l x known
  have hdef : (∀ x ∈ R, newO l x known l.length ≠ none) → ∀ x, Upon (bookF l known) n x → bookF l known x.data.toList ≠ none := by
   intro hd x hx
   rcases hx with rfl | hx
   ·exact hsome
   ·exact fun hb => hd x ((hRr x).2 hx) ((hnone x).2 hb)
  have hhas : ∀ x, hasL (P x) x = true ↔ Rch (prt (bookF l known)) x x := fun x => by
   rw [← (hP x).1.2 x]
   unfold hasL
   rw [List.any_eq_true]
   constructor
   ·rintro ⟨y, hy, he⟩
    rw [of_decide_eq_true he] at hy
    exact hy
   ·exact fun hx => ⟨x, hx, decide_eq_true rfl⟩
  refine refMeans_walk h.len n known w hD R (by omega) v er (fun w1 hD1 => ?_) (fun x w1 hD1 => newest_any A cap l x known w1 h.len hD1) P (fun x hx => ⟨by have := (hP x).2; rw [useL_len] at this; omega, fun w1 hD1 => rests_any A cap l x known w1 h.len hD1 (useL l) hB (P x) (hP x).1.1 (hP x).1.2⟩) ?_ ?_ ?_
  ·have := refNeeds_any h n hn known w1 hD1 R hR hRr
   rwa [if_pos hN0, hN0] at this
  ·exact fun x hx hq => hMs.none (.inr ((hRr x).1 hx)) ((hnone x).1 hq)
  ·exact fun hd x hx hq => hMs.ring (hdef hd) ((hup x).1 hx) ((hhas x).1 hq)
  ·intro hd hr w1 hD1
   refine refMeans_at (by omega) h.sz hg.form n known v er hMs (hdef hd) (fun y hy hl => ?_) w1 hD1
   have := hr y ((hup y).2 hy)
   rw [(hhas y).2 hl] at this
   cases this
 ·have hv : v = zeroV ∧ er = needE l n known := by
   rcases hM with ⟨h1, hM⟩ | ⟨h1, rfl, rfl⟩
   ·have hb : bookF l known n.data.toList = none := by
     cases hb : bookF l known n.data.toList with
     | none => rfl
     | some d =>
      unfold needE at hN0
      rw [if_pos h1, hb] at hN0
      exact absurd rfl hN0
    obtain ⟨rfl, rfl⟩ := hM.none (.inl rfl) hb
    refine ⟨rfl, ?_⟩
    unfold needE
    rw [if_pos h1, hb]
    rfl
   ·refine ⟨rfl, ?_⟩
    unfold needE
    rw [if_neg h1]
  obtain ⟨rfl, rfl⟩ := hv
  refine refMeans_bad n known w _ hN0 fun w1 hb1 => ?_
  obtain ⟨R, ⟨hR, hRr⟩, _⟩ := reach_of hl4 h.sz n known
  have := refNeeds_any h n hn known w1 (hD.behind hb1) R hR hRr
  rwa [if_neg hN0] at this
end Go.Proofs.YtbhiphjifdnhmaaGreatDoor
