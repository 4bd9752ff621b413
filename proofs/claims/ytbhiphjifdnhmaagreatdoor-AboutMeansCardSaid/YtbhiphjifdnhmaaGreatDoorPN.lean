import Derived.Test.YtbhiphjifdnhmaaGreatDoorPM
import Derived.Test.YtbhiphjifdnhmaaGreatDoorPE
import Derived.Deep.QuietTactic
import Derived.BigQuiet
set_option linter.unusedSimpArgs false
set_option linter.unusedVariables false
/- AboutMeans. -/
namespace Go.Proofs.YtbhiphjifdnhmaaGreatDoor
open Go.RowKit Go.Maps
theorem allB_drewN {w : World} {L : List (Nat × TypeId × Array Value)} (h : AllB w L) (n : Nat) : AllB (w.drewN n) L := h
/-- two days that are the same, compared under a guard -/
theorem wpl_same26G {ops : Array Oper} {rest : List Oper} {o : Oper} {a : Act} {w : World} {Q : Exit → Act → World → Prop} (hgd : Region.wanted o (yielded ops a.tmps) = true) (x y : Operand) (t : TypeId) (ho : o.op = .binOp .eql 26 x y t) (v : Nat → Int) (hx : a.eval x = .agg (va v)) (hy : a.eval y = .agg (va v))
  (h : wpList Tryz.prog ops Q rest (a.put o.dst (.bool true)) w) : wpList Tryz.prog ops Q (o :: rest) a w :=
 wpList_step fun _ hK => by
  rw [if_pos hgd]
  unfold Oper.wp execOp
  simp only [ho, hx, hy, Sem.run_bind, guard26, run_eq26, sameV_self, Result.andThen_ok, Sem.run_pure]
  exact hK _ _ h
end Go.Proofs.YtbhiphjifdnhmaaGreatDoor
namespace Go.Proofs.YtbhiphjifdnhmaaGreatDoor
open Go.RowKit Go.Maps
/-- what a law's walk carries from world to world -/
structure St (w0 : World) (A : Option Addr) (l : List Df) (ev : Value) (w : World) : Prop where
 below : Below w0.heap.size w0 w
 defs : Defs w w.heap.size A l
 err : ErrAt w ev
 pos : 0 < w.heap.size
theorem St.next {w0 : World} {A : Option Addr} {l : List Df} {ev : Value} {w w' : World} (h : St w0 A l ev w) (hb : Below w.heap.size w w') : St w0 A l ev w' :=
 ⟨below_next h.below h.below.size hb, h.defs.behind hb, h.err.fr (m := 0) h.pos hb, Nat.lt_of_lt_of_le h.pos hb.size⟩
theorem St.drewN {w0 : World} {A : Option Addr} {l : List Df} {ev : Value} {w : World} (h : St w0 A l ev w) (n : Nat) : St w0 A l ev (w.drewN n) := ⟨below_drewN h.below n, h.defs, h.err, h.pos⟩
theorem St.begin {A : Option Addr} {l : List Df} {ev : Value} {w : World} (hD : Defs w w.heap.size A l) (hE : ErrAt w ev) (h0 : 0 < w.heap.size) : St w A l ev w := ⟨Below.refl _ _, hD, hE, h0⟩
/-- lists of texts in memory -/
def AllS (w : World) (L : List (Option Addr × List ByteArray)) : Prop := ∀ q ∈ L, Strs w w.heap.size q.1 q.2
theorem AllS.nil (w : World) : AllS w [] := fun q h => by simp at h
theorem AllS.behind {w w' : World} {L : List (Option Addr × List ByteArray)} (h : AllS w L) (hb : Below w.heap.size w w') : AllS w' L := fun q hq => (h q hq).behind hb
theorem AllS.drewN {w : World} {L : List (Option Addr × List ByteArray)} (h : AllS w L) (n : Nat) : AllS (w.drewN n) L := h
theorem AllS.get {w : World} {L : List (Option Addr × List ByteArray)} (h : AllS w L) (i : Nat) {A : Option Addr} {l : List ByteArray} (e : L[i]? = some (A, l)) : Strs w w.heap.size A l := h (A, l) (List.mem_of_getElem? e)
theorem AllS.push {w : World} {L : List (Option Addr × List ByteArray)} (h : AllS w L) {A : Option Addr} {l : List ByteArray} (k : Strs w w.heap.size A l) : AllS w (L ++ [(A, l)]) := fun q hq => by
 rcases List.mem_append.1 hq with hq | hq
 ·exact h q hq
 ·rw [List.mem_singleton] at hq
  subst hq
  exact k
/-- lists of numbers in memory -/
def AllI (w : World) (L : List (Option Addr × List Int)) : Prop := ∀ q ∈ L, Ints w w.heap.size q.1 q.2
theorem AllI.nil (w : World) : AllI w [] := fun q h => by simp at h
theorem AllI.behind {w w' : World} {L : List (Option Addr × List Int)} (h : AllI w L) (hb : Below w.heap.size w w') : AllI w' L := fun q hq => (h q hq).behind hb
theorem AllI.drewN {w : World} {L : List (Option Addr × List Int)} (h : AllI w L) (n : Nat) : AllI (w.drewN n) L := h
theorem AllI.get {w : World} {L : List (Option Addr × List Int)} (h : AllI w L) (i : Nat) {A : Option Addr} {l : List Int} (e : L[i]? = some (A, l)) : Ints w w.heap.size A l := h (A, l) (List.mem_of_getElem? e)
theorem AllI.push {w : World} {L : List (Option Addr × List Int)} (h : AllI w L) {A : Option Addr} {l : List Int} (k : Ints w w.heap.size A l) : AllI w (L ++ [(A, l)]) := fun q hq => by
 rcases List.mem_append.1 hq with hq | hq
 ·exact h q hq
 ·rw [List.mem_singleton] at hq
  subst hq
  exact k
set_option maxRecDepth 100000 in
set_option maxHeartbeats 4000000 in
theorem law13_bad (hS : Hid SanityIs) (A : Option Addr) (cap : Nat) (l : List Df) (n : ByteArray) (hn : n.size ≤ maxLen) (known : Int) (w : World) (hF : ∀ W, Defs W W.heap.size A l → Calls Tryz.prog 32 #[.slice A l.length cap] W fun e w' => e = .returned (.bool (fewB l)) ∧ W = w') (hD : Defs w w.heap.size A l) (ho : ¬ (fewB l = true ∧ n.size ≤ 40)) :
  Calls Tryz.prog 13 #[.slice A l.length cap, .string n, .int .i64 known] w fun e w' => e = .returned (.bool true) ∧ Below w.heap.size w w' := by
 have HF := Lib.hid (hF w hD)
 have hW := Below.refl w.heap.size w
 cases hf : fewB l
 ·rw [hf] at HF
  clear hf ho hF
  go_enter Tryz.func13, Tryz.ntmps13
  go_wp2_with (first
   | go_skip
   | (go_at_call 32; refine HF.out.mono ?_; rintro e w1 ⟨rfl, rfl⟩)
   | (go_at_call 15; refine (hS.out _).mono ?_; rintro e w2 ⟨rfl, hb⟩; replace hW := below_next hW hW.size hb))
  go_ret
  exact ⟨rfl, hW⟩
 ·rw [hf] at HF
  have h40 : 40 < n.size := by
   apply Classical.byContradiction
   intro h
   exact ho ⟨hf, by omega⟩
  have h40' : (40 : Int) < (n.size : Int) := by omega
  clear hf ho hF
  go_enter Tryz.func13, Tryz.ntmps13
  go_wp2_with (first
   | go_skip
   | (go_at_call 32; refine HF.out.mono ?_; rintro e w1 ⟨rfl, rfl⟩)
   | (go_at_call 15; refine (hS.out _).mono ?_; rintro e w2 ⟨rfl, hb⟩; replace hW := below_next hW hW.size hb))
  go_ret
  exact ⟨rfl, hW⟩
set_option maxRecDepth 100000 in
set_option maxHeartbeats 16000000 in
theorem law13_in (hS : Hid SanityIs) (A : Option Addr) (cap : Nat) (l : List Df) (n : ByteArray) (hn : n.size ≤ 40) (known : Int) (ev : Value) (V : Nat → Int) (EN E ER EC CE : Int) (LN LR : List ByteArray) (LC : List Int) (w : World)
  (hLN : LN.length ≤ 1000000) (hLR : LR.length ≤ 1000000) (hLC : LC.length ≤ 1000000)
  (HF : Hid (∀ W, Defs W W.heap.size A l → Calls Tryz.prog 32 #[.slice A l.length cap] W fun e w' => e = .returned (.bool true) ∧ W = w'))
  (H1 : Hid (∀ W, Defs W W.heap.size A l → Calls Tryz.prog 54 #[.slice A l.length cap, .int .i64 known] W (RetStE W LN EN)))
  (H2 : Hid (∀ W, Defs W W.heap.size A l → Calls Tryz.prog 55 #[.slice A l.length cap, .int .i64 known] W (RetTx W LN EN)))
  (H3 : Hid (∀ W, Defs W W.heap.size A l → ErrAt W ev → 0 < W.heap.size → Calls Tryz.prog 34 #[.slice A l.length cap, .string n, .int .i64 known] W (RetV W V E)))
  (H4 : Hid (∀ W, Defs W W.heap.size A l → Calls Tryz.prog 56 #[.slice A l.length cap, .string n, .int .i64 known] W (RetMd W V E)))
  (H5 : Hid (∀ W, Defs W W.heap.size A l → Calls Tryz.prog 35 #[.slice A l.length cap, .string n, .int .i64 known] W (RetStE W LR ER)))
  (H6 : Hid (∀ W, Defs W W.heap.size A l → Calls Tryz.prog 57 #[.slice A l.length cap, .string n, .int .i64 known] W (RetTx W LR ER)))
  (H7 : Hid (∀ W, Defs W W.heap.size A l → ErrAt W ev → 0 < W.heap.size → Calls Tryz.prog 37 #[.slice A l.length cap, .string n] W (RetInE W LC EC)))
  (H8 : Hid (∀ W, Defs W W.heap.size A l → Calls Tryz.prog 58 #[.slice A l.length cap, .string n] W (RetIs W LC EC)))
  (H9 : Hid (∀ W, Defs W W.heap.size A l → Calls Tryz.prog 33 #[.slice A l.length cap] W fun e w' => e = .returned (.int .i64 CE) ∧ Below W.heap.size W w'))
  (G9 : Hid (∀ W, Defs W W.heap.size A l → Calls Tryz.prog 59 #[.slice A l.length cap] W fun e w' => e = .returned (.int .i64 CE) ∧ Below W.heap.size W w'))
  (hD : Defs w w.heap.size A l) (hE : ErrAt w ev) (h0 : 0 < w.heap.size) :
  Calls Tryz.prog 13 #[.slice A l.length cap, .string n, .int .i64 known] w fun e w' => e = .returned (.bool true) ∧ Below w.heap.size w w' := by
 have hs := St.begin hD hE h0
 have hL := AllS.nil w
 have hI := AllI.nil w
 have hK := AllB.nil w
 have h40' : ¬ (40 : Int) < (n.size : Int) := by omega
 clear hD hE h0
 go_enter Tryz.func13, Tryz.ntmps13
 go_upto_region 11 with (first
  | go_skip
  | (go_at_call 32; refine (HF.out _ hs.defs).mono ?_; rintro e w1 ⟨rfl, rfl⟩)
  | (go_at_call 54; refine (H1.out _ hs.defs).mono ?_; rintro e w1 ⟨A1, c1, rfl, ho, hb⟩; replace hs := hs.next hb; replace hL := hL.behind hb; replace hI := hI.behind hb; replace hK := hK.below hb; replace hL := hL.push (Strs.of_own ho); clear ho hb)
  | (go_at_call 55; refine (H2.out _ hs.defs).mono ?_; rintro e w2 ⟨A2, c2, rfl, ho, hcc, hcm, hb⟩; replace hs := hs.next hb; replace hL := hL.behind hb; replace hI := hI.behind hb; replace hL := hL.push ho; have hT := below_new w2 (.cells #[.slice A2 LN.length c2, .int .i64 EN] 94); replace hs := hs.next hT; replace hL := hL.behind hT; replace hI := hI.behind hT; replace hK := (hK.below hb).push hT (Blk.new w2 94 #[.slice A2 LN.length c2, .int .i64 EN]); clear ho hb hT hcc hcm)
  | (go_at_call 34; refine (H3.out _ hs.defs hs.err hs.pos).mono ?_; rintro e w3 ⟨rfl, hb⟩; replace hs := hs.next hb; replace hL := hL.behind hb; replace hI := hI.behind hb; have hT := below26 w3 V; replace hs := hs.next hT; replace hL := hL.behind hT; replace hI := hI.behind hT; replace hK := (hK.below hb).push hT (new26 w3 V); clear hb hT; have kN := new26z w3)
  | (refine stV 10 43 rfl rfl kN rfl rfl ?_)
  | (go_at_call 56; refine (H4.out _ hs.defs).mono ?_; rintro e w4 ⟨rfl, hb⟩; replace hs := hs.next hb; replace hL := hL.behind hb; replace hI := hI.behind hb; have hT := below75 w4 V E; replace hs := hs.next hT; replace hL := hL.behind hT; replace hI := hI.behind hT; replace hK := (hK.below hb).push hT (new75 w4 V E); clear hb hT; have kM := new75z w4)
  | (refine stMd 12 48 rfl rfl kM rfl rfl ?_)
  | (go_at_call 35; refine (H5.out _ hs.defs).mono ?_; rintro e w5 ⟨A5, c5, rfl, ho, hb⟩; replace hs := hs.next hb; replace hL := hL.behind hb; replace hI := hI.behind hb; replace hK := hK.below hb; replace hL := hL.push (Strs.of_own ho); clear ho hb)
  | (go_at_call 57; refine (H6.out _ hs.defs).mono ?_; rintro e w6 ⟨A6, c6, rfl, ho, hcc, hcm, hb⟩; replace hs := hs.next hb; replace hL := hL.behind hb; replace hI := hI.behind hb; replace hL := hL.push ho; have hT := below_new w6 (.cells #[.slice A6 LR.length c6, .int .i64 ER] 94); replace hs := hs.next hT; replace hL := hL.behind hT; replace hI := hI.behind hT; replace hK := (hK.below hb).push hT (Blk.new w6 94 #[.slice A6 LR.length c6, .int .i64 ER]); clear ho hb hT hcc hcm)
  | (go_at_call 37; refine (H7.out _ hs.defs hs.err hs.pos).mono ?_; rintro e w7 ⟨A7, c7, rfl, ho, hb⟩; replace hs := hs.next hb; replace hL := hL.behind hb; replace hI := hI.behind hb; replace hK := hK.below hb; replace hI := hI.push (Ints.of_own ho); clear ho hb)
  | (go_at_call 58; refine (H8.out _ hs.defs).mono ?_; rintro e w8 ⟨A8, c8, rfl, ho, hb⟩; replace hs := hs.next hb; replace hL := hL.behind hb; replace hI := hI.behind hb; replace hI := hI.push (Ints.of_own ho); have hT := below_new w8 (.cells #[.slice A8 LC.length c8, .int .i64 EC] 99); replace hs := hs.next hT; replace hL := hL.behind hT; replace hI := hI.behind hT; replace hK := (hK.below hb).push hT (Blk.new w8 99 #[.slice A8 LC.length c8, .int .i64 EC]); clear ho hb hT))
 replace hL : AllS _ [(A1, LN), (A2, LN), (A5, LR), (A6, LR)] := hL
 replace hI : AllI _ [(A7, LC), (A8, LC)] := hI
 replace hK : AllB _ [(w2.heap.size, 94, #[.slice A2 LN.length c2, .int .i64 EN]), (w3.heap.size, 26, va V), (w4.heap.size, 75, mnA V E), (w6.heap.size, 94, #[.slice A6 LR.length c6, .int .i64 ER]), (w8.heap.size, 99, #[.slice A8 LC.length c8, .int .i64 EC])] := hK
 clear HF H1 H2 H3 H4 H5 H6 H7 H8 kN kM
 obtain ⟨W1, hW1⟩ : ∃ W1, W1 = w8.alloc (.cells #[.slice A8 LC.length c8, .int .i64 EC] 99) := ⟨_, rfl⟩
 rw [← hW1] at hs hL hI hK ⊢
 clear hW1
 go_wp2_with (first
  | go_skip
  | (go_at_call 33; refine (H9.out _ hs.defs).mono ?_; rintro e w ⟨rfl, hb⟩; replace hs := hs.next hb; replace hL := hL.behind hb; replace hI := hI.behind hb; replace hK := hK.below hb; clear hb)
  | (go_at_call 59; refine (G9.out _ hs.defs).mono ?_; rintro e w ⟨rfl, hb⟩; replace hs := hs.next hb; replace hL := hL.behind hb; replace hI := hI.behind hb; replace hK := hK.below hb; clear hb; obtain ⟨d00, d01⟩ := (hK.get 0 rfl).two; obtain ⟨d30, d31⟩ := (hK.get 3 rfl).two; obtain ⟨d40, d41⟩ := (hK.get 4 rfl).two; have dm := ((hK.get 2 rfl).cell 24).trans (mnA_e V E))
  | (go_at_call 60; (first | (with_reducible refine (sameTexts_any _ _ _ _ _ _ _ _ _ hLN hLN (hL.get 0 rfl) (hL.get 1 rfl)).mono ?_) | (with_reducible refine (sameTexts_any _ _ _ _ _ _ _ _ _ hLR hLR (hL.get 2 rfl) (hL.get 3 rfl)).mono ?_)); rw [decide_eq_true rfl]; rintro e w ⟨rfl, m, rfl⟩; replace hs := hs.drewN m; replace hL := hL.drewN m; replace hI := hI.drewN m; replace hK := allB_drewN hK m; obtain ⟨d00, d01⟩ := (hK.get 0 rfl).two; obtain ⟨d30, d31⟩ := (hK.get 3 rfl).two; obtain ⟨d40, d41⟩ := (hK.get 4 rfl).two; have dm := ((hK.get 2 rfl).cell 24).trans (mnA_e V E))
  | (go_at_call 61; refine (sameInts_any _ _ _ _ _ _ _ _ _ hLC hLC (hI.get 0 rfl) (hI.get 1 rfl)).mono ?_; rw [decide_eq_true rfl]; rintro e w ⟨rfl, m, rfl⟩; replace hs := hs.drewN m; replace hL := hL.drewN m; replace hI := hI.drewN m; replace hK := allB_drewN hK m; obtain ⟨d00, d01⟩ := (hK.get 0 rfl).two; obtain ⟨d30, d31⟩ := (hK.get 3 rfl).two; obtain ⟨d40, d41⟩ := (hK.get 4 rfl).two; have dm := ((hK.get 2 rfl).cell 24).trans (mnA_e V E))
  | (refine ldVG 10 (by rfl) rfl (hK.get 1 rfl) rfl ?_)
  | (refine ldDayG 88 (by rfl) rfl (mn_at (hK.get 2 rfl)) rfl ?_)
  | (refine wpl_same26G (by rfl) (.tmp 87) (.tmp 89) _ rfl V rfl rfl ?_)
  | (go_at_call 15; refine (hS.out _).mono ?_; rintro e w ⟨rfl, hb⟩; replace hs := hs.next hb; replace hL := hL.behind hb; replace hI := hI.behind hb; replace hK := hK.below hb; clear hb; obtain ⟨d00, d01⟩ := (hK.get 0 rfl).two; obtain ⟨d30, d31⟩ := (hK.get 3 rfl).two; obtain ⟨d40, d41⟩ := (hK.get 4 rfl).two; have dm := ((hK.get 2 rfl).cell 24).trans (mnA_e V E); have hs0 := hs.below))
 go_ret
 exact ⟨rfl, below_drewN hs0 _⟩
theorem law13_any (hS : Hid SanityIs) (A : Option Addr) (cap : Nat) (l : List Df) (n : ByteArray) (hn : n.size ≤ maxLen) (known : Int) (ev : Value) (w : World) (hlc : l.length ≤ cap) (hcm : cap ≤ maxLen) (hs : DfsSz l) (hD : Defs w w.heap.size A l) (hE : ErrAt w ev) (h0 : 0 < w.heap.size) :
  Calls Tryz.prog 13 #[.slice A l.length cap, .string n, .int .i64 known] w fun e w' => e = .returned (.bool true) ∧ Below w.heap.size w w' := by
 have hF := fun W (hD : Defs W W.heap.size A l) => few_any A cap l W (Nat.le_trans hlc hcm) hs hD
 by_cases ho : fewB l = true ∧ n.size ≤ 40
 ·obtain ⟨hf, hn40⟩ := ho
  rw [hf] at hF
  have hl40 : l.length ≤ 40 := by
   unfold fewB at hf
   rw [Bool.and_eq_true, Bool.or_eq_true, Bool.and_eq_true] at hf
   rcases hf.2 with h | h
   ·have := of_decide_eq_true h; omega
   ·exact of_decide_eq_true h.2
  have h : LOk A cap l := ⟨by omega, hlc, hcm, hs⟩
  obtain ⟨V, E, hM⟩ := meansIs_ex hs n hn known
  obtain ⟨R, ⟨hR, hRr⟩, hRl⟩ := reach_of (by omega) hs n known
  rw [useL_len] at hRl
  have hMk : ∀ k, ∃ q : (Nat → Int) × Int, MeansIs l n k q.1 q.2 := fun k => by
   obtain ⟨v, e, h⟩ := meansIs_ex hs n hn k
   exact ⟨(v, e), h⟩
  obtain ⟨M, hMM⟩ := Classical.axiomOfChoice hMk
  have hchl : (chgs M l).length ≤ 731 := by
   have h1 := (chgL_sub M (daysTo (l.map (·.known)) 731) (zeroV, 5)).length_le
   have h2 : (daysTo (l.map (·.known)) 731).length ≤ 731 := by
    unfold daysTo
    rw [List.length_map]
    exact Nat.le_trans (List.length_filter_le _ _) (by simp)
   exact Nat.le_trans h1 h2
  refine law13_in hS A cap l n hn40 known ev V (knownE l known) E (needE l n known) (nameE l n 0) (calE l) (if knownE l known = 0 then namesL l known else []) (if needE l n known = 0 then R else []) (if nameE l n 0 = 0 then chgs M l else []) w ?_ ?_ ?_
   (Lib.hid hF) (Lib.hid fun W hD => names_any h known W hD) (Lib.hid fun W hD => refNames_any h known W hD) (Lib.hid fun W hD hE h0 => means_prog h n hn known W hD ev hE h0 hM) (Lib.hid fun W hD => refMeans_any h (by omega) n hn known W hD hM)
   (Lib.hid fun W hD => needs_prog h n hn known W hD R hR hRr) (Lib.hid fun W hD => refNeeds_any h n hn known W hD R hR hRr) (Lib.hid fun W hD hE h0 => changes_prog h n hn W hD ev hE h0 M hMM) (Lib.hid fun W hD => refChanges_any h (by omega) n hn W hD M hMM)
   (Lib.hid fun W hD => calendar_any A cap l W h.len hlc hcm hD hs) (Lib.hid fun W hD => refCalendar_any A cap l W h.len hlc hcm hD hs) hD hE h0
  ·split
   ·have := namesL_len l known; omega
   ·simp
  ·split
   ·omega
   ·simp
  ·split
   ·omega
   ·simp
 ·exact law13_bad hS A cap l n hn known w hF hD ho
end Go.Proofs.YtbhiphjifdnhmaaGreatDoor
