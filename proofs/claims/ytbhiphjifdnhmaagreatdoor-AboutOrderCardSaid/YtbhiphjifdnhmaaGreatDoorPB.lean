import Derived.Test.YtbhiphjifdnhmaaGreatDoorPA
import Derived.Test.YtbhiphjifdnhmaaGreatDoorK10
import Derived.WalkLawsBesides
import Derived.Test.YtbhiphjifdnhmaaGreatDoorK24
set_option linter.unusedSimpArgs false
set_option linter.unusedVariables false
/- The walk, with its panic; order; meaning. -/
namespace Go.Proofs.YtbhiphjifdnhmaaGreatDoor
open Go.RowKit Go.Maps

/-- the variable errRing holds an error -/
def ErrAt (w : World) (ev : Value) : Prop := w.cell? ⟨0, 0, none⟩ = some (.iface 212 ev)
def blkOf (A : Option Addr) : Option Nat := A.map (·.block)
theorem blkOf_own (A : Option Addr) (n c : Nat) : (Value.slice A n c).ownBlock = blkOf A := by cases A <;> rfl
/-- what a walk leaves as it is: all but the walk's own blocks, and the row of its order -/
structure Fr2 (B g mb md : Nat) (A : Option Addr) (w w' : World) : Prop where
 low : Below B w w'
 far : ∀ i, i < w.heap.size → i ≠ g → i ≠ mb → i ≠ md → some i ≠ blkOf A → w'.heap[i]? = w.heap[i]?
/-- the row of an order is the same, or a new one -/
def Same (A A' : Option Addr) (w : World) : Prop := blkOf A' = blkOf A ∨ ∀ i, blkOf A' = some i → w.heap.size ≤ i
section
variable {B g mb md : Nat} {A A1 A2 : Option Addr} {w a c : World}
theorem Fr2.refl (w : World) : Fr2 B g mb md A w w := ⟨Below.refl _ _, fun _ _ _ _ _ _ => rfl⟩
theorem Fr2.trans (h : Fr2 B g mb md A w a) (hs : Same A A1 w) (k : Fr2 B g mb md A1 a c) : Fr2 B g mb md A w c :=
 ⟨h.low.trans k.low, fun i h0 h1 h2 h3 h4 => (k.far i (Nat.lt_of_lt_of_le h0 h.low.size) h1 h2 h3 (fun e => hs.elim (fun x => h4 (e.trans x)) fun x => by have := x i e.symm; omega)).trans (h.far i h0 h1 h2 h3 h4)⟩
theorem Same.refl (w : World) : Same A A w := .inl rfl
theorem Same.trans (h : Same A A1 w) (hw : w.heap.size ≤ a.heap.size) (k : Same A1 A2 a) : Same A A2 w := by
 rcases k with k | k
 ·rcases h with h | h
  ·exact .inl (k.trans h)
  ·exact .inr fun i e => h i (k ▸ e)
 ·exact .inr fun i e => Nat.le_trans hw (k i e)
theorem Fr2.below (h : Fr2 B g mb md A w a) (k : Below a.heap.size a c) (hB : B ≤ a.heap.size) : Fr2 B g mb md A w c := ⟨h.low.trans (k.mono hB), fun i h0 h1 h2 h3 h4 => (k.block i (Nat.lt_of_lt_of_le h0 h.low.size)).trans (h.far i h0 h1 h2 h3 h4)⟩
theorem Fr2.grown (h : Fr2 B g mb md A w a) {row : Option Nat} (k : a.grownBy c row) (hB : B ≤ a.heap.size) (hr : ∀ i, row = some i → B ≤ i ∧ (i = g ∨ i = mb ∨ i = md ∨ some i = blkOf A ∨ w.heap.size ≤ i)) : Fr2 B g mb md A w c :=
 ⟨h.low.grown k hB fun i e => (hr i e).1, fun i h0 h1 h2 h3 h4 => (k.block i (Nat.lt_of_lt_of_le h0 h.low.size) (fun e => by
  rcases (hr i e.symm).2 with r | r | r | r | r
  ·exact h1 r
  ·exact h2 r
  ·exact h3 r
  ·exact h4 r
  ·omega)).trans (h.far i h0 h1 h2 h3 h4)⟩
theorem Fr2.set (h : Fr2 B g mb md A w a) (hB : B ≤ g) (j : Nat) (u : Value) : Fr2 B g mb md A w (a.setCell ⟨g, j, none⟩ u) :=
 ⟨h.low.setCell hB u, fun i h0 h1 h2 h3 h4 => (heap_setCell_other a ⟨g, j, none⟩ i u h1).trans (h.far i h0 h1 h2 h3 h4)⟩
end
theorem setF_cons (F : List ByteArray) (x : ByteArray) (s : List UInt8) : (if s = x.data.toList then some (Value.bool true) else setF F s) = setF (x :: F) s := by
 unfold setF
 by_cases h : s = x.data.toList
 ·subst h
  simp
 ·have : ¬ x.data.toList = s := fun e => h e.symm
  simp [h, this]
/-- the walk in memory, with what is begun and the order so far -/
abbrev WkV (w : World) (B base g mb md m n0 : Nat) (b : List UInt8 → Option Df) (Bg O : List ByteArray) (A : Option Addr) (c : Nat) : Prop := WkS w B base g mb md m n0 b Bg.length O.length (setF Bg) (setF O) O A c
/-- what is known of what is begun -/
structure Beg (b : List UInt8 → Option Df) (V Bg O : List ByteArray) : Prop where
 nd : Bg.Nodup
 sub : ∀ y ∈ Bg, y ∈ V
 ord : ∀ y ∈ O, y ∈ Bg
 ndO : O.Nodup
theorem ErrAt.fr {B m : Nat} {w w' : World} {ev : Value} (h : ErrAt w ev) (hB : m < B) (k : Below B w w') : ErrAt w' ev := ((bcell k).1 0 0 (by omega)).trans h
/-- what a visit leaves behind -/
def RetVisit (b : List UInt8 → Option Df) (V : List ByteArray) (B base g mb md m n0 : Nat) (ev : Value) (Bg O : List ByteArray) (A : Option Addr) (n : ByteArray) (w : World) (e : Ending) (w' : World) : Prop :=
 (e = .returned (.tuple #[]) ∧ (∃ Bg' O' A' c', (Vs (prt b) [n] (Bg, O) (Bg', O') ∧ Beg b V Bg' O') ∧ WkV w' B base g mb md m n0 b Bg' O' A' c' ∧ Same A A' w) ∧ Fr2 B g mb md A w w') ∨
 (e = .panicked [{ v := .iface 212 ev, recovered := false }] ∧ (∃ y, (y = n ∨ Rch (prt b) n y) ∧ Rch (prt b) y y) ∧ Fr2 B g mb md A w w')
set_option maxRecDepth 100000 in
set_option maxHeartbeats 4000000 in
theorem visit_any (b : List UInt8 → Option Df) (V : List ByteArray) (hb : BookOk b V) (B base g mb md m n0 : Nat) (ev : Value) : ∀ (k : Nat) (w : World) (c : Nat) (Bg O : List ByteArray) (A : Option Addr) (n : ByteArray),
  WkV w B base g mb md m n0 b Bg O A c → ErrAt w ev → n.size ≤ maxLen → n ∈ V → Beg b V Bg O → (∀ y ∈ Bg, y ∉ O → Rch (prt b) y n) → V.length - Bg.length < k →
  Calls Tryz.prog 159 #[.pointer (some ⟨g, 0, none⟩), .string n] w (RetVisit b V B base g mb md m n0 ev Bg O A n w)
 | 0, _, _, _, _, _, _, _, _, _, _, _, _, hk => by omega
 | k + 1, w, c, Bg, O, A, n, h, hE, hn, hnV, hBg, hst, hk => by
  obtain ⟨d0, d1, d2, d3⟩ := h.blk.four
  have hl1 := h.done.look keyT Tryz.underlying162 (zero4b w) (key_any n hn)
  have hl2 := h.begun.look keyT Tryz.underlying162 (zero4b w) (key_any n hn)
  by_cases hO : n ∈ O
  ·rw [setF_val O n hO] at hl1
   have HQ : Hid (RetVisit b V B base g mb md m n0 ev Bg O A n w (.returned (.tuple #[])) w) := .inl ⟨rfl, ⟨Bg, O, A, c, ⟨.old hO (.nil _), hBg⟩, h, Same.refl _⟩, Fr2.refl _⟩
   clear hl2 hO hst hBg hE
   go_enter Tryz.func159, Tryz.ntmps159
   go_wp2
   go_end0
   exact HQ.out
  ·rw [setF_no O n hO] at hl1
   by_cases hB' : n ∈ Bg
   ·rw [setF_val Bg n hB'] at hl2
    have HQ : Hid (RetVisit b V B base g mb md m n0 ev Bg O A n w (.panicked [{ v := .iface 212 ev, recovered := false }]) w) := .inr ⟨rfl, ⟨n, .inl rfl, hst n hB' hO⟩, Fr2.refl _⟩
    have hE' : w.cell? ⟨0, 0, none⟩ = some (.iface 212 ev) := hE
    clear hO hst hBg hE hB'
    go_enter Tryz.func159, Tryz.ntmps159
    go_wp2
    exact ⟨rfl, HQ.out⟩
   ·rw [setF_no Bg n hB'] at hl2
    have hlt : (n :: Bg).length ≤ V.length := nodup_le (n :: Bg) V (List.nodup_cons.2 ⟨hB', hBg.nd⟩) fun y hy => (List.mem_cons.1 hy).elim (fun e => e ▸ hnV) (hBg.sub y)
    simp only [List.length_cons] at hlt
    have hVf := hb.few
    have hBm : Bg.length < maxLen := by simp [maxLen]; omega
    have HV := Lib.hid hb
    have HK := Lib.hid (show V.length - (Bg.length + 1) < k by omega)
    have HO := Lib.hid hO
    have HB := Lib.hid hB'
    have HBg := Lib.hid hBg
    have HST := Lib.hid hst
    have HNV := Lib.hid hnV
    obtain ⟨q1, q2, q3⟩ := h.h1
    obtain ⟨r1, r2, r3⟩ := h.h2
    obtain ⟨s1, s2, s3, s4⟩ := h.h3
    have hh4 := h.h4
    obtain ⟨P, hP⟩ : ∃ P, P = prt b n := ⟨_, rfl⟩
    have HP := Lib.hid hP
    have hPs : ∀ x ∈ P, x.size ≤ maxLen ∧ x ∈ V := by rw [hP]; exact fun x hx => ⟨hb.sz _ x hx, hb.mem _ x hx⟩
    have hP2 : P.length ≤ 2 := by rw [hP]; exact parts_two b _
    have hPe : partsL b n.data.toList = P := hP.symm
    have HPe := Lib.hid hPe
    have HPs := Lib.hid hPs
    clear hO hB' hBg hst hk hP hb hPe hPs hVf hnV
    go_enter Tryz.func159, Tryz.ntmps159
    go_wp2_with (first
     | (refine wpl_put rfl (.tmp 22) (.tmp 23) (.const (.bool true)) 162 4 rfl Tryz.underlying162 h.begun hBm n hn (.bool true) rfl rfl rfl ?_; intro w1 hM1 hg1 hz1; clear hz1; have W1 : WkV w1 B base g mb md m n0 b (n :: Bg) O A c := h.begin _ _ (hM1.congr (setF_cons Bg n)) hg1; obtain ⟨e0, e1, e2, e3⟩ := W1.blk.four)
     | (go_at_call 129; refine (parts_any b m n0 n _ W1.book hn).mono ?_; rw [HPe.out]; rintro e w2 ⟨Ap, cp, rfl, ho2, hb2⟩))
    have hb1 : Fr2 B g mb md A w w1 := (Fr2.refl w).grown hg1 (by omega) (fun i e => by injection e with e; omega)
    have W2 := W1.moved hb2
    have hS2 : Strs w2 w2.heap.size Ap P := Strs.of_own ho2
    have hb3 := hb1.below hb2 (by have := W1.h4; omega)
    have hE2 : ErrAt w2 ev := hE.fr s2 hb3.low
    have hAp : ∀ i, blkOf Ap = some i → base ≤ i ∧ i < w2.heap.size ∧ some i ≠ blkOf A := fun i e => by
     have h1 := ho2.lt i (by rw [blkOf_own]; exact e)
     have h3 := W1.h4
     refine ⟨by omega, h1.2, fun e2 => ?_⟩
     have h2 := (W1.own.lt i (by rw [blkOf_own]; exact e2.symm)).2
     omega
    have HBeg : Hid (Vs (prt b) (P.take 0) (n :: Bg, O) (n :: Bg, O) ∧ Beg b V (n :: Bg) O) := Lib.hid ⟨.nil _, ⟨List.nodup_cons.2 ⟨HB.out, HBg.out.nd⟩, fun y hy => (List.mem_cons.1 hy).elim (fun e => by subst e; exact HNV.out) (HBg.out.sub y), fun y hy => List.mem_cons_of_mem _ (HBg.out.ord y hy), HBg.out.ndO⟩⟩
    clear e0 e1 e2 e3 ho2 hb2 hb1 W1 d0 d1 d2 d3 hl1 hl2 hM1 hg1 h hE
    have hsz2 : w.heap.size ≤ w2.heap.size := hb3.low.size
    go_loopw [31] (fun t31 wq => ∃ j : Nat, j ≤ P.length ∧ t31 = .int .i64 j ∧ ∃ (Bg1 O1 : List ByteArray) (A1 : Option Addr) (c1 : Nat), Hid (Vs (prt b) (P.take j) (n :: Bg, O) (Bg1, O1) ∧ Beg b V Bg1 O1) ∧ WkV wq B base g mb md m n0 b Bg1 O1 A1 c1 ∧ Strs wq wq.heap.size Ap P ∧ (∀ i, blkOf Ap = some i → base ≤ i ∧ i < wq.heap.size ∧ some i ≠ blkOf A1) ∧ ErrAt wq ev ∧ Hid (Same A A1 w) ∧ Fr2 B g mb md A w wq) (fun t31 _ => P.length - (intOf t31).toNat)
    case atStart => exact ⟨0, Nat.zero_le _, rfl, n :: Bg, O, A, c, HBeg, W2, hS2, hAp, hE2, Lib.hid (Same.refl _), hb3⟩
    case round =>
     obtain ⟨j, hj, rfl, Bg1, O1, A1, c1, HV1, W3, hS3, hAp3, hE3, HS3, hb4⟩ := hrel
     clear W2 hS2 hb3 hAp HBeg hE2
     by_cases hlt : j < P.length
     ·obtain ⟨ad, hade, hab, hcell⟩ := hS3.get hlt
      subst hade
      obtain ⟨x, hx⟩ : ∃ x, x = P[j] := ⟨_, rfl⟩
      have HX := Lib.hid hx
      have hxP : x ∈ P := hx ▸ List.getElem_mem hlt
      have hxs := (HPs.out x hxP).1
      have hxV := (HPs.out x hxP).2
      have hxn : x ∈ prt b n := HP.out ▸ hxP
      rw [← hx] at hcell
      have kp := HV1.out.1.keep
      have hst2 : ∀ y ∈ Bg1, y ∉ O1 → Rch (prt b) y x := fun y hy hn' => by
       obtain ⟨k1, k2⟩ := kp.opn y hy hn'
       rcases List.mem_cons.1 k1 with e | k1
       ·subst e; exact .one hxn
       ·exact (HST.out y k1 k2).snoc hxn
      have hlen2 : Bg.length + 1 ≤ Bg1.length := nodup_le (n :: Bg) Bg1 (List.nodup_cons.2 ⟨HB.out, HBg.out.nd⟩) kp.grow
      have hfew2 : Bg1.length ≤ V.length := nodup_le Bg1 V HV1.out.2.nd HV1.out.2.sub
      have hk2 : V.length - Bg1.length < k := by have := HK.out; omega
      have hIH := visit_any b V HV.out B base g mb md m n0 ev k wr c1 Bg1 O1 A1 x W3 hE3 hxs hxV HV1.out.2 hst2 hk2
      have HIH := Lib.hid hIH
      have hz4 : B ≤ wr.heap.size := by have := W3.h4; omega
      have HXN := Lib.hid hxn
      clear hIH hst2 hlen2 hfew2 hk2 hxV hxn hxP kp hx
      go_wp2_with (go_at_call 159; refine HIH.out.mono ?_; rintro e w4 (⟨rfl, ⟨Bg2, O2, A2, c2, hV2, W4, hS4⟩, hb5⟩ | ⟨rfl, hcy, hb5⟩))
      ·have hz5 := hb5.low.size
       have hAd := hAp3 ad.block rfl
       have hh : w4.heap[ad.block]? = wr.heap[ad.block]? := hb5.far _ hAd.2.1 (by omega) (by omega) (by omega) hAd.2.2
       have hS5 : Strs w4 w4.heap.size (some ad) P := fun q y hy => by
        obtain ⟨ad2, e2, hl2, hc2⟩ := hS3 q y hy
        injection e2 with e2
        subst e2
        exact ⟨ad, rfl, Nat.lt_of_lt_of_le hl2 hz5, (World.cell?_of_block (a := ad.add q) (by rw [addr_block]; exact hh)).trans hc2⟩
       have hAp5 : ∀ i, blkOf (some ad) = some i → base ≤ i ∧ i < w4.heap.size ∧ some i ≠ blkOf A2 := fun i e => by
        obtain ⟨z1, z2, z3⟩ := hAp3 i e
        refine ⟨z1, by omega, fun e2 => ?_⟩
        rcases hS4 with k1 | k1
        ·exact z3 (e2.trans k1)
        ·have := k1 i e2.symm; omega
       have hV3 : Vs (prt b) (P.take (j + 1)) (n :: Bg, O) (Bg2, O2) := by
        rw [List.take_succ_eq_append_getElem hlt, ← HX.out]
        exact HV1.out.1.append hV2.1
       go_roundw
       case rel => exact ⟨j + 1, by omega, by go_num, Bg2, O2, A2, c2, Lib.hid ⟨hV3, hV2.2⟩, W4, hS5, hAp5, hE3.fr s2 hb5.low, Lib.hid (HS3.out.trans hb4.low.size hS4), hb4.trans HS3.out hb5⟩
       case measure => simp [intOf]; omega
      ·obtain ⟨y, hy1, hy2⟩ := hcy
       have hy3 : y = n ∨ Rch (prt b) n y := .inr (by
        rcases hy1 with e | hy1
        ·subst e; exact .one HXN.out
        ·exact .more HXN.out hy1)
       exact ⟨rfl, .inr ⟨rfl, ⟨y, hy3, hy2⟩, hb4.trans HS3.out hb5⟩⟩
     ·obtain rfl : j = P.length := by omega
      have hh5 := W3.h4
      obtain ⟨e0, e1, e2, e3⟩ := W3.blk.four
      have hV4 : Vs (prt b) [n] (Bg, O) (Bg1, O1 ++ [n]) := .new HO.out HB.out (by have := HV1.out.1; rw [List.take_length] at this; rw [← HP.out]; exact this) (.nil _)
      have hnB1 : n ∈ Bg1 := HV1.out.1.keep.grow n (by simp)
      have hB4 : Beg b V Bg1 (O1 ++ [n]) := ⟨HV1.out.2.nd, HV1.out.2.sub, fun y hy => by
       rcases List.mem_append.1 hy with hy | hy
       ·exact HV1.out.2.ord y hy
       ·rw [List.mem_singleton.1 hy]; exact hnB1, nodup_snoc HV1.out.2.ndO fun hy => (HV1.out.1.keep.fresh n hy).elim HO.out fun k => k (by simp)⟩
      have hOl : O1.length ≤ 1000 := by
       have := nodup_le O1 V HV1.out.2.ndO fun y hy => HV1.out.2.sub y (HV1.out.2.ord y hy)
       have := HV.out.few
       omega
      have HV4 := Lib.hid hV4
      have HB4 := Lib.hid hB4
      clear hV4 hB4 hnB1
      go_wp2_with (first
       | (refine wpl_put rfl (.tmp 42) (.tmp 43) (.const (.bool true)) 162 4 rfl Tryz.underlying162 W3.done (by unfold maxLen; omega) n hn (.bool true) rfl rfl rfl ?_; intro w5 hM5 hg5 hz5; clear hz5; have W5 := W3.finish _ _ (hM5.congr (setF_snoc O1 n)) hg5; obtain ⟨f0, f1, f2, f3⟩ := W5.blk.four; have W6 := W5.moved (below_new w5 (.cells #[.string n] 9)))
       | (refine wpl_appS rfl (.tmp 48) (.tmp 50) rfl base (.slice A1 O1.length c1) O1 n rfl W6.own w5.heap.size rfl ((Blk.new w5 9 #[.string n]).cell 0) (by omega) W6.h4 ?_; intro g7 c7 w7 ho7 hg7 hat7; have W8 := W6.append ho7 hg7; have hgl := W8.blk.lt; have B7 := W6.blk.grown hg7 (fun e => by have := (W6.own.lt _ e.symm).1; have := W6.h2; omega); obtain ⟨y0, y1, y2, y3⟩ := B7.four; have z3 := B7.frozen 3))
      have hb5 : Fr2 B g mb md A w w5 := hb4.grown hg5 (by omega) (fun i e => by injection e with e; omega)
      have hA1 : ∀ i, blkOf A1 = some i → some i = blkOf A ∨ w.heap.size ≤ i := fun i e => HS3.out.elim (fun k => .inl (e.symm.trans k)) fun k => .inr (k i e)
      have hb7 := (hb5.below (below_new w5 (.cells #[.string n] 9)) (by have := W5.h4; omega)).grown hg7 (by have := W6.h4; omega) (fun i e => by
       have h1 := (W6.own.lt i e).1
       rw [blkOf_own] at e
       rcases hA1 i e with k1 | k1
       ·exact ⟨by omega, .inr (.inr (.inr (.inl k1)))⟩
       ·exact ⟨by omega, .inr (.inr (.inr (.inr k1)))⟩)
      have hS7 : Same A (some ⟨g7, 0, none⟩) w := by
       have hz6 := (hb5.below (below_new w5 (.cells #[.string n] 9)) (by have := W5.h4; omega)).low.size
       rcases hat7 with k1 | k1
       ·rw [blkOf_own] at k1
        rcases HS3.out with k2 | k2
        ·exact .inl (k1.trans k2)
        ·exact .inr fun i e => k2 i (k1.symm.trans e)
       ·refine .inr fun i e => ?_
        injection e with e
        subst e
        show w.heap.size ≤ g7
        omega
      rw [show (O1 ++ [n]).length = O1.length + 1 by simp] at W8
      go_end0
      exact .inl ⟨rfl, ⟨Bg1, O1 ++ [n], _, c7, ⟨HV4.out, HB4.out⟩, by unfold WkV; rw [show (O1 ++ [n]).length = O1.length + 1 by simp]; exact W8, hS7⟩, hb7.set q1 _ _⟩
end Go.Proofs.YtbhiphjifdnhmaaGreatDoor
namespace Go.Proofs.YtbhiphjifdnhmaaGreatDoor
open Go.RowKit Go.Maps
theorem assert_err (ev : Value) (w : World) : (Instr.typeAssert (.iface 212 ev) 20 173 true).run Tryz.prog w = .ok (.tuple #[.iface 212 ev, .bool true]) w := by kernel_rfl
set_option maxRecDepth 100000 in
set_option maxHeartbeats 1000000 in
theorem caught_err (p : Addr) (ev : Value) (w : World) (hp : ∃ u, w.cell? p = some u) (hf : w.frozen? p = false) : CallsD Tryz.prog 158 #[.pointer (some p)] (.panicking [{ v := .iface 212 ev, recovered := false }]) w fun e u' w' => e = .returned (.tuple #[]) ∧ u' = .panicking [{ v := .iface 212 ev, recovered := true }] ∧ w' = w.setCell p (.iface 212 ev) := by
 obtain ⟨u, hp⟩ := hp
 refine callsD_of_wpS Tryz.func158 rfl fun c₀ cs hu => ?_
 apply wpS_seq
 apply wpS_region
 simp [wpOpsS, go_sem, recoverD, hu, Tryz.ntmps158, Exit.thenS, assert_err]
 apply wpS_seq
 apply wpS_region
 simp [wpOpsS, go_sem, Exit.thenS, Array.replicate]
 refine wpS_cond (t := true) (by simp [Act.eval, Array.replicate]) ?_
 simp only [if_true]
 apply wpS_region
 simp [wpOpsS, go_sem, Exit.thenS, hp, hf]
 cases c₀
 simp_all [bodyPostS, results, Tryz.results158]
set_option maxRecDepth 100000 in
set_option maxHeartbeats 1000000 in
theorem run_all (g : Nat) (n : ByteArray) (ev : Value) (w : World) (P1 P2 : World → Prop)
  (hv : Calls Tryz.prog 159 #[.pointer (some ⟨g, 0, none⟩), .string n] (w.alloc (.cells #[.nilIface] 173)) fun e w' => (e = .returned (.tuple #[]) ∧ P1 w' ∧ Blk w' w.heap.size 173 #[.nilIface]) ∨ (e = .panicked [{ v := .iface 212 ev, recovered := false }] ∧ P2 w' ∧ Blk w' w.heap.size 173 #[.nilIface])) :
  Calls Tryz.prog 141 #[.pointer (some ⟨g, 0, none⟩), .string n] w fun e w' => (e = .returned .nilIface ∧ ∃ w1, P1 w1 ∧ w' = w1.setCell ⟨w.heap.size, 0, none⟩ .nilIface) ∨ (e = .returned (.iface 212 ev) ∧ ∃ w1, P2 w1 ∧ w' = w1.setCell ⟨w.heap.size, 0, none⟩ (.iface 212 ev)) := by
 have hmf : ∀ (fn : Fn) (first cap : Array Value) (w : World), (Instr.makeFunc fn first cap).run Tryz.prog w = .ok (.func fn first cap) w := fun _ _ _ _ => rfl
 have HV := Lib.hid hv
 clear hv
 go_enter_defers Tryz.func141, Tryz.ntmps141
 go_wp2_with (go_at_call 159; refine HV.out.mono ?_; rintro e w1 (⟨rfl, hP, hB⟩ | ⟨rfl, hP, hB⟩) <;> (have c0 := hB.cell 0; have z0 := hB.frozen 0))
 ·have hB2 : Blk (w1.setCell ⟨w.heap.size, 0, none⟩ .nilIface) w.heap.size 173 #[.nilIface] := hB.store 0 _
  have c2 : (w1.setCell ⟨w.heap.size, 0, none⟩ .nilIface).cell? ⟨w.heap.size, 0, none⟩ = some .nilIface := hB2.cell 0
  refine leaves_cons (f := 158) (args := #[.pointer (some ⟨w.heap.size, 0, none⟩)]) (by simp) (by simp [go_sem]) ?_
  refine (caught_idle ⟨w.heap.size, 0, none⟩ _).mono ?_
  rintro e u' w'' ⟨rfl, rfl, rfl⟩
  simp [Leaves, settle, results, Tryz.results141, go_sem, c2]
  exact ⟨w1, hP, rfl⟩
 ·have hB2 : Blk (w1.setCell ⟨w.heap.size, 0, none⟩ (.iface 212 ev)) w.heap.size 173 #[.iface 212 ev] := hB.store 0 _
  have c2 : (w1.setCell ⟨w.heap.size, 0, none⟩ (.iface 212 ev)).cell? ⟨w.heap.size, 0, none⟩ = some (.iface 212 ev) := hB2.cell 0
  refine leaves_cons (f := 158) (args := #[.pointer (some ⟨w.heap.size, 0, none⟩)]) (by simp) (by simp [go_sem]) ?_
  refine (caught_err ⟨w.heap.size, 0, none⟩ ev _ ⟨_, c0⟩ z0).mono ?_
  rintro e u' w'' ⟨rfl, rfl, rfl⟩
  simp [Leaves, settle, results, Tryz.results141, go_sem, c2]
  exact ⟨w1, hP, rfl⟩
/-- an order, or that a name rests on itself -/
def RetOrder (b : List UInt8 → Option Df) (V : List ByteArray) (n : ByteArray) (w : World) (e : Ending) (w' : World) : Prop :=
 (∃ Bg O, (Vs (prt b) [n] ([], []) (Bg, O) ∧ Beg b V Bg O) ∧ RetStrsE w O e w') ∨
 ((∃ y, (y = n ∨ Rch (prt b) n y) ∧ Rch (prt b) y y) ∧ e = .returned (.tuple #[.slice none 0 0, .int .i64 4]) ∧ Below w.heap.size w w')
set_option maxRecDepth 100000 in
set_option maxHeartbeats 2000000 in
theorem order_all (b : List UInt8 → Option Df) (V : List ByteArray) (hb : BookOk b V) (m n0 : Nat) (n : ByteArray) (hn : n.size ≤ maxLen) (hnV : n ∈ V) (ev : Value) (w : World) (hm : MapIs w Tryz.prog 9 m n0 (bookV b)) (hE : ErrAt w ev) (hw0 : 0 < w.heap.size) :
  Calls Tryz.prog 127 #[.map (some m), .string n] w (RetOrder b V n w) := by
 have hmf : ∀ (fn : Fn) (first cap : Array Value) (w : World), (Instr.makeFunc fn first cap).run Tryz.prog w = .ok (.func fn first cap) w := fun _ _ _ _ => rfl
 have hmm := @run_makeMap Tryz.prog
 have hml := hm.lt
 obtain ⟨W3, hW3⟩ : ∃ W3, W3 = ((w.alloc (.map #[] 0)).alloc (.map #[] 0)).alloc (.cells #[.func (.func 129) #[.map (some m)] #[], .map (some w.heap.size), .map (some (w.heap.size + 1)), .slice none 0 0] 171) := ⟨_, rfl⟩
 have hz3 : W3.heap.size = w.heap.size + 3 := by rw [hW3]; simp
 have hb3 : Below w.heap.size w W3 := by rw [hW3]; exact ((below_new _ _).alloc (by simp) _).alloc (by simp; omega) _
 have k3 : Blk W3 (w.heap.size + 2) 171 #[.func (.func 129) #[.map (some m)] #[], .map (some w.heap.size), .map (some (w.heap.size + 1)), .slice none 0 0] := by rw [hW3]; exact Blk.newAt (by simp)
 have m1 : MapIs W3 Tryz.prog 9 w.heap.size 0 (setF []) := by rw [hW3]; exact ((MapIs.made w Tryz.prog 9).alloc _).alloc _
 have m2 : MapIs W3 Tryz.prog 9 (w.heap.size + 1) 0 (setF []) := by
  have := (MapIs.made (w.alloc (.map #[] 0)) Tryz.prog 9).alloc (.cells #[.func (.func 129) #[.map (some m)] #[], .map (some w.heap.size), .map (some (w.heap.size + 1)), .slice none 0 0] 171)
  have h0 : setF [] = fun _ => none := rfl
  rw [hW3, h0]; simpa using this
 have m3 : MapIs W3 Tryz.prog 9 m n0 (bookV b) := hm.below hb3 hml
 have hbn := below_new W3 (.cells #[.nilIface] 173)
 have S4 : WkV (W3.alloc (.cells #[.nilIface] 173)) w.heap.size (w.heap.size + 4) (w.heap.size + 2) w.heap.size (w.heap.size + 1) m n0 b [] [] none 0 :=
  ⟨k3.alloc _, own_none _ _ 9, m1.alloc _, m2.alloc _, m3.alloc _, by omega, by omega, by omega, by simp; omega⟩
 have kE : Blk (W3.alloc (.cells #[.nilIface] 173)) W3.heap.size 173 #[.nilIface] := Blk.new _ _ _
 have hE4 : ErrAt (W3.alloc (.cells #[.nilIface] 173)) ev := hE.fr (m := 0) hw0 (hb3.alloc (by omega) _)
 have hv := visit_any b V hb w.heap.size (w.heap.size + 4) (w.heap.size + 2) w.heap.size (w.heap.size + 1) m n0 ev (V.length + 1) _ 0 [] [] none n S4 hE4 hn hnV ⟨List.nodup_nil, fun y h => by simp at h, fun y h => by simp at h, List.nodup_nil⟩ (fun y h => by simp at h) (by simp)
 have hR := run_all (w.heap.size + 2) n ev W3 (fun w1 => (∃ Bg O A c, (Vs (prt b) [n] ([], []) (Bg, O) ∧ Beg b V Bg O) ∧ WkV w1 w.heap.size (w.heap.size + 4) (w.heap.size + 2) w.heap.size (w.heap.size + 1) m n0 b Bg O A c) ∧ Below w.heap.size w w1) (fun w1 => (∃ y, (y = n ∨ Rch (prt b) n y) ∧ Rch (prt b) y y) ∧ Below w.heap.size w w1) (hv.mono (by
  rintro e w1 (⟨rfl, ⟨Bg, O, A, c, h1, h2, _⟩, hF⟩ | ⟨rfl, hc, hF⟩)
  ·exact .inl ⟨rfl, ⟨⟨Bg, O, A, c, h1, h2⟩, (hb3.alloc (by omega) _).trans hF.low⟩, (hF.far _ (by simp) (by omega) (by omega) (by omega) (by simp [blkOf])).trans kE⟩
  ·exact .inr ⟨rfl, ⟨hc, (hb3.alloc (by omega) _).trans hF.low⟩, (hF.far _ (by simp) (by omega) (by omega) (by omega) (by simp [blkOf])).trans kE⟩))
 clear hv kE S4 hbn m1 m2 m3 k3 hb3 hE4 hE hb hnV
 obtain ⟨E, hE⟩ : ∃ E, E = W3.heap.size := ⟨_, rfl⟩
 rw [← hE] at hR hz3
 rw [hW3] at hR
 clear hW3 hE
 have HR := Lib.hid hR
 have HZ := Lib.hid hz3
 clear hR hz3
 go_enter Tryz.func127, Tryz.ntmps127
 go_wp2_with (go_at_call 141; refine HR.out.mono ?_; rintro e w4 (⟨rfl, w1, ⟨⟨Bg, O, A, c, hV, hS⟩, hb1⟩, rfl⟩ | ⟨rfl, w1, ⟨hcy, hb1⟩, rfl⟩); (have S5 := hS.other E (by rw [HZ.out]; omega) (by rw [HZ.out]; omega) .nilIface; obtain ⟨e0, e1, e2, e3⟩ := S5.blk.four); (skip))
 ·go_ret2
  exact .inl ⟨Bg, O, hV, A, c, rfl, S5.own.mono (by omega), hb1.setCell (by show _ ≤ E; rw [HZ.out]; omega) _⟩
 ·go_ret2
  exact .inr ⟨hcy, rfl, hb1.setCell (by show _ ≤ E; rw [HZ.out]; omega) _⟩
end Go.Proofs.YtbhiphjifdnhmaaGreatDoor
namespace Go.Proofs.YtbhiphjifdnhmaaGreatDoor
open Go.RowKit Go.Maps
set_option maxRecDepth 100000 in
set_option maxHeartbeats 2000000 in
theorem meaning_at (b : List UInt8 → Option Df) (m n0 : Nat) (n : ByteArray) (wb : Bool) (L : List ByteArray) (w : World) (hm : MapIs w Tryz.prog 9 m n0 (bookV b)) (hn : n.size ≤ maxLen) (hLs : ∀ x ∈ L, x.size ≤ maxLen) (hlen : L.length ≤ 1000)
  (hbs : ∀ s, ((b s).getD df0).of.size ≤ maxLen ∧ ((b s).getD df0).wth.size ≤ maxLen)
  (hw : ∀ w1, Below w.heap.size w w1 → MapIs w1 Tryz.prog 9 m n0 (bookV b) → Calls Tryz.prog 126 #[.map (some m), .string n] w1 fun e w' => e = .returned (.bool wb) ∧ Below w1.heap.size w1 w')
  (hO : wb = true → ∀ w1, Below w.heap.size w w1 → MapIs w1 Tryz.prog 9 m n0 (bookV b) → Calls Tryz.prog 127 #[.map (some m), .string n] w1 (RetStrsE w1 L)) :
  Calls Tryz.prog 87 #[.map (some m), .string n] w fun e w' => e = .returned (.agg (mnA (meanR b wb L n) (meanE b wb L))) ∧ Below w.heap.size w w' := by
 have hml := hm.lt
 have hbE := run_buildE
 have hbV := run_buildV
 have hmm := @run_makeMap Tryz.prog
 have k0 : Blk (w.alloc (.cells #[.int .i64 0, .int .i64 0, .int .i64 0, .int .i64 0, .int .i64 0, .int .i64 0, .int .i64 0, .int .i64 0, .int .i64 0, .int .i64 0, .int .i64 0, .int .i64 0, .int .i64 0, .int .i64 0, .int .i64 0, .int .i64 0, .int .i64 0, .int .i64 0, .int .i64 0, .int .i64 0, .int .i64 0, .int .i64 0, .int .i64 0, .int .i64 0, .int .i64 0] 128)) w.heap.size 128 (mnA zeroV 0) := by rw [zmn]; exact Blk.new _ _ _
 have hb0 := below_new w (.cells #[.int .i64 0, .int .i64 0, .int .i64 0, .int .i64 0, .int .i64 0, .int .i64 0, .int .i64 0, .int .i64 0, .int .i64 0, .int .i64 0, .int .i64 0, .int .i64 0, .int .i64 0, .int .i64 0, .int .i64 0, .int .i64 0, .int .i64 0, .int .i64 0, .int .i64 0, .int .i64 0, .int .i64 0, .int .i64 0, .int .i64 0, .int .i64 0, .int .i64 0] 128)
 have hm0 := hm.below hb0 hml
 cases wb
 ·have hW := hw _ hb0 hm0
  have HW := Lib.hid hW
  clear hW hw hO
  go_enter Tryz.func87, Tryz.ntmps87
  go_wp2_with (first
   | (go_at_call 126; refine HW.out.mono ?_; rintro e w1 ⟨rfl, hb1⟩; have k1 := k0.below hb1 (by simp))
   | (refine stM 4 16 rfl rfl k1 rfl (v := zeroV) (e := 5) (by kernel_rfl) ?_))
  exact bodyPost_ret (results_cell_row rfl _ _ w.heap.size 128 (mnA zeroV 5) (0, 0) _ rfl (k1.setRow _) Tryz.underlying128 rfl (info128 _ _)) rfl ⟨rfl, below_setRow (below_next hb0 (by simp) hb1) (Nat.le_refl _) _⟩
 ·have hW := hw _ hb0 hm0
  have HW := Lib.hid hW
  have HO := Lib.hid (hO rfl)
  clear hW hw hO
  obtain ⟨R0, hR0⟩ : ∃ R0, R0 = runM b L fun _ => none := ⟨_, rfl⟩
  have e1 : meanE b true L = R0.1 := by rw [hR0]; rfl
  have e2 : meanR b true L n = if R0.1 = 0 then getV R0.2 n else zeroV := by unfold meanR; rw [e1, hR0]
  rw [e1, e2]
  have hr0 : Hid (R0 = runM b (L.drop 0) fun _ => none) := hR0
  obtain ⟨RE, hRE⟩ : ∃ RE, RE = R0.1 := ⟨_, rfl⟩
  obtain ⟨RV, hRV⟩ : ∃ RV, RV = if R0.1 = 0 then getV R0.2 n else zeroV := ⟨_, rfl⟩
  rw [← hRV, ← hRE]
  have HRE := Lib.hid hRE
  have HRV := Lib.hid hRV
  clear e1 e2 hR0 hRE hRV
  have hml2 := hm0.lt
  go_enter Tryz.func87, Tryz.ntmps87
  go_wp2_with (first
   | (go_at_call 126; refine HW.out.mono ?_; rintro e w1 ⟨rfl, hb1⟩; have k1 := k0.below hb1 (by simp); have hm1 := hm0.below hb1 hml2)
   | (go_at_call 127; refine (HO.out _ (below_next hb0 (by simp) hb1) hm1).mono ?_; rintro e w2 ⟨A, c, rfl, ho2, hb2⟩))
  have hS2 : Strs w2 w2.heap.size A L := Strs.of_own ho2
  have hm2 := hm1.below hb2 (hm1.lt)
  have k2 := k1.below hb2 k1.lt
  have hbw2 : Below w.heap.size w w2 := below_next (below_next hb0 (by simp) hb1) (by have := hb1.size; simp at this; omega) hb2
  have hmv : MapIs (w2.alloc (.map #[] 0)) Tryz.prog 9 w2.heap.size 0 (mvV fun _ => none) := MapIs.made w2 Tryz.prog 9
  have hbm := below_new w2 (.map #[] 0)
  have k2l := k2.lt
  have hm2l := hm2.lt
  clear ho2 hb1 hb2 hm1 k1 hb0 hm0 k0 HW HO
  go_loopw [30] (fun t30 wq => ∃ (k kk : Nat) (mv : List UInt8 → Option (Nat → Int)), k ≤ L.length ∧ t30 = .int .i64 k ∧ kk ≤ k ∧ MapIs wq Tryz.prog 9 w2.heap.size kk (mvV mv) ∧ Hid (R0 = runM b (L.drop k) mv) ∧ Below w2.heap.size w2 wq) (fun t30 _ => L.length - (intOf t30).toNat)
  case atStart => exact ⟨0, 0, _, by omega, rfl, Nat.le_refl _, hmv, hr0, hbm⟩
  case round =>
   obtain ⟨k, kk, mv, hk, rfl, hkk, hM, hR, hb3⟩ := hrel
   clear hmv hbm hr0
   have hMl := hM.lt
   have k3 := k2.below hb3 k2l
   have hm3 := hm2.below hb3 hm2l
   by_cases hlt : k < L.length
   ·obtain ⟨ad, rfl, hab, hcell⟩ := hS2.get hlt
    obtain ⟨x, hx⟩ : ∃ x, x = L[k] := ⟨_, rfl⟩
    have hxs : x.size ≤ maxLen := hLs x (hx ▸ List.getElem_mem hlt)
    rw [← hx] at hcell
    obtain ⟨d, hd⟩ : ∃ d, d = (b x.data.toList).getD df0 := ⟨_, rfl⟩
    have hds := hbs x.data.toList
    have hdr : runM b (L.drop k) mv = if madeE d mv ≠ 0 then (madeE d mv, mv) else runM b (L.drop (k + 1)) (fun s => if s = x.data.toList then some (madeR d mv) else mv s) := by
     rw [List.drop_eq_getElem_cons hlt, ← hx, hd]; rfl
    have hlk := hm3.look keyT Tryz.underlying130 (zero60 wr) (key_any x hxs)
    rw [bookV_get, ← hd] at hlk
    rw [← hd] at hds
    have hcell3 : wr.cell? (ad.add k) = some (.string x) := (hb3.cell (by rw [addr_block]; exact hab)).trans hcell
    obtain ⟨E, hE⟩ : ∃ E, E = madeE d mv := ⟨_, rfl⟩
    obtain ⟨V, hV⟩ : ∃ V, V = madeR d mv := ⟨_, rfl⟩
    have hMA := made_any d mv w2.heap.size kk wr hM hds.1 hds.2
    rw [← hE, ← hV] at hMA hdr
    have HM := Lib.hid hMA
    have HD := Lib.hid hdr
    clear hMA hdr hE hV hd hx hcell
    have kN : ∀ W : World, Blk (W.alloc (.cells #[.int .i64 0, .int .i64 0, .int .i64 0, .int .i64 0, .int .i64 0, .int .i64 0, .int .i64 0, .int .i64 0, .int .i64 0, .int .i64 0, .int .i64 0, .int .i64 0, .int .i64 0, .int .i64 0, .int .i64 0, .int .i64 0, .int .i64 0, .int .i64 0, .int .i64 0, .int .i64 0, .int .i64 0, .int .i64 0, .int .i64 0, .int .i64 0] 26)) W.heap.size 26 (va zeroV) := fun W => by rw [z24]; exact Blk.new _ _ _
    have k3l := k3.lt
    by_cases hE0 : E = 0
    ·have hDD : runM b (L.drop k) mv = runM b (L.drop (k + 1)) (fun s => if s = x.data.toList then some V else mv s) := by rw [HD.out, if_neg (by simp [hE0])]
     have HDD := Lib.hid hDD
     clear hDD
     subst hE0
     go_wp2_with (first
      | (go_at_call 128; refine HM.out.mono ?_; rintro e w3 ⟨rfl, hb4⟩; have hM4 := hM.below hb4 hMl; have kN3 := kN w3; have hMl3 := hM4.lt; have hM5 := hM4.below (below_setRow (below_new w3 (.cells #[.int .i64 0, .int .i64 0, .int .i64 0, .int .i64 0, .int .i64 0, .int .i64 0, .int .i64 0, .int .i64 0, .int .i64 0, .int .i64 0, .int .i64 0, .int .i64 0, .int .i64 0, .int .i64 0, .int .i64 0, .int .i64 0, .int .i64 0, .int .i64 0, .int .i64 0, .int .i64 0, .int .i64 0, .int .i64 0, .int .i64 0, .int .i64 0] 26)) (Nat.le_refl _) (va V)) hM4.lt)
      | (refine stV 10 40 rfl rfl kN3 rfl rfl ?_)
      | (refine ldV 10 rfl rfl (kN3.setRow _) rfl ?_)
      | (refine wpl_put rfl (.tmp 46) (.tmp 47) (.tmp 48) 160 26 rfl Tryz.underlying160 hM5 (by unfold maxLen; omega) x hxs (.agg (va V)) rfl rfl rfl ?_; intro w5 hM6 hg6 hz6; clear hz6))
     have hb5 := (below_setRow ((below_next hb3 hb3.size hb4).alloc (by have := hb4.size; omega) (.cells #[.int .i64 0, .int .i64 0, .int .i64 0, .int .i64 0, .int .i64 0, .int .i64 0, .int .i64 0, .int .i64 0, .int .i64 0, .int .i64 0, .int .i64 0, .int .i64 0, .int .i64 0, .int .i64 0, .int .i64 0, .int .i64 0, .int .i64 0, .int .i64 0, .int .i64 0, .int .i64 0, .int .i64 0, .int .i64 0, .int .i64 0, .int .i64 0] 26)) (by have := hb4.size; omega) (va V)).grown hg6 (by have := hb4.size; simp; omega) (fun i e => by injection e with e; omega)
     go_roundw
     case rel => exact ⟨k + 1, kk + 1, _, by omega, by go_num, by omega, hM6.congr fun s => by unfold mvV; by_cases e : s = x.data.toList <;> simp [e], (hR.out.trans HDD.out : Hid _), hb5⟩
     case measure => simp [intOf]; omega
    ·have hE1 : (E == 0) = false := by simp [hE0]
     have hDD : runM b (L.drop k) mv = (E, mv) := by rw [HD.out, if_pos hE0]
     have HDD := Lib.hid hDD
     clear hDD
     go_wp2_with (first
      | (go_at_call 128; refine HM.out.mono ?_; rintro e w3 ⟨rfl, hb4⟩; have k4 := k3.below hb4 k3l; have kN3 := kN w3; have k5 := ((k4.alloc (.cells #[.int .i64 0, .int .i64 0, .int .i64 0, .int .i64 0, .int .i64 0, .int .i64 0, .int .i64 0, .int .i64 0, .int .i64 0, .int .i64 0, .int .i64 0, .int .i64 0, .int .i64 0, .int .i64 0, .int .i64 0, .int .i64 0, .int .i64 0, .int .i64 0, .int .i64 0, .int .i64 0, .int .i64 0, .int .i64 0, .int .i64 0, .int .i64 0] 26)).farRow (g' := w3.heap.size) (by have := k4.lt; omega) (va V)))
      | (refine stV 10 40 rfl rfl kN3 rfl rfl ?_)
      | (refine stM 4 45 rfl rfl k5 rfl (v := zeroV) (e := E) (by kernel_rfl) ?_))
     simp only [Act.put]
     exact bodyPost_ret (results_cell_row rfl _ _ w.heap.size 128 (mnA zeroV E) (0, 0) _ rfl (k5.setRow _) Tryz.underlying128 rfl (info128 _ _)) rfl ⟨by rw [HRE.out, HRV.out, hR.out, HDD.out]; simp [hE0], below_setRow (below_setRow ((below_next hbw2 hbw2.size (below_next hb3 hb3.size hb4)).alloc (by have := hb4.size; omega) _) (by have := hb4.size; omega) _) (Nat.le_refl _) _⟩
   ·obtain rfl : k = L.length := by omega
    have hRL : R0 = (0, mv) := by rw [hR.out, List.drop_length]; rfl
    have HRL := Lib.hid hRL
    clear hRL
    have hlk := hM.look keyT Tryz.underlying160 (zero26 wr) (key_any n hn)
    rw [mvV_get] at hlk
    obtain ⟨X, hX⟩ : ∃ X, X = getV mv n := ⟨_, rfl⟩
    rw [show (mv n.data.toList).getD zeroV = X from hX.symm] at hlk
    have HX := Lib.hid hX
    clear hX
    clear hbE hbV
    go_wp2_with (first
     | (refine wpl_buildV rfl (.tmp 52) rfl X rfl ?_)
     | (refine stM 4 53 rfl rfl k3 rfl (v := X) (e := 0) rfl ?_))
    first
     | simp only [Act.put]
     | skip
    exact bodyPost_ret (results_cell_row rfl _ _ w.heap.size 128 (mnA X 0) (0, 0) _ rfl (k3.setRow _) Tryz.underlying128 rfl (info128 _ _)) rfl ⟨by rw [HRE.out, HRV.out, HRL.out, HX.out]; simp, below_setRow (below_next hbw2 hbw2.size hb3) (Nat.le_refl _) _⟩
set_option maxRecDepth 100000 in
set_option maxHeartbeats 2000000 in
/-- a name that rests on itself -/
theorem meaning_ring (b : List UInt8 → Option Df) (m n0 : Nat) (n : ByteArray) (w : World) (hm : MapIs w Tryz.prog 9 m n0 (bookV b))
  (hw : ∀ w1, Below w.heap.size w w1 → MapIs w1 Tryz.prog 9 m n0 (bookV b) → Calls Tryz.prog 126 #[.map (some m), .string n] w1 fun e w' => e = .returned (.bool true) ∧ Below w1.heap.size w1 w')
  (hO : ∀ w1, Below w.heap.size w w1 → MapIs w1 Tryz.prog 9 m n0 (bookV b) → Calls Tryz.prog 127 #[.map (some m), .string n] w1 fun e w' => e = .returned (.tuple #[.slice none 0 0, .int .i64 4]) ∧ Below w1.heap.size w1 w') :
  Calls Tryz.prog 87 #[.map (some m), .string n] w fun e w' => e = .returned (.agg (mnA zeroV 4)) ∧ Below w.heap.size w w' := by
 have hml := hm.lt
 have hbE := run_buildE
 have k0 : Blk (w.alloc (.cells #[.int .i64 0, .int .i64 0, .int .i64 0, .int .i64 0, .int .i64 0, .int .i64 0, .int .i64 0, .int .i64 0, .int .i64 0, .int .i64 0, .int .i64 0, .int .i64 0, .int .i64 0, .int .i64 0, .int .i64 0, .int .i64 0, .int .i64 0, .int .i64 0, .int .i64 0, .int .i64 0, .int .i64 0, .int .i64 0, .int .i64 0, .int .i64 0, .int .i64 0] 128)) w.heap.size 128 (mnA zeroV 0) := by rw [zmn]; exact Blk.new _ _ _
 have hb0 := below_new w (.cells #[.int .i64 0, .int .i64 0, .int .i64 0, .int .i64 0, .int .i64 0, .int .i64 0, .int .i64 0, .int .i64 0, .int .i64 0, .int .i64 0, .int .i64 0, .int .i64 0, .int .i64 0, .int .i64 0, .int .i64 0, .int .i64 0, .int .i64 0, .int .i64 0, .int .i64 0, .int .i64 0, .int .i64 0, .int .i64 0, .int .i64 0, .int .i64 0, .int .i64 0] 128)
 have hm0 := hm.below hb0 hml
 have HW := Lib.hid (hw _ hb0 hm0)
 have HO := Lib.hid hO
 clear hw hO
 go_enter Tryz.func87, Tryz.ntmps87
 go_wp2_with (first
  | (go_at_call 126; refine HW.out.mono ?_; rintro e w1 ⟨rfl, hb1⟩; have k1 := k0.below hb1 (by simp); have hm1 := hm0.below hb1 (by simp; omega))
  | (go_at_call 127; refine (HO.out _ (below_next hb0 (by simp) hb1) hm1).mono ?_; rintro e w2 ⟨rfl, hb2⟩; have k2 := k1.below hb2 k1.lt)
  | (refine stM 4 26 rfl rfl k2 rfl (v := zeroV) (e := 4) (by kernel_rfl) ?_))
 exact bodyPost_ret (results_cell_row rfl _ _ w.heap.size 128 (mnA zeroV 4) (0, 0) _ rfl (k2.setRow _) Tryz.underlying128 rfl (info128 _ _)) rfl ⟨rfl, below_setRow (below_next (below_next hb0 (by simp) hb1) (by have := hb1.size; simp at this; omega) hb2) (Nat.le_refl _) _⟩
end Go.Proofs.YtbhiphjifdnhmaaGreatDoor
namespace Go.Proofs.YtbhiphjifdnhmaaGreatDoor
open Go.RowKit Go.Maps
theorem Vs.det {α : Type} {p : α → List α} {xs : List α} {s t : List α × List α} (h : Vs p xs s t) : ∀ t', Vs p xs s t' → t = t' := by
 induction h with
 | nil s => intro t' k; cases k; rfl
 | @old x xs B O t hx _ ih =>
  intro t' k
  cases k with
  | old _ k => exact ih _ k
  | new k1 _ _ _ => exact absurd hx k1
 | @new x xs B O B1 O1 t h1 h2 _ _ i1 i2 =>
  intro t' k
  cases k with
  | old k _ => exact absurd k h1
  | new _ _ k1 k2 =>
   have e := i1 _ k1
   injection e with e1 e2
   subst e1 e2
   exact i2 _ k2
theorem Topo.nodup {α : Type} {p : α → List α} {L : List α} (h : Topo p L) : L.Nodup := by
 induction h with
 | nil => exact List.nodup_nil
 | snoc _ hx _ ih => exact nodup_snoc ih hx
theorem rev_ind {α : Type} {P : List α → Prop} (h0 : P []) (h1 : ∀ l x, P l → P (l ++ [x])) (l : List α) : P l := by
 have : ∀ m : List α, P m.reverse := fun m => by
  induction m with
  | nil => exact h0
  | cons x m ih => rw [List.reverse_cons]; exact h1 _ _ ih
 simpa using this l.reverse
/-- a walk comes to its end, or something rests on itself -/
theorem vs_total {b : List UInt8 → Option Df} {V : List ByteArray} (hb : BookOk b V) : ∀ (k : Nat) (Bg O : List ByteArray) (n : ByteArray), n ∈ V → Beg b V Bg O → (∀ y ∈ Bg, y ∉ O → Rch (prt b) y n) → V.length - Bg.length < k →
  (∃ t, Vs (prt b) [n] (Bg, O) t ∧ Beg b V t.1 t.2) ∨ ∃ y, (y = n ∨ Rch (prt b) n y) ∧ Rch (prt b) y y
 | 0, _, _, _, _, _, _, hk => by omega
 | k + 1, Bg, O, n, hnV, hBg, hst, hk => by
  by_cases hO : n ∈ O
  ·exact .inl ⟨_, .old hO (.nil _), hBg⟩
  ·by_cases hB : n ∈ Bg
   ·exact .inr ⟨n, .inl rfl, hst n hB hO⟩
   ·have hlt : (n :: Bg).length ≤ V.length := nodup_le (n :: Bg) V (List.nodup_cons.2 ⟨hB, hBg.nd⟩) fun y hy => (List.mem_cons.1 hy).elim (fun e => e ▸ hnV) (hBg.sub y)
    simp only [List.length_cons] at hlt
    have key : ∀ xs : List ByteArray, (∀ x ∈ xs, x ∈ prt b n) → (∃ t, Vs (prt b) xs (n :: Bg, O) t ∧ Beg b V t.1 t.2) ∨ ∃ y, (y = n ∨ Rch (prt b) n y) ∧ Rch (prt b) y y := by
     intro xs
     induction xs using rev_ind with
     | h0 => exact fun _ => .inl ⟨_, .nil _, ⟨List.nodup_cons.2 ⟨hB, hBg.nd⟩, fun y hy => (List.mem_cons.1 hy).elim (fun e => e ▸ hnV) (hBg.sub y), fun y hy => List.mem_cons_of_mem _ (hBg.ord y hy), hBg.ndO⟩⟩
     | h1 xs x ih =>
      intro hx
      rcases ih (fun y hy => hx y (List.mem_append_left _ hy)) with ⟨⟨B1, O1⟩, h1, h2⟩ | h
      ·have kp := h1.keep
       have hxn := hx x (by simp)
       have hlen : Bg.length + 1 ≤ B1.length := nodup_le (n :: Bg) B1 (List.nodup_cons.2 ⟨hB, hBg.nd⟩) kp.grow
       have hfew : B1.length ≤ V.length := nodup_le B1 V h2.nd h2.sub
       rcases vs_total hb k B1 O1 x (hb.mem _ x hxn) h2 (fun y hy hn' => by
        obtain ⟨k1, k2⟩ := kp.opn y hy hn'
        rcases List.mem_cons.1 k1 with e | k1
        ·subst e; exact .one hxn
        ·exact (hst y k1 k2).snoc hxn) (by omega) with ⟨t, h3, h4⟩ | ⟨y, hy1, hy2⟩
       ·exact .inl ⟨t, h1.append h3, h4⟩
       ·refine .inr ⟨y, .inr ?_, hy2⟩
        rcases hy1 with e | hy1
        ·subst e; exact .one hxn
        ·exact .more hxn hy1
      ·exact .inr h
    rcases key (prt b n) (fun x hx => hx) with ⟨⟨B1, O1⟩, h1, h2⟩ | h
    ·refine .inl ⟨(B1, O1 ++ [n]), .new hO hB h1 (.nil _), ⟨h2.nd, h2.sub, fun y hy => ?_, nodup_snoc h2.ndO fun hy => (h1.keep.fresh n hy).elim hO fun k => k (by simp)⟩⟩
     rcases List.mem_append.1 hy with hy | hy
     ·exact h2.ord y hy
     ·rw [List.mem_singleton.1 hy]; exact h1.keep.grow n (by simp)
    ·exact .inr h
/-- a name, and all on which it rests -/
def Upon (b : List UInt8 → Option Df) (n x : ByteArray) : Prop := x = n ∨ Rch (prt b) n x
/-- what a name means -/
def MSpec (b : List UInt8 → Option Df) (n : ByteArray) (v : Nat → Int) (e : Int) : Prop :=
 ((∃ x, Upon b n x ∧ b x.data.toList = none) ∧ v = zeroV ∧ e = 5)
 ∨ ((∀ x, Upon b n x → b x.data.toList ≠ none) ∧ (∃ y, Upon b n y ∧ Rch (prt b) y y) ∧ v = zeroV ∧ e = 4)
 ∨ ((∀ x, Upon b n x → b x.data.toList ≠ none) ∧ (∀ y, Upon b n y → ¬ Rch (prt b) y y) ∧ ∃ K, ∀ N, K ≤ N → (mval b N n).2 = e ∧ (e = 0 → (mval b N n).1 = v) ∧ (e ≠ 0 → v = zeroV))
theorem MSpec.one {b : List UInt8 → Option Df} {n : ByteArray} {v v' : Nat → Int} {e e' : Int} (h : MSpec b n v e) (k : MSpec b n v' e') : v = v' ∧ e = e' := by
 rcases h with ⟨⟨x, h1, h2⟩, h3, h4⟩ | ⟨h1, ⟨y, h2, h3⟩, h4, h5⟩ | ⟨h1, h2, K, h3⟩
 ·rcases k with ⟨_, k3, k4⟩ | ⟨k1, _⟩ | ⟨k1, _⟩
  ·exact ⟨h3.trans k3.symm, h4.trans k4.symm⟩
  ·exact absurd h2 (k1 x h1)
  ·exact absurd h2 (k1 x h1)
 ·rcases k with ⟨⟨x, k1, k2⟩, _⟩ | ⟨_, _, k4, k5⟩ | ⟨_, k2, _⟩
  ·exact absurd k2 (h1 x k1)
  ·exact ⟨h4.trans k4.symm, h5.trans k5.symm⟩
  ·exact absurd h3 (k2 y h2)
 ·rcases k with ⟨⟨x, k1, k2⟩, _⟩ | ⟨_, ⟨y, k2, k3⟩, _⟩ | ⟨_, _, K', k3⟩
  ·exact absurd k2 (h1 x k1)
  ·exact absurd k3 (h2 y k2)
  ·obtain ⟨a1, a2, a3⟩ := h3 (max K K') (Nat.le_max_left _ _)
   obtain ⟨c1, c2, c3⟩ := k3 (max K K') (Nat.le_max_right _ _)
   have e1 : e = e' := a1.symm.trans c1
   subst e1
   refine ⟨?_, rfl⟩
   by_cases h0 : e = 0
   ·exact (a2 h0).symm.trans (c2 h0)
   ·exact (a3 h0).trans (c3 h0).symm
theorem whole_upon {b : List UInt8 → Option Df} {n : ByteArray} {R : List ByteArray} (hR : ∀ z, z ∈ R ↔ Rch (prt b) n z) : wholeB b (R ++ [n]) = true ↔ ∀ x, Upon b n x → b x.data.toList ≠ none := by
 unfold wholeB
 rw [List.all_eq_true]
 constructor
 ·intro h x hx e
  have := h x (by
   rcases hx with hx | hx
   ·simp [hx]
   ·exact List.mem_append_left _ ((hR x).2 hx))
  rw [e] at this
  cases this
 ·intro h x hx
  have h1 : Upon b n x := by
   rcases List.mem_append.1 hx with hx | hx
   ·exact .inr ((hR x).1 hx)
   ·exact .inl (List.mem_singleton.1 hx)
  have := h x h1
  cases hb : b x.data.toList with
  | none => exact absurd hb this
  | some _ => rfl
/-- what is known of the texts of a book -/
def BookSz (b : List UInt8 → Option Df) : Prop := ∀ s, ((b s).getD df0).of.size ≤ maxLen ∧ ((b s).getD df0).wth.size ≤ maxLen
theorem meaning_all (b : List UInt8 → Option Df) (V : List ByteArray) (hb : BookOk b V) (hbs : BookSz b) (n : ByteArray) (hn : n.size ≤ maxLen) (hnV : n ∈ V) :
  ∃ v e, MSpec b n v e ∧ ∀ (ev : Value) (m n0 : Nat) (w : World), MapIs w Tryz.prog 9 m n0 (bookV b) → ErrAt w ev → 0 < w.heap.size →
   Calls Tryz.prog 87 #[.map (some m), .string n] w fun e' w' => e' = .returned (.agg (mnA v e)) ∧ Below w.heap.size w w' := by
 obtain ⟨R, hR, hRr⟩ := exists_reach ltS_ord (prt b) n (U := V) fun x y hy => hb.mem _ y hy
 have hRs : ∀ x ∈ R, x.size ≤ maxLen := fun x hx => by
  obtain ⟨y, hy⟩ := ((hRr x).1 hx).last
  exact hb.sz _ x hy
 have hRl : R.length ≤ 1000 := Nat.le_trans (nodup_le R V (hR.nodup ltS_ord) fun x hx => by
  obtain ⟨y, hy⟩ := ((hRr x).1 hx).last
  exact hb.mem _ x hy) hb.few
 have hw : ∀ (m n0 : Nat) (w1 : World), MapIs w1 Tryz.prog 9 m n0 (bookV b) → Calls Tryz.prog 126 #[.map (some m), .string n] w1 fun e w' => e = .returned (.bool (wholeB b (R ++ [n]))) ∧ Below w1.heap.size w1 w' := fun m n0 w1 h1 =>
  whole_any b m n0 n R w1 h1 hn hRs hRl (needs_any b V hb m n0 n w1 h1 hn R hR hRr)
 cases hwb : wholeB b (R ++ [n]) with
 | false =>
  rw [hwb] at hw
  have hx : ∃ x, Upon b n x ∧ b x.data.toList = none := by
   apply Classical.byContradiction
   intro h
   have : wholeB b (R ++ [n]) = true := (whole_upon hRr).2 fun x hx e => h ⟨x, hx, e⟩
   rw [hwb] at this
   cases this
  refine ⟨zeroV, 5, .inl ⟨hx, rfl, rfl⟩, fun ev m n0 w hm hE h0 => ?_⟩
  exact meaning_at b m n0 n false [] w hm hn (fun x h => by simp at h) (by simp) hbs (fun w1 _ h1 => hw m n0 w1 h1) (fun h => by cases h)
 | true =>
  rw [hwb] at hw
  have hW := (whole_upon hRr).1 hwb
  rcases vs_total hb (V.length + 1) [] [] n hnV ⟨List.nodup_nil, fun y h => by simp at h, fun y h => by simp at h, List.nodup_nil⟩ (fun y h => by simp at h) (by simp) with ⟨⟨Bg, O⟩, hV, hBO⟩ | hcy
  ·obtain ⟨ht, hO⟩ := hV.order
   have hno : ∀ y, Upon b n y → ¬ Rch (prt b) y y := fun y hy => ht.loop y ((hO y).2 hy)
   have hOs : ∀ x ∈ O, x.size ≤ maxLen := fun x hx => by
    rcases (hO x).1 hx with e | h
    ·rw [e]; exact hn
    ·obtain ⟨y, hy⟩ := h.last
     exact hb.sz _ x hy
   have hOl : O.length ≤ 1000 := Nat.le_trans (nodup_le O V ht.nodup fun x hx => hBO.sub x (hBO.ord x hx)) hb.few
   have hms : ∀ N, O.length + 1 ≤ N → _ := fun N hN => order_means hV (N := N) (by omega)
   refine ⟨meanR b true O n, meanE b true O, .inr (.inr ⟨hW, hno, O.length + 1, fun N hN => ⟨(hms N hN).1.symm, fun h0 => ((hms N hN).2 h0).symm, fun h0 => ?_⟩⟩), fun ev m n0 w hm hE h0 => ?_⟩
   ·unfold meanR; rw [if_neg h0]
   ·refine meaning_at b m n0 n true O w hm hn hOs hOl hbs (fun w1 _ h1 => hw m n0 w1 h1) (fun _ w1 hb1 h1 => ?_)
    refine (order_all b V hb m n0 n hn hnV ev w1 h1 (hE.fr (m := 0) h0 hb1) (Nat.lt_of_lt_of_le h0 hb1.size)).mono ?_
    rintro e w' (⟨Bg', O', ⟨k1, _⟩, k2⟩ | ⟨⟨y, hy1, hy2⟩, _, _⟩)
    ·have := hV.det _ k1
     injection this with e1 e2
     subst e2
     exact k2
    ·exact absurd hy2 (hno y hy1)
  ·have hnv : ¬ ∃ t, Vs (prt b) [n] ([], []) t := fun ⟨⟨Bg, O⟩, hV⟩ => by
    obtain ⟨y, hy1, hy2⟩ := hcy
    exact hV.order.1.loop y ((hV.order.2 y).2 hy1) hy2
   refine ⟨zeroV, 4, .inr (.inl ⟨hW, hcy, rfl, rfl⟩), fun ev m n0 w hm hE h0 => ?_⟩
   refine meaning_ring b m n0 n w hm (fun w1 _ h1 => hw m n0 w1 h1) (fun w1 hb1 h1 => ?_)
   refine (order_all b V hb m n0 n hn hnV ev w1 h1 (hE.fr (m := 0) h0 hb1) (Nat.lt_of_lt_of_le h0 hb1.size)).mono ?_
   rintro e w' (⟨Bg', O', ⟨k1, _⟩, k2⟩ | ⟨_, k1, k2⟩)
   ·exact absurd ⟨_, k1⟩ hnv
   ·exact ⟨k1, k2⟩
end Go.Proofs.YtbhiphjifdnhmaaGreatDoor
