import Derived.Test.YtnjmkdgglpcfpaaC2
import Derived.Test.YtnjmkdgglpcfpaaA47
import Derived.Test.YtnjmkdgglpcfpaaA49
namespace Go.Proofs.Ytnjmkdgglpcfpaa
open Go.RowKit Go.Shelf

attribute [local go_sem] Oper.semAt_some

/-- the columns that are left: those that no stand reaches -/
def leftP (C B F : Int) (q : Nat → Bool) (st : List Int) : Nat → Bool := fun i => q i && !anyR C B F st (i : Int)
def leftErr (C R B F : Int) (cl l st : List Int) : Int := if holesErr C R B F cl l ≠ 0 then holesErr C R B F cl l else standsErr C cl st
def leftL (C R B F : Int) (cl l st : List Int) : List Int := if leftErr C R B F cl l st = 0 then cols (leftP C B F (isIn (colm C l)) st) else []

/-- a mark of rounds over a function among what a frame leaves with -/
def mrk (D : Nat) : Deferred := { target := .collected D, args := #[] }
theorem leaves_marks {F : Fence} {n : Nat} {P : Program} {fn : Func} {tmps : Array Value} {R : Ending → World → Prop} (T : World → Prop) :
    ∀ (Ds : List Nat) (W : World), Ds.Nodup → (∀ D ∈ Ds, W.heap[D]? = some (.deferred (some []))) → (∀ D W, D ∈ Ds → W.heap[D]? = some (.deferred (some [])) → T W → T (W.putObj D (.deferred none))) →
      (∀ W, T W → LeavesInM F n P fn tmps R [] .returning W) → T W → LeavesInM F n P fn tmps R (Ds.map mrk) .returning W
  | [], W, _, _, _, hf, hW => hf W hW
  | D :: Ds, W, hn, hD, hT, hf, hW => by
    have hn' := List.nodup_cons.1 hn
    have hk := hD D (by simp)
    refine ⟨by simp, .inl ⟨D, _, rfl, run_takeDeferred hk, ?_⟩⟩
    refine leaves_marks T Ds _ hn'.2 (fun D' hD' => ?_) (fun D' W' hD' => hT D' W' (by simp [hD'])) hf (hT D W (by simp) hk hW)
    have hne : D' ≠ D := fun e => hn'.1 (e ▸ hD')
    exact (World.putObj_heap_other hne).trans (hD D' (by simp [hD']))

theorem ints_put {W : World} {B D : Nat} {A : Option Addr} {l : List Int} {o' : Obj} (h : Ints W B A l) (hK : W.heap[D]? = some (.deferred (some []))) : Ints (W.putObj D o') B A l := fun k x hx => by
  obtain ⟨ad, e, hb, hc⟩ := h k x hx
  refine ⟨ad, e, hb, ?_⟩
  by_cases hd : D = (ad.add k).block
  · exfalso
    unfold World.cell? at hc
    rw [← hd, hK] at hc
    simp at hc
  · exact (World.cell?_of_block (w := W) (World.putObj_heap_other (Ne.symm hd))).trans hc

theorem leftP_snoc {C B F : Int} {q : Nat → Bool} {st : List Int} {j : Nat} (hj : j < st.length) {i : Nat} : leftP C B F q (st.take (j + 1)) i = (leftP C B F q (st.take j) i && !decide ((i : Int) ∈ rchL C B st[j] (B + F + 1).toNat)) := by
  unfold leftP
  rw [anyR_snoc hj]
  cases q i <;> cases anyR C B F (st.take j) i <;> simp
theorem mk_off (p : Nat → Bool) (l : List Int) (c : Int) (h0 : 0 ≤ c) (h : c < 120) : (mk fun i => p i && !decide ((i : Int) ∈ l)).setIfInBounds c.toNat (.bool false) = mk fun i => p i && !decide ((i : Int) ∈ l ++ [c]) := by
  rw [mk_set _ _ _ (by omega)]
  refine mk_congr fun i hi => ?_
  by_cases hc : i = c.toNat
  · rw [if_pos hc]
    have : (i : Int) = c := by omega
    simp [this]
  · rw [if_neg hc]
    have : (i : Int) ≠ c := by omega
    simp [this]

theorem grown_from {w1 : World} {m : Nat} {β : Type} : OwnFrom w1.heap.size (fun (_ : β) W => w1.grownBy W (some m)) := by
  intro s A B row h hg hr
  refine ⟨hg.os.trans h.os, hg.tape.trans h.tape, hg.output.trans h.output, Nat.le_trans h.size hg.size, fun k hk hne => ?_⟩
  refine (hg.block k (Nat.lt_of_lt_of_le hk h.size) fun e => ?_).trans (h.block k hk hne)
  have := (hr k e.symm).1
  omega

theorem grown_set {w5 W : World} {m i : Nat} (h : w5.grownBy W (some m)) (u : Value) : w5.grownBy (W.setCell ⟨m, i, none⟩ u) (some m) :=
  ⟨h.os, h.tape, h.output, by simpa [World.setCell] using h.size, fun k hk hne => (heap_setCell_other W ⟨m, i, none⟩ k u (fun e => hne (by rw [e]))).trans (h.block k hk hne)⟩
theorem grown_trans {a b c : World} {m : Nat} (h : a.grownBy b (some m)) (k : b.grownBy c (some m)) : a.grownBy c (some m) :=
  ⟨k.os.trans h.os, k.tape.trans h.tape, k.output.trans h.output, Nat.le_trans h.size k.size, fun i hi hne => (k.block i (Nat.lt_of_lt_of_le hi h.size) hne).trans (h.block i hi hne)⟩
theorem grown_of {a b : World} {m : Nat} (h : Below a.heap.size a b) : a.grownBy b (some m) := ⟨h.os, h.tape, h.output, h.size, fun k hk _ => h.block k hk⟩

set_option maxRecDepth 100000 in
set_option maxHeartbeats 2000000 in
theorem left_ok (C R B F : Int) (A : Option Addr) (cap : Nat) (cl : List Int) (D : Option Addr) (dap : Nat) (l : List Int) (E : Option Addr) (eap : Nat) (st : List Int) (w : World) (hB : B ≤ 9223372036854775807) (hcl : cl.length ≤ 9223372036854775807) (hll : l.length ≤ 9223372036854775807) (hr : Ints w w.heap.size A cl) (hl : Ints w w.heap.size D l) (hs : Ints w w.heap.size E st) (hk : HolesOk C R B F cl l) (he : standsErr C cl st = 0) (hst : st.length ≤ 200) (hin : ∀ x ∈ st, 0 ≤ x ∧ x < C) :
    Calls Try.prog 32 #[.agg #[.int .i64 C, .int .i64 R, .int .i64 B, .int .i64 F, .slice A cl.length cap], .slice D l.length dap, .slice E st.length eap] w (RetInts2 w (cols (leftP C B F (isIn (colm C l)) st)) 0) := by
  have bw0 := below_new w (.cells #[.int .i64 C, .int .i64 R, .int .i64 B, .int .i64 F, .slice A cl.length cap] 24)
  have kH0 := Blk.new w 24 #[.int .i64 C, .int .i64 R, .int .i64 B, .int .i64 F, .slice A cl.length cap]
  have iA0 := hr.behind bw0
  have iD0 := hl.behind bw0
  have iE0 := hs.behind bw0
  have hok := hk.ok
  have k1 := hok.c3
  have k2 := hok.c120
  have k3 := hok.b0
  have k4 := hok.f0
  have k5 := hok.bf
  have hlen := hk.len
  have hpos : ∀ x ∈ l, 0 ≤ x := fun x hx => (hk.all x hx).1
  have HE := Lib.hid (holesErr_zero.2 hk)
  have HS := Lib.hid he
  clear he hk
  refine (callsIn_wide (n := 9)).1 ?_
  refine callsIn_of_wp_marks Try.func32 rfl trivial ?_ rfl
  refine wpIn_wide.2 ?_
  simp only [Try.ntmps32, List.size_toArray, List.length_cons, List.length_nil, Nat.reduceAdd, Nat.reduceSub, Array.replicate_succ, Array.replicate_zero, List.push_toArray, List.append_toArray, List.nil_append, List.cons_append]
  go_wp2_with (first
    | (go_at_call 76; refine (checkHoles_any _ hB hcl iA0 iD0 hll).mono ?_; rw [HE.out]; rintro e w1 ⟨rfl, hb1⟩; have bw1 := below_next bw0 bw0.size hb1; clear bw0; have kH1 := kH0.below hb1 kH0.lt; clear kH0; have iA1 := iA0.behind hb1; clear iA0; have iD1 := iD0.behind hb1; clear iD0; have iE1 := iE0.behind hb1; clear iE0; obtain ⟨d0, d1, d2, d3, d4⟩ := kH1.five)
    | (go_at_call 81; refine (checkStands_any _ hok iA1 iE1 (by omega)).mono ?_; rw [HS.out]; rintro e w2 ⟨rfl, hb2⟩; have bw2 := below_next bw1 bw1.size hb2; clear bw1; have kH2 := kH1.below hb2 kH1.lt; clear kH1; have iA2 := iA1.behind hb2; clear iA1; have iD2 := iD1.behind hb2; clear iD1; have iE2 := iE1.behind hb2; clear iE1; clear d0 d1 d2 d3 d4; obtain ⟨d0, d1, d2, d3, d4⟩ := kH2.five)
    | (go_at_call 77; refine (columnsOf_any C R B F _ l D dap _ (by omega) k2 (by omega) hpos iD2).mono ?_; rintro e w3 ⟨rfl, hb3⟩; have bw3 := below_next bw2 bw2.size hb3; clear bw2; have kH3 := kH2.below hb3 kH2.lt; clear kH2; have iE3 := iE2.behind hb3; clear iE2; clear d0 d1 d2 d3 d4)
    | (refine wpList_store_row (by rfl) 93 _ _ (by rfl) _ _ (by rfl) (by rfl) 93 _ (Blk.new _ _ _) (info93 _) (z93_size _) (mk_one _) ?_))
  have bwL : Below w.heap.size w ((w3.alloc (.cells Try.zeroCells93 93)).setRow w3.heap.size (mk (isIn (colm C l)))) := below_setRow (bw3.alloc bw3.size _) bw3.size _
  have kHL : Blk ((w3.alloc (.cells Try.zeroCells93 93)).setRow w3.heap.size (mk (isIn (colm C l)))) w.heap.size 24 #[.int .i64 C, .int .i64 R, .int .i64 B, .int .i64 F, .slice A cl.length cap] := (kH3.alloc _).farRow (g' := w3.heap.size) (by have := kH3.lt; omega) _
  have kML : Blk ((w3.alloc (.cells Try.zeroCells93 93)).setRow w3.heap.size (mk (isIn (colm C l)))) w3.heap.size 93 (mk (isIn (colm C l))) := (Blk.new _ _ _).setRow _
  have iEL : Ints ((w3.alloc (.cells Try.zeroCells93 93)).setRow w3.heap.size (mk (isIn (colm C l)))) w3.heap.size E st := iE3.below (below_setRow (below_new _ _) (Nat.le_refl _) _)
  have hzm := bw3.size
  have hzm2 := kH3.lt
  obtain ⟨m, hm⟩ : ∃ m, w3.heap.size = m := ⟨_, rfl⟩
  rw [hm] at bwL kHL kML iEL hzm hzm2 ⊢
  obtain ⟨wL, hwL⟩ : ∃ wL, (w3.alloc (.cells Try.zeroCells93 93)).setRow m (mk (isIn (colm C l))) = wL := ⟨_, rfl⟩
  rw [hwL] at bwL kHL kML iEL ⊢
  clear hwL hm iA2 iD2 iE3 kH3 bw3 hb3 hb2 hb1
  have hmL := kML.lt
  refine wp_loop (fun a' wr => ∃ (k : Nat) (Ds : List Nat) (u12 u32 u33 u34 u35 u36 u37 u41 : Value), (k ≤ st.length ∧ wL.grownBy wr (some m) ∧ Blk wr m 93 (mk (leftP C B F (isIn (colm C l)) (st.take k))) ∧ Ds.Nodup ∧ (∀ D ∈ Ds, wL.heap.size ≤ D ∧ wr.heap[D]? = some (.deferred (some [])))) ∧ a' = { tmps := #[Value.agg #[.int .i64 C, .int .i64 R, .int .i64 B, .int .i64 F, .slice A cl.length cap], Value.slice D l.length dap, Value.slice E st.length eap, Value.pointer (some ⟨w.heap.size, 0, none⟩), undef, undef, Value.slice none 0 0, Value.int IntKind.i64 0, Value.int IntKind.i64 0, Value.int IntKind.i64 0, Value.pointer (some ⟨m, 0, none⟩), undef, u12, undef, Value.agg #[.int .i64 C, .int .i64 R, .int .i64 B, .int .i64 F, .slice A cl.length cap], Value.slice D l.length dap, Value.int IntKind.i64 0, Value.int IntKind.i64 0, Value.bool false, undef, Value.agg #[.int .i64 C, .int .i64 R, .int .i64 B, .int .i64 F, .slice A cl.length cap], Value.slice E st.length eap, Value.int IntKind.i64 0, Value.int IntKind.i64 0, Value.bool false, undef, Value.agg #[.int .i64 C, .int .i64 R, .int .i64 B, .int .i64 F, .slice A cl.length cap], Value.slice D l.length dap, Value.agg (mk (isIn (colm C l))), Value.slice E st.length eap, Value.int IntKind.i64 st.length, Value.int IntKind.i64 k, u32, u33, u34, u35, u36, u37, undef, undef, undef, u41, undef, undef], defers := Ds.map mrk })
    (fun a' _ => st.length - (intOf (a'.tmps.getD 31 undef)).toNat) ?_ ?_
  · refine ⟨0, [], _, _, _, _, _, _, _, _, ⟨Nat.zero_le _, ⟨rfl, rfl, rfl, Nat.le_refl _, fun _ _ _ => rfl⟩, ?_, List.nodup_nil, by simp⟩, rfl⟩
    rw [show mk (leftP C B F (isIn (colm C l)) (st.take 0)) = mk (isIn (colm C l)) from mk_congr fun i _ => by simp [leftP, anyR]]
    exact kML
  · rintro a' wr ⟨k, Ds, u12, u32, u33, u34, u35, u36, u37, u41, ⟨hk, hg, kM, hn, hD⟩, rfl⟩
    have kH : Blk wr w.heap.size 24 #[.int .i64 C, .int .i64 R, .int .i64 B, .int .i64 F, .slice A cl.length cap] := (hg.block _ kHL.lt (by simp; omega)).trans kHL
    obtain ⟨d0, d1, d2, d3, d4⟩ := kH.five
    have hgz := hg.size
    have hkmlt := kM.lt
    by_cases hlt : k < st.length
    · have iE : Ints wr m E st := iEL.moved fun p hp => World.cell?_of_block (hg.block p.block (by omega) (by simp; omega))
      obtain ⟨ad, rfl, hBd, hc⟩ := iE.get hlt
      have hx := hin _ (List.getElem_mem hlt)
      have hstep := fun i => leftP_snoc (C := C) (B := B) (F := F) (q := isIn (colm C l)) hlt (i := i)
      have HX : Hid (∀ i, leftP C B F (isIn (colm C l)) (st.take (k + 1)) i = (leftP C B F (isIn (colm C l)) (st.take k) i && !decide ((i : Int) ∈ rchL C B st[k] (B + F + 1).toNat))) := hstep
      clear hstep
      generalize leftP C B F (isIn (colm C l)) (st.take k) = P0 at kM HX
      obtain ⟨s, hs'⟩ : ∃ s, st[k] = s := ⟨_, rfl⟩
      rw [hs'] at hc hx HX
      go_wp2_with (first
        | (go_at_call 64; refine (reached64_any C R B F _ s _).mono ?_; rintro e w5 ⟨rfl, hw5⟩; have hbs : Blk w5 wr.heap.size 24 #[.int .i64 C, .int .i64 R, .int .i64 B, .int .i64 F, .slice A cl.length cap] := (by rw [← hw5]; exact (Blk.new _ _ _).alloc _); have hbi : w5.cell? ⟨wr.heap.size + 1, 0, none⟩ = some (.int .i64 s) := (by rw [← hw5]; exact (Blk.newAt (by simp) : Blk ((wr.alloc (.cells #[.int .i64 C, .int .i64 R, .int .i64 B, .int .i64 F, .slice A cl.length cap] 24)).alloc (.cells #[.int .i64 s] 3)) (wr.heap.size + 1) 3 #[.int .i64 s]).cell 0); have hb5 : Below wr.heap.size wr w5 := (by rw [← hw5]; exact (below_new _ _).alloc (by simp) _); have hz5 : w5.heap.size = wr.heap.size + 1 + 1 := (by rw [← hw5]; simp); clear hw5))
      have kM5 : Blk w5 m 93 (mk P0) := kM.below hb5 hkmlt
      refine (wpIn_wide (n := 9)).1 ?_
      refine wpIn_rangeFunc_ownG rfl (by omega) (gf := 108) (lb := #[.pointer (some ⟨wr.heap.size, 0, none⟩), .pointer (some ⟨wr.heap.size + 1, 0, none⟩)]) rfl trivial (enters_of Try.func108 (by kernel_rfl) rfl)
        (reached_stops (9 - 1) (by omega) wr.heap.size (wr.heap.size + 1) C R B F _ s (by omega) k2 hx.1 hx.2 k3 k4 k5 w5 hbs hbi) (fun h k => Kp2.trans h k)
        (fun W l o o' hl _ _ _ => Kp2.put (B := w5.heap.size) o' (by omega) (by omega) hl) (Below.refl _ _) (fun _ => rfl)
        (fun pre W => w5.grownBy W (some m) ∧ Blk W m 93 (mk fun i => P0 i && !decide ((i : Int) ∈ pre.map Subtype.val)))
        (fun _ _ _ => False)
        (fun s X Y row h hgr hr => ⟨grown_from (β := Unit) () X Y row h.1 hgr hr, (hgr.block m h.2.lt (fun e => by have := (hr m e.symm).1; omega)).trans h.2⟩)
        (fun _ _ _ _ _ hs _ _ => hs)
        ⟨⟨rfl, rfl, rfl, Nat.le_refl _, fun _ _ _ => rfl⟩, by simpa using kM5⟩
        ?a1 ?assign ?body ?done ?stop
      case assign =>
        intro l x W K hK
        gi_wp2
        exact hK
      case body =>
        rintro l pre ⟨y, y0, y1⟩ W ⟨hgr, kM6⟩ hlen
        obtain ⟨c, rfl⟩ := Int.eq_ofNat_of_zero_le y0
        have hm3 : c < 120 := by omega
        have hcc := kM6.cell c
        have hff := kM6.frozen c
        rw [mk_get _ _ (by omega)] at hcc
        have hz6 := hgr.size
        dsimp only
        gi_wp2
        refine ⟨(KeepsOthers.setCell _ _ _).from _, ⟨Below.heap_setCell _ _ _ _ (by simp <;> omega), Below.heap_setCell _ _ _ _ (by simp <;> omega), by simp [World.setCell]⟩, grown_set hgr _, ?_⟩
        have hs := kM6.store c (.bool false)
        have := mk_off P0 (pre.map Subtype.val) (c : Int) (by omega) (by omega)
        rw [Int.toNat_natCast] at this
        rw [this] at hs
        simpa using hs
      case done =>
        rintro D' ys W hD' hys ⟨hgr, kM6⟩ hK
        have hgW := grown_trans (grown_trans hg (grown_of hb5)) hgr
        go_wp2
        refine ⟨⟨k + 1, D' :: Ds, _, _, _, _, _, _, _, _, ⟨by omega, hgW, ?_, List.nodup_cons.2 ⟨fun hd => ?_, hn⟩, fun D2 hd => ?_⟩, rfl⟩, ?_⟩
        · rw [mk_congr (q := fun i => P0 i && !decide ((i : Int) ∈ ys.map Subtype.val)) fun i _ => by rw [HX.out i, hys]]
          exact kM6
        · have := (hD D' hd).2
          have hlt' : D' < wr.heap.size := (Array.getElem?_eq_some_iff.1 this).1
          omega
        · rcases List.mem_cons.1 hd with rfl | hd
          · exact ⟨by omega, hK⟩
          · obtain ⟨h1, h2⟩ := hD D2 hd
            have hlt' : D2 < wr.heap.size := (Array.getElem?_eq_some_iff.1 h2).1
            exact ⟨h1, (hgr.block D2 (by omega) (by simp; omega)).trans ((hb5.block D2 hlt').trans h2)⟩
        · simp [intOf]
          omega
      case stop =>
        rintro D' c pre W _ _ h _
        exact h.elim
    · obtain rfl : k = st.length := by omega
      rw [List.take_length] at kM
      have bwr : Below w.heap.size w wr := bwL.grown hg (by omega) (by rintro k e; cases e; omega)
      go_wp2_with (first
        | (refine wpList_load_row (by rfl) 93 _ (by rfl) _ (by rfl) 93 _ (0, 0) _ kM Try.underlying93 rfl (info93 _) ?_)
        | (go_at_call 78; refine (list_any _ _).mono ?_; rintro e w9 ⟨S, sap, rfl, s1, s2, s3, hb9⟩))
      have hz9 := hb9.size
      refine leaves_marks (fun W => Ints W w9.heap.size S (cols (leftP C B F (isIn (colm C l)) st)) ∧ w9.heap.size ≤ W.heap.size ∧ Below w.heap.size w W) Ds w9 hn (fun D' hd => ?_) ?_ ?_ ⟨s3, Nat.le_refl _, bwr.trans (hb9.mono (by omega))⟩
      · obtain ⟨h1, h2⟩ := hD D' hd
        exact (hb9.block D' (Array.getElem?_eq_some_iff.1 h2).1).trans h2
      · rintro D' W hd hK ⟨i1, i2, i3⟩
        obtain ⟨h1, h2⟩ := hD D' hd
        exact ⟨ints_put i1 hK, by simpa [World.putObj] using i2, i3.trans (belowK_b (w := w) (Nat.le_refl _) W D' _ _ (by omega) hK rfl rfl)⟩
      · rintro W ⟨i1, i2, i3⟩
        exact ⟨_, results_tmp2 rfl _ _ _, S, sap, rfl, s1, s2, i1.more i2, i3⟩

set_option maxRecDepth 100000 in
set_option maxHeartbeats 1000000 in
theorem left_any (C R B F : Int) (A : Option Addr) (cap : Nat) (cl : List Int) (D : Option Addr) (dap : Nat) (l : List Int) (E : Option Addr) (eap : Nat) (st : List Int) (w : World) (hB : B ≤ 9223372036854775807) (hcl : cl.length ≤ 9223372036854775807) (hll : l.length ≤ 9223372036854775807) (hsl : st.length ≤ 9223372036854775807) (hr : Ints w w.heap.size A cl) (hl : Ints w w.heap.size D l) (hs : Ints w w.heap.size E st) :
    Calls Try.prog 32 #[.agg #[.int .i64 C, .int .i64 R, .int .i64 B, .int .i64 F, .slice A cl.length cap], .slice D l.length dap, .slice E st.length eap] w (RetInts2 w (leftL C R B F cl l st) (leftErr C R B F cl l st)) := by
  have bw0 := below_new w (.cells #[.int .i64 C, .int .i64 R, .int .i64 B, .int .i64 F, .slice A cl.length cap] 24)
  have kH0 := Blk.new w 24 #[.int .i64 C, .int .i64 R, .int .i64 B, .int .i64 F, .slice A cl.length cap]
  have iA0 := hr.behind bw0
  have iD0 := hl.behind bw0
  have iE0 := hs.behind bw0
  by_cases h1 : holesErr C R B F cl l = 0
  · have hk := holesErr_zero.1 h1
    have e1 : leftErr C R B F cl l st = standsErr C cl st := by unfold leftErr; rw [if_neg (by simp [h1])]
    by_cases h2 : standsErr C cl st = 0
    · have e2 : leftL C R B F cl l st = cols (leftP C B F (isIn (colm C l)) st) := by unfold leftL; rw [if_pos (e1.trans h2)]
      rw [e1, e2, h2]
      have h3 : st.length ≤ 200 ∧ ∀ x ∈ st, 0 ≤ x ∧ x < C := by
        unfold standsErr at h2
        split at h2
        · cases h2
        · split at h2
          · rename_i hh; exact ⟨by omega, hh.1.2⟩
          · cases h2
      exact left_ok C R B F A cap cl D dap l E eap st w hB hcl hll hr hl hs hk h2 h3.1 h3.2
    · have e2 : leftL C R B F cl l st = [] := by unfold leftL; rw [e1, if_neg h2]
      have n1 : (standsErr C cl st == 0) = false := by simpa using h2
      have n2 : (standsErr C cl st != 0) = true := by simpa using h2
      have hok := hk.ok
      have HE := Lib.hid h1
      rw [e1, e2]
      clear h1 h2 e1 e2 hk
      refine (callsIn_wide (n := 9)).1 ?_
      refine callsIn_of_wp_marks Try.func32 rfl trivial ?_ rfl
      refine wpIn_wide.2 ?_
      simp only [Try.ntmps32, List.size_toArray, List.length_cons, List.length_nil, Nat.reduceAdd, Nat.reduceSub, Array.replicate_succ, Array.replicate_zero, List.push_toArray, List.append_toArray, List.nil_append, List.cons_append]
      go_wp2_with (first
        | (go_at_call 76; refine (checkHoles_any _ hB hcl iA0 iD0 hll).mono ?_; rw [HE.out]; rintro e w1 ⟨rfl, hb1⟩; have bw1 := below_next bw0 bw0.size hb1; clear bw0; have kH1 := kH0.below hb1 kH0.lt; clear kH0; have iA1 := iA0.behind hb1; clear iA0; have iE1 := iE0.behind hb1; clear iE0; obtain ⟨d0, d1, d2, d3, d4⟩ := kH1.five)
        | (go_at_call 81; refine (checkStands_any _ hok iA1 iE1 hsl).mono ?_; rintro e w2 ⟨rfl, hb2⟩; have bw2 := below_next bw1 bw1.size hb2; clear bw1))
      exact ⟨_, results_tmp2 rfl _ _ _, RetInts2.err bw2⟩
  · have e1 : leftErr C R B F cl l st = holesErr C R B F cl l := by unfold leftErr; rw [if_pos h1]
    have e2 : leftL C R B F cl l st = [] := by unfold leftL; rw [e1, if_neg h1]
    have n1 : (holesErr C R B F cl l == 0) = false := by simpa using h1
    have n2 : (holesErr C R B F cl l != 0) = true := by simpa using h1
    rw [e1, e2]
    clear h1 e1 e2
    refine (callsIn_wide (n := 9)).1 ?_
    refine callsIn_of_wp_marks Try.func32 rfl trivial ?_ rfl
    refine wpIn_wide.2 ?_
    simp only [Try.ntmps32, List.size_toArray, List.length_cons, List.length_nil, Nat.reduceAdd, Nat.reduceSub, Array.replicate_succ, Array.replicate_zero, List.push_toArray, List.append_toArray, List.nil_append, List.cons_append]
    go_wp2_with (first
      | (go_at_call 76; refine (checkHoles_any _ hB hcl iA0 iD0 hll).mono ?_; rintro e w1 ⟨rfl, hb1⟩; have bw1 := below_next bw0 bw0.size hb1; clear bw0))
    exact ⟨_, results_tmp2 rfl _ _ _, RetInts2.err bw1⟩
end Go.Proofs.Ytnjmkdgglpcfpaa
