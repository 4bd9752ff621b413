import Derived.Test.YtnjmkdgglpcfpaaA40
import Derived.Test.YtnjmkdgglpcfpaaC10
import Derived.StillTailTactics
namespace Go.Proofs.Ytnjmkdgglpcfpaa
set_option linter.unusedSimpArgs false
set_option linter.unusedVariables false
open Go.RowKit

/-- cuts in memory, each slice with its bounds -/
def CutsC (w : World) (B : Nat) (G : Option Addr) (cs : List (Int × List Int)) : Prop :=
  ∀ k c, cs[k]? = some c → ∃ ad E cap, G = some ad ∧ ad.block < B ∧ w.cell? (ad.add (k * 2)) = some (.int .i64 c.1) ∧ w.cell? ⟨(ad.add (k * 2)).block, (ad.add (k * 2)).off + 1, none⟩ = some (.slice E c.2.length cap) ∧ Ints w B E c.2 ∧ c.2.length ≤ cap ∧ cap ≤ maxLen
section
variable {w w' : World} {B B' : Nat} {G : Option Addr} {cs : List (Int × List Int)}
theorem CutsC.nil : CutsC w B G [] := fun k c h => by simp at h
theorem CutsC.cuts (h : CutsC w B G cs) : Cuts w B G cs := fun k c hc => by
  obtain ⟨ad, E, cap, e, h1, h2, h3, h4, _⟩ := h k c hc
  exact ⟨ad, E, cap, e, h1, h2, h3, h4⟩
theorem CutsC.get (h : CutsC w B G cs) {k : Nat} (hk : k < cs.length) : ∃ ad E cap, G = some ad ∧ ad.block < B ∧ w.cell? (ad.add (k * 2)) = some (.int .i64 cs[k].1) ∧ w.cell? ⟨(ad.add (k * 2)).block, (ad.add (k * 2)).off + 1, none⟩ = some (.slice E cs[k].2.length cap) ∧ Ints w B E cs[k].2 ∧ cs[k].2.length ≤ cap ∧ cap ≤ maxLen :=
  h k _ (List.getElem?_eq_getElem hk)
theorem CutsC.below (h : CutsC w B G cs) (hb : Below B w w') : CutsC w' B G cs := fun k c hc => by
  obtain ⟨ad, E, cap, e, h1, h2, h3, h4, h5⟩ := h k c hc
  exact ⟨ad, E, cap, e, h1, (hb.cell (p := ad.add (k * 2)) (by rw [addr_block]; exact h1)).trans h2, (hb.cell (p := ⟨(ad.add (k * 2)).block, (ad.add (k * 2)).off + 1, none⟩) (by show (ad.add (k * 2)).block < B; rw [addr_block]; exact h1)).trans h3, h4.below hb, h5⟩
theorem CutsC.more (h : CutsC w B G cs) (hB : B ≤ B') : CutsC w B' G cs := fun k c hc => by
  obtain ⟨ad, E, cap, e, h1, h2, h3, h4, h5⟩ := h k c hc
  exact ⟨ad, E, cap, e, by omega, h2, h3, h4.more hB, h5⟩
theorem CutsC.behind (h : CutsC w w.heap.size G cs) (hb : Below w.heap.size w w') : CutsC w' w'.heap.size G cs := (h.below hb).more hb.size
end

theorem OwnC.cutsC {w : World} {base : Nat} {G : Option Addr} {gap : Nat} {cv : List CutV} (h : OwnC w base G gap cv) : CutsC w w.heap.size G (cv.map (·.1)) := by
  intro k c hc
  obtain ⟨p, hp, rfl⟩ : ∃ p, cv[k]? = some p ∧ p.1 = c := by simpa using hc
  have hk : k < cv.length := (List.getElem?_eq_some_iff.1 hp).1
  have hmem : p ∈ cv := List.mem_of_getElem? hp
  rcases h.1.2 with ⟨hv, h0⟩ | ⟨g, cap, cur, hv, hb, hg, h1, h2, h3, h4⟩
  · omega
  · cases hv
    have hBlk : Blk w g 104 cur := hg
    have hflat : ∀ (qs : List CutV) (k : Nat) (p : CutV), qs[k]? = some p → (cutCells qs)[k * 2]? = some (.int .i64 p.1.1) ∧ (cutCells qs)[k * 2 + 1]? = some (.slice p.2.1 p.1.2.length p.2.2) := by
      intro qs
      induction qs with
      | nil => intro k p h; simp at h
      | cons q qs ih =>
        intro k p h
        cases k with
        | zero => cases h; exact ⟨rfl, rfl⟩
        | succ k =>
          have := ih k p h
          have e1 : (k + 1) * 2 = k * 2 + 1 + 1 := by omega
          rw [e1]
          exact this
    obtain ⟨f0, f1⟩ := hflat cv k p hp
    rw [← h4, List.getElem?_take_of_lt (by omega), Array.getElem?_toList] at f0 f1
    have e0 : (⟨g, 0, none⟩ : Addr).add (k * 2) = ⟨g, k * 2, none⟩ := by rw [Addr.add_mid, Nat.zero_add]
    refine ⟨⟨g, 0, none⟩, p.2.1, p.2.2, rfl, hBlk.lt, ?_, ?_, Ints.of_own (h.2 p hmem), (by obtain ⟨A9, c9, e9, h91, h92⟩ := own_form (h.2 p hmem); cases e9; exact ⟨h91, h92⟩)⟩
    · rw [e0, hBlk.cell]; exact f0
    · rw [e0]; exact (hBlk.cell _).trans f1
/-- what Fewest hands back -/
def RetFewestC (w : World) (st : List Int) (cuts : List (Int × List Int)) (er : Int) (e : Ending) (w' : World) : Prop :=
  ∃ E eap G gap, e = .returned (.tuple #[.agg #[.slice E st.length eap, .slice G cuts.length gap], .int .i64 er]) ∧ st.length ≤ eap ∧ eap ≤ maxLen ∧ cuts.length ≤ gap ∧ gap ≤ maxLen ∧ Ints w' w'.heap.size E st ∧ CutsC w' w'.heap.size G cuts ∧ Below w.heap.size w w'

set_option maxRecDepth 100000 in
set_option maxHeartbeats 2000000 in
theorem fewestC_any (C R B F : Int) (A : Option Addr) (cap : Nat) (cl : List Int) (D : Option Addr) (dap : Nat) (l : List Int) (w : World) (hB : B ≤ 9223372036854775807) (hcl : cl.length ≤ 9223372036854775807) (hr : Ints w w.heap.size A cl) (hl : Ints w w.heap.size D l) (hll : l.length ≤ 9223372036854775807) :
    Calls Try.prog 39 #[.agg #[.int .i64 C, .int .i64 R, .int .i64 B, .int .i64 F, .slice A cl.length cap], .slice D l.length dap] w
      (RetFewestC w (findL C R B F cl l) (if findErr C R B F cl l = 0 then cutsOf C B F (isIn cl) (isIn (colm C l)) (findL C R B F cl l).length else []) (findErr C R B F cl l)) := by
  have hb0 : Below w.heap.size w ((w.alloc (.cells #[.int .i64 C, .int .i64 R, .int .i64 B, .int .i64 F, .slice A cl.length cap] 24)).alloc (.cells #[.slice none 0 0, .slice none 0 0] 56)) := (below_new w (.cells #[.int .i64 C, .int .i64 R, .int .i64 B, .int .i64 F, .slice A cl.length cap] 24)).alloc (by simp) _
  have hbq : Blk ((w.alloc (.cells #[.int .i64 C, .int .i64 R, .int .i64 B, .int .i64 F, .slice A cl.length cap] 24)).alloc (.cells #[.slice none 0 0, .slice none 0 0] 56)) (w.heap.size + 1) 56 #[.slice none 0 0, .slice none 0 0] := Blk.newAt (by simp)
  have hr1 := hr.behind hb0
  have hl1 := hl.behind hb0
  by_cases he : findErr C R B F cl l = 0
  case neg =>
    have hn1 : (findErr C R B F cl l == 0) = false := by simpa using he
    have hn2 : (findErr C R B F cl l != 0) = true := by simpa using he
    have hL : findL C R B F cl l = [] := by
      by_cases hk : HolesOk C R B F cl l
      · cases hf : fewL C B F (isIn cl) (isIn (colm C l)) with
        | none => exact (findErr_none hk hf).2
        | some L => exact absurd (findErr_some hk hf).1 he
      · exact (findErr_bad hk).2
    rw [if_neg he]
    have HL := Lib.hid hL
    clear he hL
    go_enter Try.func39, Try.ntmps39
    go_wp2_with (first
      | (go_at_call 86; refine (find_anyF _ hB hcl hr1 hl1 hll).mono ?_; unfold RetFindF; rw [HL.out]; rintro e w1 ⟨vs, A1, c1, hvs, hone, hval, rfl, h1, h2, h3, hb1, _⟩; have HV := Lib.hid hvs; have HO := Lib.hid hone; clear hvs hone hval; have hbq1 := hbq.below hb1 (by simp))
      | (refine wpList_store_row (by rfl) 106 _ _ (by rfl) w1.heap.size _ (by rfl) (by rfl) 106 Try.zeroCells106 (Blk.new w1 106 _) (info106s HV.out) (Try.zeroCells106_size.trans HV.out.symm) HO.out ?_; have hbq2 := (hbq1.alloc (.cells Try.zeroCells106 106)).farRow (g' := w1.heap.size) (by have := hbq1.lt; omega) vs; obtain ⟨m0, m1, m2, m3⟩ : ((w1.alloc (.cells Try.zeroCells106 106)).setRow w1.heap.size vs).cell? ⟨w.heap.size + 1, 0, none⟩ = some (.slice none 0 0) ∧ ((w1.alloc (.cells Try.zeroCells106 106)).setRow w1.heap.size vs).cell? ⟨w.heap.size + 1, 1, none⟩ = some (.slice none 0 0) ∧ ((w1.alloc (.cells Try.zeroCells106 106)).setRow w1.heap.size vs).frozen? ⟨w.heap.size + 1, 0, none⟩ = false ∧ ((w1.alloc (.cells Try.zeroCells106 106)).setRow w1.heap.size vs).frozen? ⟨w.heap.size + 1, 1, none⟩ = false := ⟨hbq2.cell 0, hbq2.cell 1, hbq2.frozen 0, hbq2.frozen 1⟩))
    have hz1 := hb1.size
    simp at hz1
    refine bodyPost_ret (results_cell2 (g := w.heap.size + 1) rfl _ _ 56 _ (0, 0) _ rfl ((hbq2.store 0 (.slice none 0 0)).store 1 (.slice none 0 0)) Try.underlying56 rfl info56) rfl ?_
    rw [HL.out]
    exact ⟨none, 0, none, 0, rfl, Nat.le_refl _, by simp [maxLen], Nat.le_refl _, by simp [maxLen], Ints.nil, CutsC.nil, ((below_setRow ((below_next hb0 (by simp; omega) hb1).alloc (by omega) _) (by omega) _).setCell (p := ⟨w.heap.size + 1, 0, none⟩) (by simp) _).setCell (p := ⟨w.heap.size + 1, 1, none⟩) (by simp) _⟩
  case pos =>
    have hk := findErr_ok he
    have hok := hk.ok
    have k1 := hok.c3
    have k2 := hok.c120
    have k3 := hok.b0
    have k4 := hok.f0
    have k5 := hok.bf
    have hfew := findL_good he
    have hLn := fewL_len (by omega) k2 k3 k4 hfew
    have hwq : ∀ i : Nat, isIn (colm C l) i = true → (i : Int) < C := fun i hi => (hk.cols (i : Int) (by simpa [isIn] using hi)).2
    rw [if_pos he, he]
    have HE := Lib.hid he
    clear he hk hok
    generalize hL : findL C R B F cl l = L at hfew hLn ⊢
    have HL := Lib.hid hL
    clear hL
    by_cases hemp : L = []
    case pos =>
      have hc := cutsOf_nil (n := L.length) (hemp ▸ hfew)
      rw [hc]
      have z1 : (((L.length : Nat) : Int) == 0) = true := by rw [hemp]; rfl
      have z2 : ((L.length : Nat) : Int) = 0 := by rw [hemp]; rfl
      have HEM := Lib.hid hemp
      clear hc hfew hwq hemp z2
      go_enter Try.func39, Try.ntmps39
      go_wp2_with (first
        | (go_at_call 86; refine (find_anyF _ hB hcl hr1 hl1 hll).mono ?_; unfold RetFindF; rw [HL.out, HE.out]; rintro e w1 ⟨vs, A1, c1, hvs, hone, hval, rfl, e1, e2, e3, hb1, hf1⟩; have HS := Lib.hid (hval rfl); have HV := Lib.hid hvs; have HO := Lib.hid hone; clear hvs hone hval; have hbq1 := hbq.below hb1 (by simp))
        | (refine wpList_store_row (by rfl) 106 _ _ (by rfl) w1.heap.size _ (by rfl) (by rfl) 106 Try.zeroCells106 (Blk.new w1 106 _) (info106s HV.out) (Try.zeroCells106_size.trans HV.out.symm) HO.out ?_; have hbq2 := (hbq1.alloc (.cells Try.zeroCells106 106)).farRow (g' := w1.heap.size) (by have := hbq1.lt; omega) vs; have hbq3 := hbq2.alloc (.cells #[.slice A1 L.length c1, .slice none 0 0] 56); obtain ⟨m0, m1, m2, m3⟩ : (((w1.alloc (.cells Try.zeroCells106 106)).setRow w1.heap.size vs).alloc (.cells #[.slice A1 L.length c1, .slice none 0 0] 56)).cell? ⟨w.heap.size + 1, 0, none⟩ = some (.slice none 0 0) ∧ (((w1.alloc (.cells Try.zeroCells106 106)).setRow w1.heap.size vs).alloc (.cells #[.slice A1 L.length c1, .slice none 0 0] 56)).cell? ⟨w.heap.size + 1, 1, none⟩ = some (.slice none 0 0) ∧ (((w1.alloc (.cells Try.zeroCells106 106)).setRow w1.heap.size vs).alloc (.cells #[.slice A1 L.length c1, .slice none 0 0] 56)).frozen? ⟨w.heap.size + 1, 0, none⟩ = false ∧ (((w1.alloc (.cells Try.zeroCells106 106)).setRow w1.heap.size vs).alloc (.cells #[.slice A1 L.length c1, .slice none 0 0] 56)).frozen? ⟨w.heap.size + 1, 1, none⟩ = false := ⟨hbq3.cell 0, hbq3.cell 1, hbq3.frozen 0, hbq3.frozen 1⟩))
      have hz1 := hb1.size
      simp at hz1
      refine bodyPost_ret (results_cell2 (g := w.heap.size + 1) rfl _ _ 56 _ (0, 0) _ rfl (((hbq2.alloc _).store 0 (.slice A1 L.length c1)).store 1 (.slice none 0 0)) Try.underlying56 rfl info56) rfl ?_
      rw [HEM.out] at e1 ⊢
      exact ⟨A1, c1, none, 0, rfl, e1, e2, Nat.le_refl _, by simp [maxLen], Ints.nil, CutsC.nil, (((below_setRow ((below_next hb0 (by simp; omega) hb1).alloc (by omega) _) (by omega) _).alloc (by simp; omega) _).setCell (p := ⟨w.heap.size + 1, 0, none⟩) (by simp) _).setCell (p := ⟨w.heap.size + 1, 1, none⟩) (by simp) _⟩
    case neg =>
      obtain ⟨c0, cs0, hcq, hcu⟩ := cutsOf_cons (n := L.length) hfew hemp
      rw [hcu]
      have hLpos := List.length_pos_iff.2 hemp
      have z1 : (((L.length : Nat) : Int) == 0) = false := by simp; omega
      have z2 : ¬ ((L.length : Nat) : Int) = 0 := by omega
      have hc0 : 0 ≤ c0 ∧ c0 < C := cols_mem hwq (by rw [hcq]; simp)
      have HCQ := Lib.hid hcq
      have hos : ∀ x ∈ opens C B F (isIn cl) c0, 0 ≤ x ∧ x < C := fun x hx => opens_mem hx
      have hol := opens_len (C := C) (B := B) (F := F) (p := isIn cl) (c := c0) k2
      have HSV : Hid (∀ (sl : Value) (W : World), Calls Try.prog 88 #[.agg (sv C R B F sl (isIn cl) (isIn (colm C l))), .int .i64 c0] W (RetInts W (opens C B F (isIn cl) c0))) := fun sl W => sStands_any C R B F sl _ _ c0 W (by omega) k2 hc0.1 hc0.2 k3 k4 k5
      have HCV : Hid (∀ (sl : Value) (f : Int), 0 ≤ f → f < C → ∀ W : World, Calls Try.prog 89 #[.agg (sv C R B F sl (isIn cl) (isIn (colm C l))), .int .i64 f, .int .i64 ((L.length : Nat) - 1 : Int)] W fun e w' => ∃ A c, e = .returned (.agg #[.int .i64 f, .slice A (cutL C B F (isIn cl) (isIn (colm C l)) f ((L.length : Nat) - 1 : Int)).length c]) ∧ w'.ownsRow W.heap.size 3 1 (.slice A (cutL C B F (isIn cl) (isIn (colm C l)) f ((L.length : Nat) - 1 : Int)).length c) (cutL C B F (isIn cl) (isIn (colm C l)) f ((L.length : Nat) - 1 : Int)).length ((cutL C B F (isIn cl) (isIn (colm C l)) f ((L.length : Nat) - 1 : Int)).map (Value.int .i64)) ∧ Below W.heap.size W w') := fun sl f f1 f2 W => cut_own C R B F sl _ _ f _ W (by omega) k2 f1 f2 k3 k4 k5
      generalize hcf : (fun f => cutL C B F (isIn cl) (isIn (colm C l)) f ((L.length : Nat) - 1 : Int)) = cutf
      have HCF : Hid (∀ f, cutL C B F (isIn cl) (isIn (colm C l)) f ((L.length : Nat) - 1 : Int) = cutf f) := fun f => by rw [← hcf]
      have hgoal : (opens C B F (isIn cl) c0).map (fun f => (f, cutL C B F (isIn cl) (isIn (colm C l)) f ((L.length : Nat) - 1 : Int))) = (opens C B F (isIn cl) c0).map (fun f => (f, cutf f)) := by rw [← hcf]
      rw [hgoal]
      generalize opens C B F (isIn cl) c0 = os at *
      have HOS := Lib.hid hos
      clear hcu hfew hemp hgoal hcf hos
      go_enter Try.func39, Try.ntmps39
      go_wp2_with (first
        | (go_at_call 86; refine (find_anyF _ hB hcl hr1 hl1 hll).mono ?_; unfold RetFindF; rw [HL.out, HE.out]; rintro e w1 ⟨vs, A1, c1, hvs, hone, hval, rfl, e1, e2, e3, hb1, hf1⟩; have HS := Lib.hid (hval rfl); have HV := Lib.hid hvs; have HO := Lib.hid hone; clear hvs hone hval; have hbq1 := hbq.below hb1 (by simp))
        | (refine wpList_store_row (by rfl) 106 _ _ (by rfl) w1.heap.size _ (by rfl) (by rfl) 106 Try.zeroCells106 (Blk.new w1 106 _) (info106s HV.out) (Try.zeroCells106_size.trans HV.out.symm) HO.out ?_; have hbq2 := (hbq1.alloc (.cells Try.zeroCells106 106)).farRow (g' := w1.heap.size) (by have := hbq1.lt; omega) vs; skip))
      have hz1 := hb1.size
      simp at hz1
      have hf2 : ∀ ad, A1 = some ad → w.heap.size + 2 ≤ ad.block := fun ad h => by have := hf1 ad h; simp at this; omega
      have HQ := hbq2.alloc (.cells #[.slice A1 L.length c1, .slice none 0 0] 56)
      have H9 : Blk (((w1.alloc (.cells Try.zeroCells106 106)).setRow w1.heap.size vs).alloc (.cells #[.slice A1 L.length c1, .slice none 0 0] 56)) (w1.heap.size + 1) 56 #[.slice A1 L.length c1, .slice none 0 0] := Blk.newAt (by simp)
      have H6 : Blk (((w1.alloc (.cells Try.zeroCells106 106)).setRow w1.heap.size vs).alloc (.cells #[.slice A1 L.length c1, .slice none 0 0] 56)) w1.heap.size 106 vs := ((Blk.new w1 106 Try.zeroCells106).setRow vs).alloc _
      have hbX : Below w1.heap.size w1 (((w1.alloc (.cells Try.zeroCells106 106)).setRow w1.heap.size vs).alloc (.cells #[.slice A1 L.length c1, .slice none 0 0] 56)) := (below_setRow (below_new _ _) (Nat.le_refl _) _).alloc (by simp) _
      have hbW := below_next (below_next hb0 (by simp; omega) hb1) (by omega) hbX
      have hI1 := e3.below hbX
      have hszX : w1.heap.size + 2 = (((w1.alloc (.cells Try.zeroCells106 106)).setRow w1.heap.size vs).alloc (.cells #[.slice A1 L.length c1, .slice none 0 0] 56)).heap.size := by simp
      clear hbX hb1 hb0 hbq hbq1 hbq2 e3 hr1 hl1
      generalize ((w1.alloc (.cells Try.zeroCells106 106)).setRow w1.heap.size vs).alloc (.cells #[.slice A1 L.length c1, .slice none 0 0] 56) = W2 at HQ H9 H6 hbW hI1 hszX ⊢
      generalize w1.heap.size = g6 at *
      obtain ⟨vl, hvl⟩ : ∃ vl : List Value, vs = vl.toArray := ⟨vs.toList, by simp⟩
      have HS2 : Hid (vl.toArray = sv C R B F (.slice A cl.length cap) (isIn cl) (isIn (colm C l))) := hvl.symm.trans HS.out
      have H6q : Blk W2 g6 106 (sv C R B F (.slice A cl.length cap) (isIn cl) (isIn (colm C l))) := by rw [← HS.out]; exact H6
      have hrq := H6q.svWantedRow
      obtain ⟨ql, hql⟩ : ∃ ql : List Value, (mk (isIn (colm C l))).toList = ql := ⟨_, rfl⟩
      have HLIST : Hid (∀ W : World, Calls Try.prog 78 #[.agg ql.toArray] W (RetInts W (cols (isIn (colm C l))))) := fun W => by
        rw [← hql, Array.toArray_toList]
        exact list_any _ W
      have hqn : Hid ((Try.prog.info? 93).map (·.size) = some ql.length) := by unfold Hid; rw [← hql]; exact info93l _
      have hvn : Hid ((Try.prog.info? 106).map (·.size) = some vl.length) := by
        unfold Hid
        have := info106s HV.out
        rw [hvl] at this
        simpa using this
      have HSTD : Hid (∀ W : World, Calls Try.prog 88 #[.agg vl.toArray, .int .i64 c0] W (RetInts W os)) := fun W => by rw [HS2.out]; exact HSV.out _ W
      have HCUT : Hid (∀ f : Int, 0 ≤ f → f < C → ∀ W : World, Calls Try.prog 89 #[.agg vl.toArray, .int .i64 f, .int .i64 ((L.length : Nat) - 1 : Int)] W fun e w' => ∃ A c, e = .returned (.agg #[.int .i64 f, .slice A (cutf f).length c]) ∧ w'.ownsRow W.heap.size 3 1 (.slice A (cutf f).length c) (cutf f).length ((cutf f).map (Value.int .i64)) ∧ Below W.heap.size W w') := fun f f1 f2 W => by
        have := HCV.out (.slice A cl.length cap) f f1 f2 W
        rw [HCF.out f, ← HS2.out] at this
        exact this
      rw [hql] at hrq
      subst hvl
      clear H6q HSV HCV HCF hcq hql HS HO
      have u1 := Try.underlying106
      have u2 := Try.underlying93
      have u3 := hvn.out
      have u4 := hqn.out
      refine wp_region_held_drew (S := fun w' => Blk w' g6 106 vl.toArray ∧ w'.rangeAt g6 125 ql) (by kernel_rfl) ⟨H6, hrq⟩ (fun hHeld => ?_)
      (refine wpAnyH_take (i := 0) (v := .agg (vl.toArray)) rfl (by kernel_rfl) (by kernel_rfl) (by kernel_rfl) (fun _ _ _ h => h) (yieldsIf_load_row (by rfl) 106 _ rfl _ rfl 106 _ (0, 0) _ (fun w5 hS5 => hS5.1) u1 rfl (by simpa using u3)) (by assumption) ?_; (try simp only [List.getElem_toArray, List.getElem_cons_zero, List.getElem_cons_succ, Act.put, List.setIfInBounds_toArray, List.set_cons_zero, List.set_cons_succ]))
      (refine wpAnyH_take (i := 1) (v := ?_) rfl (by kernel_rfl) (by kernel_rfl) (by kernel_rfl) (fun _ _ _ h => h) (Or.inl ⟨by rfl, ?_⟩) (by assumption) ?_; rotate_left; (· intro w5 hS5; (try dsimp only at hS5); go_simp <;> with_reducible rfl); (try simp only [List.getElem_toArray, List.getElem_cons_zero, List.getElem_cons_succ, Act.put, List.setIfInBounds_toArray, List.set_cons_zero, List.set_cons_succ]))
      (refine wpAnyH_take (i := 2) (v := .agg ql.toArray) rfl (by kernel_rfl) (by kernel_rfl) (by kernel_rfl) (fun _ _ _ h => h) (yieldsIf_load_mid (by rfl) 93 _ rfl g6 125 rfl ql _ (fun w5 hS5 => hS5.2) u2 rfl u4) (by assumption) ?_; (try simp only [List.getElem_toArray, List.getElem_cons_zero, List.getElem_cons_succ, Act.put, List.setIfInBounds_toArray, List.set_cons_zero, List.set_cons_succ]))
      (refine wpAnyH_take (i := 8) (v := ?_) rfl (by kernel_rfl) (by kernel_rfl) (by kernel_rfl) (fun _ _ _ h => h) (Or.inl ⟨by rfl, ?_⟩) (by assumption) ?_; rotate_left; (· intro w5 hS5; (try dsimp only at hS5); go_simp <;> with_reducible rfl); (try simp only [List.getElem_toArray, List.getElem_cons_zero, List.getElem_cons_succ, Act.put, List.setIfInBounds_toArray, List.set_cons_zero, List.set_cons_succ]))
      clear u1 u2 u3 u4
      (refine wpAnyH_ready (rs := [3]) (by kernel_rfl) (by simp) ?_; refine AllReadyH.cons rfl (fun K hK => ?_) AllReadyH.nil)
      go_simp
      refine (HLIST.out _).mono ?_
      rw [HCQ.out]
      rintro e w3 ⟨A3, c3, rfl, l1, l2, l3, hb3⟩
      have hz3 : W2.heap.size ≤ w3.heap.size := hb3.size
      have H63 := (show Blk W2.drew g6 106 vl.toArray from H6).below hb3 (show g6 < W2.heap.size by omega)
      have hrq3 : w3.rangeAt g6 125 ql := fun j v hv => (hb3.cell (p := ⟨g6, 125 + j, none⟩) (show g6 < W2.heap.size by omega)).trans (hrq j v hv)
      obtain ⟨a3, hA3, ha3, hc3⟩ := l3 0 c0 rfl
      subst hA3
      have hc3 : w3.cell? a3 = some (.int .i64 c0) := hc3
      have hcl3 : (0 : Int) < (((c0 :: cs0).length : Nat) : Int) := (by have h0 : 0 < (c0 :: cs0).length := (by simp); omega)
      refine hK.out _ _ ⟨H63, hrq3⟩ (fun hHeld => ?_)
      clear hK K
      (try simp only [List.getElem_toArray, List.getElem_cons_zero, List.getElem_cons_succ, Act.put, List.setIfInBounds_toArray, List.set_cons_zero, List.set_cons_succ])
      (refine wpAnyH_take (i := 4) (v := ?_) rfl (by kernel_rfl) (by kernel_rfl) (by kernel_rfl) (fun _ _ _ h => h) (Or.inl ⟨by rfl, ?_⟩) (by assumption) ?_; rotate_left; (· intro w5 hS5; (try dsimp only at hS5); go_simp <;> with_reducible rfl); (try simp only [List.getElem_toArray, List.getElem_cons_zero, List.getElem_cons_succ, Act.put, List.setIfInBounds_toArray, List.set_cons_zero, List.set_cons_succ]))
      (refine wpAnyH_ready (rs := [5]) (by kernel_rfl) (by simp) ?_; refine AllReadyH.cons rfl (fun K hK => ?_) AllReadyH.nil)
      go_simp
      refine hK.out _ _ ⟨H63, hrq3⟩ (fun hHeld => ?_)
      clear hK K
      (try simp only [List.getElem_toArray, List.getElem_cons_zero, List.getElem_cons_succ, Act.put, List.setIfInBounds_toArray, List.set_cons_zero, List.set_cons_succ])
      (refine wpAnyH_ready (rs := [6]) (by kernel_rfl) (by simp) ?_; refine AllReadyH.cons rfl (fun K hK => ?_) AllReadyH.nil)
      go_simp
      refine (HSTD.out _).mono ?_
      rintro e w4 ⟨A4, c4, rfl, m1, m2, m3, hb4⟩
      have hz4 := hb4.size
      have H64 := H63.below hb4 H63.lt
      have hrq4 : w4.rangeAt g6 125 ql := fun j v hv => (hb4.cell (p := ⟨g6, 125 + j, none⟩) H63.lt).trans (hrq3 j v hv)
      refine hK.out _ _ ⟨H64, hrq4⟩ (fun hHeld => ?_)
      clear hK K
      (try simp only [List.getElem_toArray, List.getElem_cons_zero, List.getElem_cons_succ, Act.put, List.setIfInBounds_toArray, List.set_cons_zero, List.set_cons_succ])
      (refine wpAnyH_take (i := 7) (v := ?_) rfl (by kernel_rfl) (by kernel_rfl) (by kernel_rfl) (fun _ _ _ h => h) (Or.inl ⟨by rfl, ?_⟩) (by assumption) ?_; rotate_left; (· intro w5 hS5; (try dsimp only at hS5); go_simp <;> with_reducible rfl); (try simp only [List.getElem_toArray, List.getElem_cons_zero, List.getElem_cons_succ, Act.put, List.setIfInBounds_toArray, List.set_cons_zero, List.set_cons_succ]))
      refine wpAnyH_done (by kernel_rfl) ?_ _
      clear hHeld
      have hb34 : Below W2.heap.size W2 w4 := below_next ((Below.refl _ _).drew.trans hb3) hz3 hb4
      have H94 := H9.below hb34 H9.lt
      have HQ4 := HQ.below hb34 HQ.lt
      have hI4 : Ints w4 g6 A1 L := hI1.below (hb34.mono (by omega))
      have hbw4 : Below w.heap.size w w4 := below_next hbW hbW.size hb34
      have hg4 : g6 + 2 ≤ w4.heap.size := by omega
      have HfO : Hid (os ≠ [] → ∀ ad, A4 = some ad → g6 + 1 ≠ ad.block) := fun hne ad had => by
        obtain ⟨ad', h1, _, h3⟩ := m3.get (List.length_pos_iff.2 hne)
        rw [had] at h1
        cases h1
        have := H94.notInt h3
        rwa [addr_block] at this
      have hwr : IntKind.i64.wrap ((L.length : Nat) - 1 : Int) = (L.length : Nat) - 1 := IntWalk.i64_in _ (by omega)
      clear hb34 hb3 hb4 H63 hrq3 hrq4 hrq H6 H9 HQ hI1 hbW l3 hc3
      go_wp2_with fail
      go_loopw [11, 37] (fun _ i w6 => ∃ (k : Nat) (G : Option Addr) (gap : Nat) (cv : List CutV), k ≤ os.length ∧ i = .int .i64 k ∧ Hid (cv.map (·.1) = (os.take k).map fun f => (f, cutf f)) ∧ Below w.heap.size w w6 ∧ Blk w6 g6 106 vl.toArray ∧ Blk w6 (w.heap.size + 1) 56 #[.slice none 0 0, .slice none 0 0] ∧ Blk w6 (g6 + 1) 56 #[.slice A1 L.length c1, .slice G cv.length gap] ∧ OwnC w6 w4.heap.size G gap cv ∧ Ints w6 w4.heap.size A4 os ∧ Ints w6 g6 A1 L ∧ w4.heap.size ≤ w6.heap.size)
        (fun _ i _ => os.length - (intOf i).toNat)
      case atStart => exact ⟨0, none, 0, [], Nat.zero_le _, rfl, rfl, hbw4, H64, HQ4, H94, OwnC.nil _ _, m3, hI4, Nat.le_refl _⟩
      case round =>
        obtain ⟨k, G, gap, cv, hk, rfl, hmap, hbr, HB6, HBQ, HB9, hoc, hIo, hIL, hzr⟩ := hrel
        have y1 : wr.cell? ⟨g6 + 1, 1, none⟩ = some (.slice G cv.length gap) := HB9.cell 1
        have hlt6 : g6 < wr.heap.size := HB6.lt
        have hcvl : cv.length = k := by have := congrArg List.length hmap.out; simp at this; omega
        have hcv2 : cv.length ≤ 1000000 := by omega
        clear hcvl
        by_cases hlt : k < os.length
        · obtain ⟨ao, hA4, haob, hco⟩ := hIo.get hlt
          subst hA4
          have hlt2 : (k : Int) < (os.length : Int) := by omega
          have hf := HOS.out _ (List.getElem_mem hlt)
          have hO9 := HfO.out (List.length_pos_iff.1 (by omega)) ao rfl
          have hmap2 : Hid ((os.take (k + 1)).map (fun f => (f, cutf f)) = cv.map (·.1) ++ [(os[k], cutf os[k])]) := by
            unfold Hid
            rw [List.take_succ_eq_append_getElem hlt, List.map_append, ← hmap.out]
            rfl
          have HCF := Lib.hid (HCUT.out os[k] hf.1 hf.2)
          generalize os[k] = f at *
          generalize cutf f = cf at *
          go_wp2_with fail
          have u1 := Try.underlying106
          have u3 := hvn.out
          refine wp_region_held_drew (S := fun w' => Blk w' g6 106 vl.toArray) (by kernel_rfl) HB6 (fun hHeld => ?_)
          (refine wpAnyH_take (i := 0) (v := ?_) rfl (by kernel_rfl) (by kernel_rfl) (by kernel_rfl) (fun _ _ _ h => h) (Or.inl ⟨by rfl, ?_⟩) (by assumption) ?_; rotate_left; (· intro w5 hS5; (try dsimp only at hS5); go_simp <;> with_reducible rfl); (try simp only [List.getElem_toArray, List.getElem_cons_zero, List.getElem_cons_succ, Act.put, List.setIfInBounds_toArray, List.set_cons_zero, List.set_cons_succ]))
          (refine wpAnyH_take (i := 2) (v := .agg (vl.toArray)) rfl (by kernel_rfl) (by kernel_rfl) (by kernel_rfl) (fun _ _ _ h => h) (yieldsIf_load_row (by rfl) 106 _ rfl _ rfl 106 _ (0, 0) _ (fun w5 hS5 => hS5) u1 rfl (by simpa using u3)) (by assumption) ?_; (try simp only [List.getElem_toArray, List.getElem_cons_zero, List.getElem_cons_succ, Act.put, List.setIfInBounds_toArray, List.set_cons_zero, List.set_cons_succ]))
          (refine wpAnyH_take (i := 3) (v := ?_) rfl (by kernel_rfl) (by kernel_rfl) (by kernel_rfl) (fun _ _ _ h => h) (Or.inl ⟨by rfl, ?_⟩) (by assumption) ?_; rotate_left; (· intro w5 hS5; (try dsimp only at hS5); go_simp <;> with_reducible rfl); (try simp only [List.getElem_toArray, List.getElem_cons_zero, List.getElem_cons_succ, Act.put, List.setIfInBounds_toArray, List.set_cons_zero, List.set_cons_succ]))
          (refine wpAnyH_take (i := 4) (v := ?_) rfl (by kernel_rfl) (by kernel_rfl) (by kernel_rfl) (fun _ _ _ h => h) (Or.inl ⟨by rfl, ?_⟩) (by assumption) ?_; rotate_left; (· intro w5 hS5; (try dsimp only at hS5); go_simp <;> with_reducible rfl); (try simp only [List.getElem_toArray, List.getElem_cons_zero, List.getElem_cons_succ, Act.put, List.setIfInBounds_toArray, List.set_cons_zero, List.set_cons_succ]))
          (refine wpAnyH_take (i := 5) (v := ?_) rfl (by kernel_rfl) (by kernel_rfl) (by kernel_rfl) (fun _ _ _ h => h) (Or.inl ⟨by rfl, ?_⟩) (by assumption) ?_; rotate_left; (· intro w5 hS5; (try dsimp only at hS5); go_simp <;> with_reducible rfl); (try simp only [List.getElem_toArray, List.getElem_cons_zero, List.getElem_cons_succ, Act.put, List.setIfInBounds_toArray, List.set_cons_zero, List.set_cons_succ]))
          (refine wpAnyH_take (i := 6) (v := ?_) rfl (by kernel_rfl) (by kernel_rfl) (by kernel_rfl) (fun _ _ _ h => h) (Or.inl ⟨by rfl, ?_⟩) (by assumption) ?_; rotate_left; (· intro w5 hS5; (try dsimp only at hS5); go_simp <;> with_reducible rfl); (try simp only [List.getElem_toArray, List.getElem_cons_zero, List.getElem_cons_succ, Act.put, List.setIfInBounds_toArray, List.set_cons_zero, List.set_cons_succ]))
          clear u1 u3
          refine wpAnyH_ready (rs := [1, 7]) (by kernel_rfl) (by simp) ?_
          refine AllReadyH.cons rfl (fun K hK => ?_) (AllReadyH.cons rfl (fun K hK => ?_) AllReadyH.nil)
          · go_simp
            refine hK.out _ _ (HB6) (fun hHeld => ?_)
            clear hK K
            (try simp only [List.getElem_toArray, List.getElem_cons_zero, List.getElem_cons_succ, Act.put, List.setIfInBounds_toArray, List.set_cons_zero, List.set_cons_succ])
            (refine wpAnyH_ready (rs := [7]) (by kernel_rfl) (by simp) ?_; refine AllReadyH.cons rfl (fun K hK => ?_) AllReadyH.nil)
            go_simp
            refine (HCF.out _).mono ?_
            rintro e w5 ⟨A5, c5, rfl, hown5, hb5⟩
            have hz5 : wr.heap.size ≤ w5.heap.size := hb5.size
            have hb5 : Below wr.heap.size wr w5 := (Below.refl _ _).drew.trans hb5
            have H65 := HB6.below hb5 hlt6
            have H95 := HB9.below hb5 HB9.lt
            have e5 : w5.cell? ⟨g6 + 1, 1, none⟩ = some (.slice G cv.length gap) := H95.cell 1
            have hoc5 := hoc.behind hb5
            refine hK.out _ _ H65 (fun hHeld => ?_)
            clear hK K
            (try simp only [List.getElem_toArray, List.getElem_cons_zero, List.getElem_cons_succ, Act.put, List.setIfInBounds_toArray, List.set_cons_zero, List.set_cons_succ])
            (refine wpAnyH_ready (rs := [8]) (by kernel_rfl) (by simp) ?_; refine AllReadyH.cons rfl (fun K hK => ?_) AllReadyH.nil)
            go_simp
            have e6 : (w5.alloc (.cells #[.int .i64 f, .slice A5 cf.length c5] 104)).cell? ⟨g6 + 1, 1, none⟩ = some (.slice G cv.length gap) := (H95.alloc _).cell 1
            refine hK.out _ _ (H65.alloc _) (fun hHeld => ?_)
            clear hK K
            (try simp only [List.getElem_toArray, List.getElem_cons_zero, List.getElem_cons_succ, Act.put, List.setIfInBounds_toArray, List.set_cons_zero, List.set_cons_succ])
            (refine wpAnyH_ready (rs := [9]) (by kernel_rfl) (by simp) ?_; refine AllReadyH.cons rfl (fun K hK => ?_) AllReadyH.nil)
            rw [if_pos (by rfl)]
            refine wp_appC _ _ (by rfl) w4.heap.size cv ((f, cf), (A5, c5)) G gap (by rfl) (hoc5.behind (below_new _ _)) w5.heap.size (by rfl) (Blk.new _ _ _) ((own_less hown5 hzr).alloc _) hcv2 (by simp; omega) ?_
            intro G7 gap7 w7 hoc7 hb7
            have hbT : Below w4.heap.size wr w7 := ((hb5.mono hzr).alloc (by omega) _).trans hb7
            have H67 := HB6.below hbT (by omega)
            have H97 := HB9.below hbT (by omega)
            have HQ7 := HBQ.below hbT (by omega)
            refine hK.out _ _ H67 (fun hHeld => ?_)
            clear hK K
            (try simp only [List.getElem_toArray, List.getElem_cons_zero, List.getElem_cons_succ, Act.put, List.setIfInBounds_toArray, List.set_cons_zero, List.set_cons_succ])
            (refine wpAnyH_take (i := 10) (v := ?_) rfl (by kernel_rfl) (by kernel_rfl) (by kernel_rfl) (fun _ _ _ h => h) (Or.inl ⟨by rfl, ?_⟩) (by assumption) ?_; rotate_left; (· intro w5 hS5; (try dsimp only at hS5); go_simp <;> with_reducible rfl); (try simp only [List.getElem_toArray, List.getElem_cons_zero, List.getElem_cons_succ, Act.put, List.setIfInBounds_toArray, List.set_cons_zero, List.set_cons_succ]))
            (refine wpAnyH_ready (rs := [11]) (by kernel_rfl) (by simp) ?_; refine AllReadyH.cons rfl (fun K hK => ?_) AllReadyH.nil)
            have n1 : w7.cell? ⟨g6 + 1, 1, none⟩ = some (.slice G cv.length gap) := H97.cell 1
            have n2 := H97.frozen 1
            go_simp
            clear n1 n2
            refine hK.out _ _ (H67.far (p := ⟨g6 + 1, 1, none⟩) (by simp) _) (fun hHeld => ?_)
            clear hK K
            (try simp only [List.getElem_toArray, List.getElem_cons_zero, List.getElem_cons_succ, Act.put, List.setIfInBounds_toArray, List.set_cons_zero, List.set_cons_succ])
            refine wpAnyH_done (by kernel_rfl) ?_ _
            clear hHeld
            go_wp2_with fail
            go_roundw
            case rel =>
              refine ⟨k + 1, G7, gap7, cv ++ [((f, cf), (A5, c5))], by omega, by go_num, ?_, ?_, H67.far (p := ⟨g6 + 1, 1, none⟩) (by simp) _, HQ7.far (p := ⟨g6 + 1, 1, none⟩) (by simp; omega) _, (by rw [show (cv ++ [((f, cf), (A5, c5))]).length = cv.length + 1 by simp]; exact H97.store 1 _), hoc7.keepCell (by simp; omega) _, (hIo.below hbT).setNew (fun ad h => by cases h; exact hO9) _, (hIL.below (hbT.mono (by omega))).below ((Below.refl _ _).setCell (by simp) _), ?_⟩
              · unfold Hid; rw [hmap2.out]; simp
              · exact (hbr.trans (hbT.mono (by have := hbw4.size; omega))).setCell (by simp; omega) _
              · have := hbT.size; simp [World.setCell]; omega
            case measure => simp [intOf]; try omega
          · go_simp
            refine (HCF.out _).mono ?_
            rintro e w5 ⟨A5, c5, rfl, hown5, hb5⟩
            have hz5 : wr.heap.size ≤ w5.heap.size := hb5.size
            have hb5 : Below wr.heap.size wr w5 := (Below.refl _ _).drew.trans hb5
            have H65 := HB6.below hb5 hlt6
            have H95 := HB9.below hb5 HB9.lt
            have e5 : w5.cell? ⟨g6 + 1, 1, none⟩ = some (.slice G cv.length gap) := H95.cell 1
            have hoc5 := hoc.behind hb5
            refine hK.out _ _ H65 (fun hHeld => ?_)
            clear hK K
            (try simp only [List.getElem_toArray, List.getElem_cons_zero, List.getElem_cons_succ, Act.put, List.setIfInBounds_toArray, List.set_cons_zero, List.set_cons_succ])
            refine wpAnyH_ready (rs := [1, 8]) (by kernel_rfl) (by simp) ?_
            refine AllReadyH.cons rfl (fun K hK => ?_) (AllReadyH.cons rfl (fun K hK => ?_) AllReadyH.nil)
            · go_simp
              refine hK.out _ _ (H65) (fun hHeld => ?_)
              clear hK K
              (try simp only [List.getElem_toArray, List.getElem_cons_zero, List.getElem_cons_succ, Act.put, List.setIfInBounds_toArray, List.set_cons_zero, List.set_cons_succ])
              (refine wpAnyH_ready (rs := [8]) (by kernel_rfl) (by simp) ?_; refine AllReadyH.cons rfl (fun K hK => ?_) AllReadyH.nil)
              go_simp
              have e6 : (w5.alloc (.cells #[.int .i64 f, .slice A5 cf.length c5] 104)).cell? ⟨g6 + 1, 1, none⟩ = some (.slice G cv.length gap) := (H95.alloc _).cell 1
              refine hK.out _ _ (H65.alloc _) (fun hHeld => ?_)
              clear hK K
              (try simp only [List.getElem_toArray, List.getElem_cons_zero, List.getElem_cons_succ, Act.put, List.setIfInBounds_toArray, List.set_cons_zero, List.set_cons_succ])
              (refine wpAnyH_ready (rs := [9]) (by kernel_rfl) (by simp) ?_; refine AllReadyH.cons rfl (fun K hK => ?_) AllReadyH.nil)
              rw [if_pos (by rfl)]
              refine wp_appC _ _ (by rfl) w4.heap.size cv ((f, cf), (A5, c5)) G gap (by rfl) (hoc5.behind (below_new _ _)) w5.heap.size (by rfl) (Blk.new _ _ _) ((own_less hown5 hzr).alloc _) hcv2 (by simp; omega) ?_
              intro G7 gap7 w7 hoc7 hb7
              have hbT : Below w4.heap.size wr w7 := ((hb5.mono hzr).alloc (by omega) _).trans hb7
              have H67 := HB6.below hbT (by omega)
              have H97 := HB9.below hbT (by omega)
              have HQ7 := HBQ.below hbT (by omega)
              refine hK.out _ _ H67 (fun hHeld => ?_)
              clear hK K
              (try simp only [List.getElem_toArray, List.getElem_cons_zero, List.getElem_cons_succ, Act.put, List.setIfInBounds_toArray, List.set_cons_zero, List.set_cons_succ])
              (refine wpAnyH_take (i := 10) (v := ?_) rfl (by kernel_rfl) (by kernel_rfl) (by kernel_rfl) (fun _ _ _ h => h) (Or.inl ⟨by rfl, ?_⟩) (by assumption) ?_; rotate_left; (· intro w5 hS5; (try dsimp only at hS5); go_simp <;> with_reducible rfl); (try simp only [List.getElem_toArray, List.getElem_cons_zero, List.getElem_cons_succ, Act.put, List.setIfInBounds_toArray, List.set_cons_zero, List.set_cons_succ]))
              (refine wpAnyH_ready (rs := [11]) (by kernel_rfl) (by simp) ?_; refine AllReadyH.cons rfl (fun K hK => ?_) AllReadyH.nil)
              have n1 : w7.cell? ⟨g6 + 1, 1, none⟩ = some (.slice G cv.length gap) := H97.cell 1
              have n2 := H97.frozen 1
              go_simp
              clear n1 n2
              refine hK.out _ _ (H67.far (p := ⟨g6 + 1, 1, none⟩) (by simp) _) (fun hHeld => ?_)
              clear hK K
              (try simp only [List.getElem_toArray, List.getElem_cons_zero, List.getElem_cons_succ, Act.put, List.setIfInBounds_toArray, List.set_cons_zero, List.set_cons_succ])
              refine wpAnyH_done (by kernel_rfl) ?_ _
              clear hHeld
              go_wp2_with fail
              go_roundw
              case rel =>
                refine ⟨k + 1, G7, gap7, cv ++ [((f, cf), (A5, c5))], by omega, by go_num, ?_, ?_, H67.far (p := ⟨g6 + 1, 1, none⟩) (by simp) _, HQ7.far (p := ⟨g6 + 1, 1, none⟩) (by simp; omega) _, (by rw [show (cv ++ [((f, cf), (A5, c5))]).length = cv.length + 1 by simp]; exact H97.store 1 _), hoc7.keepCell (by simp; omega) _, (hIo.below hbT).setNew (fun ad h => by cases h; exact hO9) _, (hIL.below (hbT.mono (by omega))).below ((Below.refl _ _).setCell (by simp) _), ?_⟩
                · unfold Hid; rw [hmap2.out]; simp
                · exact (hbr.trans (hbT.mono (by have := hbw4.size; omega))).setCell (by simp; omega) _
                · have := hbT.size; simp [World.setCell]; omega
              case measure => simp [intOf]; try omega
            · go_simp
              have e6 : (w5.alloc (.cells #[.int .i64 f, .slice A5 cf.length c5] 104)).cell? ⟨g6 + 1, 1, none⟩ = some (.slice G cv.length gap) := (H95.alloc _).cell 1
              refine hK.out _ _ (H65.alloc _) (fun hHeld => ?_)
              clear hK K
              (try simp only [List.getElem_toArray, List.getElem_cons_zero, List.getElem_cons_succ, Act.put, List.setIfInBounds_toArray, List.set_cons_zero, List.set_cons_succ])
              (refine wpAnyH_ready (rs := [1]) (by kernel_rfl) (by simp) ?_; refine AllReadyH.cons rfl (fun K hK => ?_) AllReadyH.nil)
              go_simp
              refine hK.out _ _ (H65.alloc _) (fun hHeld => ?_)
              clear hK K
              (try simp only [List.getElem_toArray, List.getElem_cons_zero, List.getElem_cons_succ, Act.put, List.setIfInBounds_toArray, List.set_cons_zero, List.set_cons_succ])
              (refine wpAnyH_ready (rs := [9]) (by kernel_rfl) (by simp) ?_; refine AllReadyH.cons rfl (fun K hK => ?_) AllReadyH.nil)
              rw [if_pos (by rfl)]
              refine wp_appC _ _ (by rfl) w4.heap.size cv ((f, cf), (A5, c5)) G gap (by rfl) (hoc5.behind (below_new _ _)) w5.heap.size (by rfl) (Blk.new _ _ _) ((own_less hown5 hzr).alloc _) hcv2 (by simp; omega) ?_
              intro G7 gap7 w7 hoc7 hb7
              have hbT : Below w4.heap.size wr w7 := ((hb5.mono hzr).alloc (by omega) _).trans hb7
              have H67 := HB6.below hbT (by omega)
              have H97 := HB9.below hbT (by omega)
              have HQ7 := HBQ.below hbT (by omega)
              refine hK.out _ _ H67 (fun hHeld => ?_)
              clear hK K
              (try simp only [List.getElem_toArray, List.getElem_cons_zero, List.getElem_cons_succ, Act.put, List.setIfInBounds_toArray, List.set_cons_zero, List.set_cons_succ])
              (refine wpAnyH_take (i := 10) (v := ?_) rfl (by kernel_rfl) (by kernel_rfl) (by kernel_rfl) (fun _ _ _ h => h) (Or.inl ⟨by rfl, ?_⟩) (by assumption) ?_; rotate_left; (· intro w5 hS5; (try dsimp only at hS5); go_simp <;> with_reducible rfl); (try simp only [List.getElem_toArray, List.getElem_cons_zero, List.getElem_cons_succ, Act.put, List.setIfInBounds_toArray, List.set_cons_zero, List.set_cons_succ]))
              (refine wpAnyH_ready (rs := [11]) (by kernel_rfl) (by simp) ?_; refine AllReadyH.cons rfl (fun K hK => ?_) AllReadyH.nil)
              have n1 : w7.cell? ⟨g6 + 1, 1, none⟩ = some (.slice G cv.length gap) := H97.cell 1
              have n2 := H97.frozen 1
              go_simp
              clear n1 n2
              refine hK.out _ _ (H67.far (p := ⟨g6 + 1, 1, none⟩) (by simp) _) (fun hHeld => ?_)
              clear hK K
              (try simp only [List.getElem_toArray, List.getElem_cons_zero, List.getElem_cons_succ, Act.put, List.setIfInBounds_toArray, List.set_cons_zero, List.set_cons_succ])
              refine wpAnyH_done (by kernel_rfl) ?_ _
              clear hHeld
              go_wp2_with fail
              go_roundw
              case rel =>
                refine ⟨k + 1, G7, gap7, cv ++ [((f, cf), (A5, c5))], by omega, by go_num, ?_, ?_, H67.far (p := ⟨g6 + 1, 1, none⟩) (by simp) _, HQ7.far (p := ⟨g6 + 1, 1, none⟩) (by simp; omega) _, (by rw [show (cv ++ [((f, cf), (A5, c5))]).length = cv.length + 1 by simp]; exact H97.store 1 _), hoc7.keepCell (by simp; omega) _, (hIo.below hbT).setNew (fun ad h => by cases h; exact hO9) _, (hIL.below (hbT.mono (by omega))).below ((Below.refl _ _).setCell (by simp) _), ?_⟩
                · unfold Hid; rw [hmap2.out]; simp
                · exact (hbr.trans (hbT.mono (by have := hbw4.size; omega))).setCell (by simp; omega) _
                · have := hbT.size; simp [World.setCell]; omega
              case measure => simp [intOf]; try omega
        · have hfin : Hid (cv.map (·.1) = os.map fun f => (f, cutf f)) := by have := hmap.out; rwa [List.take_of_length_le (by omega)] at this
          have e0 : wr.cell? ⟨g6 + 1, 0, none⟩ = some (.slice A1 L.length c1) := HB9.cell 0
          obtain ⟨n0, n1, n2, n3⟩ : wr.cell? ⟨w.heap.size + 1, 0, none⟩ = some (.slice none 0 0) ∧ wr.cell? ⟨w.heap.size + 1, 1, none⟩ = some (.slice none 0 0) ∧ wr.frozen? ⟨w.heap.size + 1, 0, none⟩ = false ∧ wr.frozen? ⟨w.heap.size + 1, 1, none⟩ = false := ⟨HBQ.cell 0, HBQ.cell 1, HBQ.frozen 0, HBQ.frozen 1⟩
          obtain ⟨oA, oc, hov, o2, o3⟩ := own_form hoc.1
          cases hov
          go_wp2_with fail
          refine bodyPost_ret (results_cell2 (g := w.heap.size + 1) rfl _ _ 56 _ (0, 0) _ rfl ((HBQ.store 0 (.slice A1 L.length c1)).store 1 (.slice G cv.length gap)) Try.underlying56 rfl info56) rfl ?_
          have hml : (os.map fun f => (f, cutf f)).length = cv.length := by rw [← hfin.out]; simp
          refine ⟨A1, c1, G, gap, ?_, e1, e2, by rw [hml]; exact o2, o3, ?_, ?_, ?_⟩
          · rw [hml]; rfl
          · exact ((hIL.setNew (p := ⟨w.heap.size + 1, 0, none⟩) (fun ad h => by have := hf2 ad h; simp; omega) _).setNew (p := ⟨w.heap.size + 1, 1, none⟩) (fun ad h => by have := hf2 ad h; simp; omega) _).more (by simp [World.setCell]; omega)
          · rw [← hfin.out]
            exact ((hoc.keepCell (a := ⟨w.heap.size + 1, 0, none⟩) (by simp; omega) _).keepCell (a := ⟨w.heap.size + 1, 1, none⟩) (by simp; omega) _).cutsC
          · exact (hbr.setCell (p := ⟨w.heap.size + 1, 0, none⟩) (by simp) _).setCell (p := ⟨w.heap.size + 1, 1, none⟩) (by simp) _

end Go.Proofs.Ytnjmkdgglpcfpaa
