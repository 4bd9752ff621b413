import Derived.Test.YtnjmkdgglpcfpaaA38
namespace Go.Proofs.Ytnjmkdgglpcfpaa
open Go.RowKit

/-- as RetInts: and what is handed back lies in new memory -/
def RetIntsF (w : World) (l : List Int) (e : Ending) (w' : World) : Prop :=
  ∃ A c, e = .returned (.slice A l.length c) ∧ l.length ≤ c ∧ c ≤ maxLen ∧ Ints w' w'.heap.size A l ∧ Below w.heap.size w w' ∧ ∀ ad, A = some ad → w.heap.size ≤ ad.block

set_option maxRecDepth 100000 in
set_option maxHeartbeats 1000000 in
theorem turnsF_any (r l : Int) (w : World) (h1 : 0 ≤ r) (h2 : r ≤ 1000) (h3 : 0 ≤ l) (h4 : l ≤ 1000) :
    Calls Try.prog 104 #[.agg #[.int .i64 r, .int .i64 l]] w (RetIntsF w (turnsOf r l)) := by
  have hbk := Blk.new w 123 #[.int .i64 r, .int .i64 l]
  have hb0 := below_new w (.cells #[.int .i64 r, .int .i64 l] 123)
  have d0 := hbk.cell 0
  have d1 := hbk.cell 1
  by_cases c1 : r + l = 0
  · have hT : turnsOf r l = [] := if_pos c1
    have hn : (r + l == 0) = true := by simpa using c1
    rw [hT]
    clear hT
    go_enter Try.func104, Try.ntmps104
    go_wp2_with fail
    go_ret
    exact ⟨none, 0, rfl, Nat.le_refl _, by simp [maxLen], Ints.nil, hb0.alloc (by simp) _, by simp⟩
  · have hn1 : (r + l == 0) = false := by simpa using c1
    by_cases c2 : l = 0
    · have hT : turnsOf r l = [r] := (if_neg c1).trans (if_pos c2)
      have hn2 : (l == 0) = true := by simpa using c2
      rw [hT]
      clear hT
      subst c2
      go_enter Try.func104, Try.ntmps104
      go_wp2_with fail
      go_ret
      exact ⟨_, _, rfl, by simp, by simp [maxLen], Ints.fst (Blk.newAt (by simp)), hb0.alloc (by simp) _, fun ad h => by cases h; simp⟩
    · have hn2 : (l == 0) = false := by simpa using c2
      by_cases c3 : r = 0
      · have hT : turnsOf r l = [-l] := (if_neg c1).trans ((if_neg c2).trans ((if_pos c3).trans (by rw [c3, Int.zero_add])))
        have hn3 : (r == 0) = true := by simpa using c3
        rw [hT]
        clear hT
        subst c3
        go_enter Try.func104, Try.ntmps104
        go_wp2_with fail
        go_ret
        exact ⟨_, _, rfl, by simp, by simp [maxLen], Ints.snd (Blk.newAt (by simp)), hb0.alloc (by simp) _, fun ad h => by cases h; simp⟩
      · have hn3 : (r == 0) = false := by simpa using c3
        by_cases c4 : l < r
        · have hT : turnsOf r l = [-l, r + l] := (if_neg c1).trans ((if_neg c2).trans ((if_neg c3).trans (if_pos c4)))
          have hn4 : decide (l < r) = true := decide_eq_true c4
          rw [hT]
          clear hT
          go_enter Try.func104, Try.ntmps104
          go_wp2_with fail
          go_ret
          exact ⟨_, _, rfl, by simp, by simp [maxLen], Ints.pair (Blk.newAt (by simp)), (hb0.alloc (by simp) _).alloc (by simp; omega) _, fun ad h => by cases h; simp; try omega⟩
        · have hT : turnsOf r l = [r, -(r + l)] := (if_neg c1).trans ((if_neg c2).trans ((if_neg c3).trans (if_neg c4)))
          have hn4 : decide (l < r) = false := decide_eq_false c4
          rw [hT]
          clear hT
          go_enter Try.func104, Try.ntmps104
          go_wp2_with fail
          go_ret
          exact ⟨_, _, rfl, by simp, by simp [maxLen], Ints.pair (Blk.newAt (by simp)), hb0.alloc (by simp) _, fun ad h => by cases h; simp⟩


theorem Ints.setNew {w : World} {B : Nat} {A : Option Addr} {l : List Int} {p : Addr} (h : Ints w B A l) (hf : ∀ ad, A = some ad → p.block ≠ ad.block) (u : Value) : Ints (w.setCell p u) B A l := fun k x hx => by
  obtain ⟨ad, e, hb, hc⟩ := h k x hx
  refine ⟨ad, e, hb, ?_⟩
  have e2 : (ad.add k).block = ad.block := addr_block ad k
  have hne : p ≠ ad.add k := fun e' => hf ad e (by rw [e', e2])
  rw [World.cell?_setCell_far _ _ _ _ (by rw [e2]; exact hf ad e)]
  exact hc
theorem results_cell2 {P : Program} {fn : Func} {p u : Tmp} {ty : TypeId} (h : fn.results = #[.cell p ty, .tmp u]) (tmps : Array Value) (w : World) (g : Nat) (t : TypeId) (cs : Array Value) (fr : Nat × Nat) (d : TypeDesc)
    (hp : tmps.getD p undef = .pointer (some ⟨g, 0, none⟩)) (hg : w.heap[g]? = some (.cells cs t fr))
    (hu : P.underlying ty = some d) (hd : (match d with | .struct _ | .array _ _ => true | _ => false) = true) (hi : (P.info? ty).map (·.size) = some cs.size) :
    (results fn tmps).run P w = .ok (.tuple #[.agg cs, tmps.getD u undef]) w := by
  have hp' : tmps[p]?.getD undef = .pointer (some ⟨g, 0, none⟩) := by simpa using hp
  simp [results, h, hp', asAddr, run_loadVar_row w g t ty cs fr d hg hu hd hi]
theorem cmpt_ne {zs : List Int} (h : zs ≠ []) : cmpt zs ≠ [] := by
  intro e
  have h0 : (List.range zs.length).filter (Lib.keeps zs.toArray) = [] := by
    have : ((List.range zs.length).filter (Lib.keeps zs.toArray)).map (zs.toArray[·]!) = [] := e
    simpa using this
  have hp := List.length_pos_iff.2 h
  have : 0 ∈ (List.range zs.length).filter (Lib.keeps zs.toArray) := by
    rw [List.mem_filter]
    exact ⟨List.mem_range.2 hp, by simp [Lib.keeps]⟩
  rw [h0] at this
  cases this
theorem sweepsOf_ne (C s : Int) (l : List Int) : sweepsOf C s l ≠ [] := by
  have h1 : srt (waysRaw C s l) ≠ [] := by
    intro e
    have := srt_len (waysRaw C s l)
    rw [e] at this
    simp [waysRaw] at this
  have h2 := List.length_pos_iff.2 (cmpt_ne h1)
  intro e
  have h3 : (sweepsOf C s l).length = 0 := by rw [e]; rfl
  unfold sweepsOf at h3
  rw [sweepTo_len] at h3
  unfold waysOf at h3
  rw [List.length_append, List.length_singleton] at h3
  omega
theorem sweepsOf_ok {C s : Int} {l : List Int} (h1 : 1 ≤ C) (h2 : C ≤ 120) : ∀ p ∈ sweepsOf C s l, SwOk p := by
  intro p hp
  obtain ⟨i, hi, rfl⟩ := List.mem_map.1 hp
  have hi := List.mem_range.1 hi
  have ha : (waysOf C s l).getD i 0 ∈ waysOf C s l := by
    rw [List.getD, List.getElem?_eq_getElem (by omega)]
    exact List.getElem_mem _
  have hb : (waysOf C s l).getD (i + 1) 0 ∈ waysOf C s l := by
    rw [List.getD, List.getElem?_eq_getElem (by omega)]
    exact List.getElem_mem _
  have := waysOf_in h1 ha
  have := waysOf_in h1 hb
  unfold SwOk
  simp only
  omega
/-- the best sweep -/
def bestOf (C s : Int) (l : List Int) : Int × Int := bestGo ((sweepsOf C s l).headD (0, 0)) (sweepsOf C s l).tail
theorem bestGo_mem : ∀ (l : List (Int × Int)) (b : Int × Int), bestGo b l ∈ b :: l
  | [], b => by simp [bestGo]
  | t :: l, b => by
    unfold bestGo
    split
    · exact List.mem_cons_of_mem _ (bestGo_mem l t)
    · rcases List.mem_cons.1 (bestGo_mem l b) with h | h
      · rw [h]; simp
      · simp [h]
theorem bestOf_mem (C s : Int) (l : List Int) : bestOf C s l ∈ sweepsOf C s l := by
  have hn := sweepsOf_ne C s l
  unfold bestOf
  cases h : sweepsOf C s l with
  | nil => exact absurd h hn
  | cons a b => exact bestGo_mem b a
theorem sweepsOf_len (C s : Int) (l : List Int) : (sweepsOf C s l).length ≤ l.length + 1 := by
  unfold sweepsOf
  rw [sweepTo_len]
  have := waysOf_len C s l
  omega
theorem OwnSw.at {w : World} {base : Nat} {A : Option Addr} {c : Nat} {ps : List (Int × Int)} (h : OwnSw w base A c ps) (hn : ps ≠ []) : ∃ g, A = some ⟨g, 0, none⟩ ∧ base ≤ g ∧ g < w.heap.size ∧ ps.length ≤ c ∧ SwAt w g ps := by
  rcases h.2 with ⟨hv, h0⟩ | ⟨g, cap, cur, hv, hb, hg, h1, h2, h3, h4⟩
  · exact absurd (List.eq_nil_of_length_eq_zero h0) hn
  · cases hv
    have hBlk : Blk w g 123 cur := hg
    refine ⟨g, rfl, hb, hBlk.lt, h1, fun k p hp => ?_⟩
    have hk : k < ps.length := (List.getElem?_eq_some_iff.1 hp).1
    have hflat : ∀ (qs : List (Int × Int)) (k : Nat) (p : Int × Int), qs[k]? = some p → (flat qs)[k * 2]? = some (.int .i64 p.1) ∧ (flat qs)[k * 2 + 1]? = some (.int .i64 p.2) := by
      intro qs
      induction qs with
      | nil => intro k p h; simp at h
      | cons q qs ih =>
        intro k p h
        cases k with
        | zero => cases h; exact ⟨rfl, rfl⟩
        | succ k =>
          have := ih k p h
          have e1 : (k + 1) * 2 = k * 2 + 1 + 1 := by omega
          rw [e1]
          exact this
    obtain ⟨f0, f1⟩ := hflat ps k p hp
    rw [hBlk.cell, hBlk.cell]
    rw [← h4] at f0 f1
    rw [List.getElem?_take_of_lt (by omega)] at f0 f1
    rw [← Array.getElem?_toList, ← Array.getElem?_toList]
    exact ⟨f0, f1⟩
/-- what Turn hands back -/
def RetTurn (w : World) (ts : List Int) (len er : Int) (e : Ending) (w' : World) : Prop :=
  ∃ A c, e = .returned (.tuple #[.agg #[.slice A ts.length c, .int .i64 len], .int .i64 er]) ∧ ts.length ≤ c ∧ c ≤ maxLen ∧ Ints w' w'.heap.size A ts ∧ Below w.heap.size w w'
theorem info67 {a b : Value} : (Try.prog.info? 67).map (·.size) = some #[a, b].size := by
  show _ = some 2
  kernel_rfl
theorem standsErr_zero {C : Int} {cl l : List Int} (h : standsErr C cl l = 0) : l.length ≤ 200 ∧ Rise C l ∧ ∀ x ∈ l, x ∉ cl := by
  unfold standsErr at h
  split at h
  · cases h
  · split at h
    · rename_i h1 h2
      exact ⟨by omega, h2.1, h2.2⟩
    · cases h
theorem turnsOf_len (r l : Int) : (turnsOf r l).length ≤ 2 := by
  unfold turnsOf
  split
  · simp
  · split
    · simp
    · split
      · simp
      · split <;> simp

set_option maxRecDepth 100000 in
set_option maxHeartbeats 2000000 in
theorem turn_any (C R B F : Int) (A : Option Addr) (cap : Nat) (cl : List Int) (s : Int) (D : Option Addr) (dap : Nat) (l : List Int) (w : World) (hB : B ≤ 9223372036854775807) (hcl : cl.length ≤ 9223372036854775807) (hr : Ints w w.heap.size A cl) (hl : Ints w w.heap.size D l) (hll : l.length ≤ 9223372036854775807) :
    Calls Try.prog 51 #[.agg #[.int .i64 C, .int .i64 R, .int .i64 B, .int .i64 F, .slice A cl.length cap], .int .i64 s, .slice D l.length dap] w
      (RetTurn w (if wayErr C R B F cl s l = 0 then turnsOf (bestOf C s l).1 (bestOf C s l).2 else []) (if wayErr C R B F cl s l = 0 then lenOf (bestOf C s l).1 (bestOf C s l).2 else 0) (wayErr C R B F cl s l)) := by
  have hb0 : Below w.heap.size w ((w.alloc (.cells #[.int .i64 C, .int .i64 R, .int .i64 B, .int .i64 F, .slice A cl.length cap] 24)).alloc (.cells #[.slice none 0 0, .int .i64 0] 67)) := (below_new w (.cells #[.int .i64 C, .int .i64 R, .int .i64 B, .int .i64 F, .slice A cl.length cap] 24)).alloc (by simp) _
  have hbk : Blk ((w.alloc (.cells #[.int .i64 C, .int .i64 R, .int .i64 B, .int .i64 F, .slice A cl.length cap] 24)).alloc (.cells #[.slice none 0 0, .int .i64 0] 67)) w.heap.size 24 #[.int .i64 C, .int .i64 R, .int .i64 B, .int .i64 F, .slice A cl.length cap] := (Blk.new _ _ _).alloc _
  have hbq : Blk ((w.alloc (.cells #[.int .i64 C, .int .i64 R, .int .i64 B, .int .i64 F, .slice A cl.length cap] 24)).alloc (.cells #[.slice none 0 0, .int .i64 0] 67)) (w.heap.size + 1) 67 #[.slice none 0 0, .int .i64 0] := Blk.newAt (by simp)
  have hr1 := hr.behind hb0
  have hl1 := hl.behind hb0
  by_cases he : wayErr C R B F cl s l = 0
  case neg =>
    have hn1 : (wayErr C R B F cl s l == 0) = false := by simpa using he
    have hn2 : (wayErr C R B F cl s l != 0) = true := by simpa using he
    rw [if_neg he, if_neg he]
    clear he
    go_enter Try.func51, Try.ntmps51
    go_wp2_with (first
      | (go_at_call 99; refine (checkWay_any C R B F A cap cl s D dap l _ hB hcl hr1 hl1 hll).mono ?_; rintro e w1 ⟨rfl, hb1⟩; have hbq1 := hbq.below hb1 (by simp); obtain ⟨m0, m1, m2, m3⟩ : w1.cell? ⟨w.heap.size + 1, 0, none⟩ = some (.slice none 0 0) ∧ w1.cell? ⟨w.heap.size + 1, 1, none⟩ = some (.int .i64 0) ∧ w1.frozen? ⟨w.heap.size + 1, 0, none⟩ = false ∧ w1.frozen? ⟨w.heap.size + 1, 1, none⟩ = false := ⟨hbq1.cell 0, hbq1.cell 1, hbq1.frozen 0, hbq1.frozen 1⟩))
    refine bodyPost_ret (results_cell2 (g := w.heap.size + 1) rfl _ _ 67 _ (0, 0) _ rfl ((hbq1.store 0 (.slice none 0 0)).store 1 (.int .i64 0)) Try.underlying67 rfl info67) rfl ?_
    exact ⟨none, 0, rfl, Nat.le_refl _, by simp [maxLen], Ints.nil, ((below_next hb0 (by simp; omega) hb1).setCell (p := ⟨w.heap.size + 1, 0, none⟩) (by simp) _).setCell (p := ⟨w.heap.size + 1, 1, none⟩) (by simp) _⟩
  case pos =>
    obtain ⟨hok, hs, hst⟩ := wayErr_zero he
    obtain ⟨hl200, hrise, _⟩ := standsErr_zero hst
    have k1 := hok.c3
    have k2 := hok.c120
    have hlm := hrise.2
    have HE := Lib.hid he
    rw [if_pos he, if_pos he, he]
    have hne := sweepsOf_ne C s l
    have hsl := sweepsOf_len C s l
    have hsok := sweepsOf_ok (C := C) (s := s) (l := l) (by omega) k2
    have hbm := bestOf_mem C s l
    have hbo := hsok _ hbm
    have hbd : Hid (bestOf C s l = bestGo ((sweepsOf C s l).headD (0, 0)) (sweepsOf C s l).tail) := rfl
    have htl := turnsOf_len (bestOf C s l).1 (bestOf C s l).2
    have hsw : Hid (∀ W : World, Ints W W.heap.size D l → Calls Try.prog 101 #[.agg #[.int .i64 C, .int .i64 R, .int .i64 B, .int .i64 F, .slice A cl.length cap], .int .i64 s, .slice D l.length dap] W fun e w' => ∃ A c, e = .returned (.slice A (sweepsOf C s l).length c) ∧ OwnSw w' W.heap.size A c (sweepsOf C s l) ∧ Below W.heap.size W w') := fun W hW => sweeps_any C R B F _ s D dap l W (by omega) k2 hs.1 hs.2 (by omega) hlm hW
    clear he hok hst hrise hbm
    cases hps : sweepsOf C s l with
    | nil => exact absurd hps hne
    | cons x0 rest =>
      rw [hps] at hsl hsok hbd hsw
      have HBD : Hid (bestGo x0 rest = bestOf C s l) := hbd.out.symm
      generalize bestOf C s l = best at HBD hbo htl ⊢
      obtain ⟨r, lf⟩ := best
      unfold SwOk at hbo
      simp only at hbo htl ⊢
      have HSK := Lib.hid hsok
      have hT : Hid (∀ W : World, Calls Try.prog 104 #[.agg #[.int .i64 r, .int .i64 lf]] W (RetIntsF W (turnsOf r lf))) := fun W => turnsF_any r lf W hbo.1 hbo.2.1 hbo.2.2.1 hbo.2.2.2
      have hL : Hid (∀ W : World, Calls Try.prog 103 #[.agg #[.int .i64 r, .int .i64 lf]] W fun e w' => e = .returned (.int .i64 (lenOf r lf)) ∧ Below W.heap.size W w') := fun W => length_any r lf W hbo.1 hbo.2.1 hbo.2.2.1 hbo.2.2.2
      generalize turnsOf r lf = ts at *
      generalize lenOf r lf = len at *
      clear hbd hsok hne hps
      go_enter Try.func51, Try.ntmps51
      go_wp2_with (first
        | (go_at_call 99; refine (checkWay_any C R B F A cap cl s D dap l _ hB hcl hr1 hl1 hll).mono ?_; rw [HE.out]; rintro e w1 ⟨rfl, hb1⟩; have hbk1 := hbk.below hb1 (by simp; omega); have hbq1 := hbq.below hb1 (by simp); obtain ⟨d0, d1, d2, d3, d4⟩ := hbk1.five; have hl2 := hl1.behind hb1)
        | (go_at_call 101; refine (hsw.out _ hl2).mono ?_; rintro e w2 ⟨A2, c2, rfl, hown2, hb2⟩; obtain ⟨g, hA2, hg1, hg2, hg3, hSw⟩ := hown2.at (by simp); subst hA2)
        | (go_at_call 100; refine (leastS_any g c2 x0 rest _ hSw hg2 HSK.out (by simp at hsl; omega) (by simpa using hg3)).mono ?_; rw [HBD.out]; rintro e w3 ⟨rfl, hb3⟩))
      have hb23 := below_next (below_next (below_next hb0 (by simp; omega) hb1) (by have := hb1.size; simp at this; omega) hb2) (by have := hb1.size; have := hb2.size; simp at *; omega) hb3
      have hq1 := hbq1.lt
      have hz2 := hb2.size
      have hz3 := hb3.size
      have hgb : w.heap.size + 1 < w3.heap.size := by omega
      have HB : Blk (w3.alloc (.cells #[.int .i64 r, .int .i64 lf] 123)) w3.heap.size 123 #[.int .i64 r, .int .i64 lf] := Blk.new _ _ _
      have HQ : Blk (w3.alloc (.cells #[.int .i64 r, .int .i64 lf] 123)) (w.heap.size + 1) 67 #[.slice none 0 0, .int .i64 0] := ((hbq1.below hb2 hq1).below hb3 (by omega)).alloc _
      have HW : Below w.heap.size w (w3.alloc (.cells #[.int .i64 r, .int .i64 lf] 123)) := hb23.alloc (by omega) _
      clear hb1 hb2 hb3 hb23 hbk1 hbq1 hbk hbq hb0 d0 d1 d2 d3 d4 hSw hown2 hz2 hz3 hq1 hl1 hl2 hr1
      generalize w3.alloc (.cells #[.int .i64 r, .int .i64 lf] 123) = W at HB HQ HW ⊢
      generalize w3.heap.size = gb at HB hgb ⊢
      obtain ⟨b0, b1⟩ : W.cell? ⟨gb, 0, none⟩ = some (.int .i64 r) ∧ W.cell? ⟨gb, 1, none⟩ = some (.int .i64 lf) := ⟨HB.cell 0, HB.cell 1⟩
      have hgl := HB.lt
      go_region_held3 (fun w' => w'.cell? ⟨gb, 0, none⟩ = some (.int .i64 r) ∧ w'.cell? ⟨gb, 1, none⟩ = some (.int .i64 lf)) (first | exact K3 _ _ | exact K2 | exact K1 | exact ⟨b0, b1⟩)
        (first
          | (go_at_call 104; refine (hT.out _).mono ?_; rintro e w5 ⟨T, tap, rfl, t1, t2, t3, hb5, t4⟩; have HB5 := (show Blk W.drew gb 123 _ from HB).below hb5 hgl; have HQ5 := (show Blk W.drew (w.heap.size + 1) 67 _ from HQ).below hb5 (by simp; omega); have K1 : w5.cell? ⟨gb, 0, none⟩ = some (.int .i64 r) ∧ w5.cell? ⟨gb, 1, none⟩ = some (.int .i64 lf) := ⟨HB5.cell 0, HB5.cell 1⟩)
          | (go_at_call 103; refine (hL.out _).mono ?_; rintro e w6 ⟨rfl, hb6⟩; have HB6 := HB5.below hb6 HB5.lt; have HQ6 := HQ5.below hb6 HQ5.lt; have K2 : w6.cell? ⟨gb, 0, none⟩ = some (.int .i64 r) ∧ w6.cell? ⟨gb, 1, none⟩ = some (.int .i64 lf) := ⟨HB6.cell 0, HB6.cell 1⟩; obtain ⟨m0, m1, m2, m3⟩ : w6.cell? ⟨w.heap.size + 1, 0, none⟩ = some (.slice none 0 0) ∧ w6.cell? ⟨w.heap.size + 1, 1, none⟩ = some (.int .i64 0) ∧ w6.frozen? ⟨w.heap.size + 1, 0, none⟩ = false ∧ w6.frozen? ⟨w.heap.size + 1, 1, none⟩ = false := ⟨HQ6.cell 0, HQ6.cell 1, HQ6.frozen 0, HQ6.frozen 1⟩; have K3 : ∀ u v : Value, ((w6.setCell ⟨w.heap.size + 1, 0, none⟩ u).setCell ⟨w.heap.size + 1, 1, none⟩ v).cell? ⟨gb, 0, none⟩ = some (.int .i64 r) ∧ ((w6.setCell ⟨w.heap.size + 1, 0, none⟩ u).setCell ⟨w.heap.size + 1, 1, none⟩ v).cell? ⟨gb, 1, none⟩ = some (.int .i64 lf) := fun u v => ⟨((HB6.far (p := ⟨w.heap.size + 1, 0, none⟩) (by simp; omega) u).far (p := ⟨w.heap.size + 1, 1, none⟩) (by simp; omega) v).cell 0, ((HB6.far (p := ⟨w.heap.size + 1, 0, none⟩) (by simp; omega) u).far (p := ⟨w.heap.size + 1, 1, none⟩) (by simp; omega) v).cell 1⟩))
      go_wp2_with fail
      refine bodyPost_ret (results_cell2 (g := w.heap.size + 1) rfl _ _ 67 _ (0, 0) _ rfl ((HQ6.store 0 (.slice T ts.length tap)).store 1 (.int .i64 len)) Try.underlying67 rfl info67) rfl ?_
      have z5 := hb5.size
      have z6 := hb6.size
      have hfr : ∀ ad, T = some ad → w.heap.size + 1 ≠ ad.block := fun ad h => by have := t4 ad h; simp at this; omega
      refine ⟨T, tap, rfl, t1, t2, ?_, ((below_next (below_next HW.drew (by simp; exact HW.size) hb5) (by simp at z5; have := HW.size; omega) hb6).setCell (p := ⟨w.heap.size + 1, 0, none⟩) (by simp) _).setCell (p := ⟨w.heap.size + 1, 1, none⟩) (by simp) _⟩
      exact (((t3.behind hb6).setNew (p := ⟨w.heap.size + 1, 0, none⟩) hfr _).setNew (p := ⟨w.heap.size + 1, 1, none⟩) hfr _).more (by simp [World.setCell])

end Go.Proofs.Ytnjmkdgglpcfpaa
