import Derived.Test.YtnjmkdgglpcfpaaA17
namespace Go.Proofs.Ytnjmkdgglpcfpaa
open Go.RowKit

/-- the error of 'find' -/
def findErr (C R B F : Int) (cl l : List Int) : Int := if holesErr C R B F cl l ≠ 0 then holesErr C R B F cl l else if fewL C B F (isIn cl) (isIn (colm C l)) = none then 5 else 0
/-- the stands of 'find' -/
def findL (C R B F : Int) (cl l : List Int) : List Int := if holesErr C R B F cl l ≠ 0 then [] else (fewL C B F (isIn cl) (isIn (colm C l))).getD []
/-- what 'find' hands back -/
def RetFind (w : World) (C R B F : Int) (sl : Value) (cl l : List Int) (e : Ending) (w' : World) : Prop :=
  ∃ vs A c, vs.size = 245 ∧ vs.all (·.oneCell') = true ∧ (findErr C R B F cl l = 0 → vs = sv C R B F sl (isIn cl) (isIn (colm C l))) ∧
    e = .returned (.tuple #[.agg vs, .slice A (findL C R B F cl l).length c, .int .i64 (findErr C R B F cl l)]) ∧ (findL C R B F cl l).length ≤ c ∧ c ≤ maxLen ∧ Ints w' w'.heap.size A (findL C R B F cl l) ∧ Below w.heap.size w w'

/-- as RetFind: and the stands lie in new memory -/
def RetFindF (w : World) (C R B F : Int) (sl : Value) (cl l : List Int) (e : Ending) (w' : World) : Prop :=
  ∃ vs A c, vs.size = 245 ∧ vs.all (·.oneCell') = true ∧ (findErr C R B F cl l = 0 → vs = sv C R B F sl (isIn cl) (isIn (colm C l))) ∧
    e = .returned (.tuple #[.agg vs, .slice A (findL C R B F cl l).length c, .int .i64 (findErr C R B F cl l)]) ∧ (findL C R B F cl l).length ≤ c ∧ c ≤ maxLen ∧ Ints w' w'.heap.size A (findL C R B F cl l) ∧ Below w.heap.size w w' ∧ ∀ ad, A = some ad → w.heap.size ≤ ad.block

theorem results_cell3 {P : Program} {fn : Func} {p u v : Tmp} {ty : TypeId} (h : fn.results = #[.cell p ty, .tmp u, .tmp v]) (tmps : Array Value) (w : World) (g : Nat) (t : TypeId) (cs : Array Value) (fr : Nat × Nat) (d : TypeDesc)
    (hp : tmps.getD p undef = .pointer (some ⟨g, 0, none⟩)) (hg : w.heap[g]? = some (.cells cs t fr))
    (hu : P.underlying ty = some d) (hd : (match d with | .struct _ | .array _ _ => true | _ => false) = true) (hi : (P.info? ty).map (·.size) = some cs.size) :
    (results fn tmps).run P w = .ok (.tuple #[.agg cs, tmps.getD u undef, tmps.getD v undef]) w := by
  have hp' : tmps[p]?.getD undef = .pointer (some ⟨g, 0, none⟩) := by simpa using hp
  simp [results, h, hp', asAddr, run_loadVar_row w g t ty cs fr d hg hu hd hi]
theorem own_farRow {w : World} {base : Nat} {e : TypeId} {size n : Nat} {v : Value} {xs : List Value} (h : w.ownsRow base e size v n xs) {g : Nat} (hg : g < base) (cs : Array Value) : (w.setRow g cs).ownsRow base e size v n xs := by
  refine h.kept (row := some g) ⟨rfl, rfl, rfl, by simp, fun k _ hk => setRow_other w g k cs (fun e => hk (by rw [e]))⟩ ?_
  rcases h.2 with ⟨rfl, _⟩ | ⟨g', cap, cur, rfl, hb, _⟩
  · exact .inl rfl
  · refine .inr fun e => ?_
    have : g' = g := by simpa [Value.ownBlock] using e
    omega
theorem info106s {vs : Array Value} (h : vs.size = 245) : (Try.prog.info? 106).map (·.size) = some vs.size := by
  rw [h]
  kernel_rfl
theorem zero106_one : Try.zeroCells106.all (·.oneCell') = true := by kernel_rfl
theorem sv_all (C R B F : Int) (A : Option Addr) (n c : Nat) (p q : Nat → Bool) : (sv C R B F (.slice A n c) p q).all (·.oneCell') = true := by
  rw [← svl_arr]
  exact all_oneCell_toArray (sv_one C R B F A n c p q)
theorem findErr_bad {C R B F : Int} {cl l : List Int} (h : ¬ HolesOk C R B F cl l) : findErr C R B F cl l = holesErr C R B F cl l ∧ findL C R B F cl l = [] := by
  have : holesErr C R B F cl l ≠ 0 := fun e => h (holesErr_zero.1 e)
  exact ⟨if_pos this, if_pos this⟩
theorem findErr_none {C R B F : Int} {cl l : List Int} (h : HolesOk C R B F cl l) (hf : fewL C B F (isIn cl) (isIn (colm C l)) = none) : findErr C R B F cl l = 5 ∧ findL C R B F cl l = [] := by
  have := holesErr_zero.2 h
  unfold findErr findL
  rw [this, hf]
  exact ⟨rfl, rfl⟩
theorem findErr_some {C R B F : Int} {cl l L : List Int} (h : HolesOk C R B F cl l) (hf : fewL C B F (isIn cl) (isIn (colm C l)) = some L) : findErr C R B F cl l = 0 ∧ findL C R B F cl l = L := by
  have := holesErr_zero.2 h
  unfold findErr findL
  rw [this, hf]
  exact ⟨rfl, rfl⟩
theorem holesErr_ne {C R B F : Int} {cl l : List Int} (h : ¬ HolesOk C R B F cl l) : (holesErr C R B F cl l == 0) = false ∧ (holesErr C R B F cl l != 0) = true := by
  have : holesErr C R B F cl l ≠ 0 := fun e => h (holesErr_zero.1 e)
  simp [this]

set_option maxRecDepth 100000 in
set_option maxHeartbeats 1000000 in
theorem find_bad {C R B F : Int} {A : Option Addr} {cap : Nat} {cl : List Int} {D : Option Addr} {dap : Nat} {l : List Int} (w : World) (hbad : ¬ HolesOk C R B F cl l) (hB : B ≤ 9223372036854775807) (hcl : cl.length ≤ 9223372036854775807) (hr : Ints w w.heap.size A cl) (hl : Ints w w.heap.size D l) (hll : l.length ≤ 9223372036854775807) :
    Calls Try.prog 86 #[.agg #[.int .i64 C, .int .i64 R, .int .i64 B, .int .i64 F, .slice A cl.length cap], .slice D l.length dap] w (RetFindF w C R B F (.slice A cl.length cap) cl l) := by
  obtain ⟨f1, f2⟩ := findErr_bad hbad
  obtain ⟨n1, n2⟩ := holesErr_ne hbad
  have F1 := Lib.hid f1
  have F2 := Lib.hid f2
  clear f1 f2 hbad
  have hb0 : Below w.heap.size w ((w.alloc (.cells #[.int .i64 C, .int .i64 R, .int .i64 B, .int .i64 F, .slice A cl.length cap] 24)).alloc (.cells Try.zeroCells106 106)) := (below_new _ _).alloc (by simp) _
  have hr1 := hr.behind hb0
  have hl1 := hl.behind hb0
  have hbk : Blk ((w.alloc (.cells #[.int .i64 C, .int .i64 R, .int .i64 B, .int .i64 F, .slice A cl.length cap] 24)).alloc (.cells Try.zeroCells106 106)) (w.heap.size + 1) 106 Try.zeroCells106 := Blk.newAt (by simp)
  go_enter Try.func86, Try.ntmps86
  go_wp2_with (first
    | (go_at_call 76; refine (checkHoles_any _ hB hcl hr1 hl1 hll).mono ?_; rintro e w1 ⟨rfl, hb1⟩; have hbk1 := hbk.below hb1 (by simp))
    | (refine wpList_store_row (by rfl) 106 _ _ (by rfl) _ _ (by rfl) (by rfl) 106 _ hbk1 (info106s Try.zeroCells106_size) rfl zero106_one ?_))
  refine bodyPost_ret (results_cell3 (g := w.heap.size + 1) rfl _ _ 106 _ (0, 0) _ rfl (hbk1.setRow _) Try.underlying106 rfl (info106s Try.zeroCells106_size)) rfl ?_
  refine ⟨Try.zeroCells106, none, 0, Try.zeroCells106_size, zero106_one, fun h => ?_, by rw [F1.out, F2.out]; rfl, by rw [F2.out]; exact Nat.le_refl _, by simp [maxLen], by rw [F2.out]; exact Ints.nil, below_setRow (below_next hb0 (by simp; omega) hb1) (by omega) _, by simp⟩
  rw [F1.out] at h
  simp [h] at n1

set_option maxRecDepth 100000 in
set_option maxHeartbeats 1000000 in
theorem find_good {C R B F : Int} {A : Option Addr} {cap : Nat} {cl : List Int} {D : Option Addr} {dap : Nat} {l : List Int} (w : World) (hk : HolesOk C R B F cl l) (hr : Ints w w.heap.size A cl) (hl : Ints w w.heap.size D l) :
    Calls Try.prog 86 #[.agg #[.int .i64 C, .int .i64 R, .int .i64 B, .int .i64 F, .slice A cl.length cap], .slice D l.length dap] w (RetFindF w C R B F (.slice A cl.length cap) cl l) := by
  have hok := hk.ok
  have k1 := hok.c3
  have k2 := hok.c120
  have k3 := hok.b0
  have k4 := hok.f0
  have k5 := hok.bf
  have k6 := hok.len
  have k7 := hk.len
  have hpos : Hid (∀ x ∈ l, 0 ≤ x) := fun x hx => (hk.all x hx).1
  have hz : Hid (holesErr C R B F cl l = 0) := holesErr_zero.2 hk
  have hwq : Hid (∀ i : Nat, isIn (colm C l) i = true → (i : Int) < C) := fun i hi => (hk.cols (i : Int) (by simpa [isIn] using hi)).2
  have hb0 : Below w.heap.size w ((w.alloc (.cells #[.int .i64 C, .int .i64 R, .int .i64 B, .int .i64 F, .slice A cl.length cap] 24)).alloc (.cells Try.zeroCells106 106)) := (below_new _ _).alloc (by simp) _
  have hr1 := hr.behind hb0
  have hl1 := hl.behind hb0
  have hbk : Blk ((w.alloc (.cells #[.int .i64 C, .int .i64 R, .int .i64 B, .int .i64 F, .slice A cl.length cap] 24)).alloc (.cells Try.zeroCells106 106)) (w.heap.size + 1) 106 Try.zeroCells106 := Blk.newAt (by simp)
  have hbh : Blk ((w.alloc (.cells #[.int .i64 C, .int .i64 R, .int .i64 B, .int .i64 F, .slice A cl.length cap] 24)).alloc (.cells Try.zeroCells106 106)) w.heap.size 24 #[.int .i64 C, .int .i64 R, .int .i64 B, .int .i64 F, .slice A cl.length cap] := (Blk.new _ _ _).alloc _
  have hsz1 : (sv C R B F (.slice A cl.length cap) (isIn cl) (isIn (colm C l))).size = 245 := sv_size _ _ _ _ _ _ _
  have hone : Hid ((sv C R B F (.slice A cl.length cap) (isIn cl) (isIn (colm C l))).all (·.oneCell') = true) := sv_all _ _ _ _ _ _ _ _ _
  generalize hS : sv C R B F (.slice A cl.length cap) (isIn cl) (isIn (colm C l)) = S at hsz1 hone
  have HS := Lib.hid hS
  have HZ := Lib.hid hsz1
  clear hS hsz1
  cases hf : fewL C B F (isIn cl) (isIn (colm C l)) with
  | none =>
    obtain ⟨f1, f2⟩ := findErr_none hk hf
    have F1 := Lib.hid f1
    have F2 := Lib.hid f2
    have HF := Lib.hid hf
    clear f1 f2 hf
    go_enter Try.func86, Try.ntmps86
    go_wp2_with (first
      | (go_at_call 76; refine (checkHoles_any _ (by omega) (by omega) hr1 hl1 (by omega)).mono ?_; rw [hz.out]; rintro e w1 ⟨rfl, hb1⟩; have hbk1 := hbk.below hb1 (by simp); obtain ⟨d0, d1, d2, d3, d4⟩ := (hbh.below hb1 (by simp; omega)).five; have hlt1 := hbk1.lt)
      | (go_at_call 92; refine (newSearch_ok _ hok (hr1.behind hb1) (hl1.behind hb1) (by omega) hpos.out).mono ?_; rw [HS.out]; rintro e w2 ⟨rfl, hb2⟩; have hbk2 := hbk1.below hb2 hlt1; have hlt2 := hbk2.lt)
      | (refine wpList_store_row (by rfl) 106 _ _ (by rfl) w2.heap.size _ (by rfl) (by rfl) 106 Try.zeroCells106 (Blk.new w2 106 _) (info106s HZ.out) (Try.zeroCells106_size.trans HZ.out.symm) hone.out ?_; have hbs := (Blk.new w2 106 Try.zeroCells106).setRow S; have hbk3 := (hbk2.alloc (.cells Try.zeroCells106 106)).farRow (g' := w2.heap.size) (by omega) S; have hb3 : Below w2.heap.size w2 ((w2.alloc (.cells Try.zeroCells106 106)).setRow w2.heap.size S) := below_setRow (below_new _ _) (Nat.le_refl _) _)
      | (refine wpList_load_row (by rfl) 106 _ (by rfl) w2.heap.size (by rfl) 106 _ (0, 0) _ hbs Try.underlying106 rfl (info106s HZ.out) ?_)
      | (go_at_call 94; rw [← HS.out]; refine (fewest_any sort_any C R B F _ (isIn cl) (isIn (colm C l)) _ (by omega) k2 k3 k4 k5 hwq.out).mono ?_; rw [HF.out, HS.out]; rintro e w4 ⟨rfl, hb4⟩; have hbk4 := hbk3.below hb4 hbk3.lt)
      | (refine wpList_store_row (by rfl) 106 _ _ (by rfl) (w.heap.size + 1) _ (by rfl) (by rfl) 106 _ hbk4 (info106s Try.zeroCells106_size) rfl zero106_one ?_))
    refine bodyPost_ret (results_cell3 (g := w.heap.size + 1) rfl _ _ 106 _ (0, 0) _ rfl (hbk4.setRow _) Try.underlying106 rfl (info106s Try.zeroCells106_size)) rfl ?_
    have s1 := hb1.size
    have s2 := hb2.size
    have s3 := hb3.size
    simp only [World.size_alloc] at s1
    refine ⟨Try.zeroCells106, none, 0, Try.zeroCells106_size, zero106_one, fun h => ?_, by rw [F1.out, F2.out]; rfl, by rw [F2.out]; exact Nat.le_refl _, by simp [maxLen], by rw [F2.out]; exact Ints.nil, below_setRow (below_next (below_next (below_next (below_next hb0 (by simp; omega) hb1) (by omega) hb2) (by omega) hb3) (by omega) hb4) (by omega) _, by simp⟩
    rw [F1.out] at h
    cases h
  | some L =>
    obtain ⟨f1, f2⟩ := findErr_some hk hf
    have F1 := Lib.hid f1
    have F2 := Lib.hid f2
    have HF := Lib.hid hf
    clear f1 f2 hf
    go_enter Try.func86, Try.ntmps86
    go_wp2_with (first
      | (go_at_call 76; refine (checkHoles_any _ (by omega) (by omega) hr1 hl1 (by omega)).mono ?_; rw [hz.out]; rintro e w1 ⟨rfl, hb1⟩; have hbk1 := hbk.below hb1 (by simp); obtain ⟨d0, d1, d2, d3, d4⟩ := (hbh.below hb1 (by simp; omega)).five; have hlt1 := hbk1.lt)
      | (go_at_call 92; refine (newSearch_ok _ hok (hr1.behind hb1) (hl1.behind hb1) (by omega) hpos.out).mono ?_; rw [HS.out]; rintro e w2 ⟨rfl, hb2⟩; have hbk2 := hbk1.below hb2 hlt1; have hlt2 := hbk2.lt)
      | (refine wpList_store_row (by rfl) 106 _ _ (by rfl) w2.heap.size _ (by rfl) (by rfl) 106 Try.zeroCells106 (Blk.new w2 106 _) (info106s HZ.out) (Try.zeroCells106_size.trans HZ.out.symm) hone.out ?_; have hbs := (Blk.new w2 106 Try.zeroCells106).setRow S; have hbk3 := (hbk2.alloc (.cells Try.zeroCells106 106)).farRow (g' := w2.heap.size) (by omega) S; have hb3 : Below w2.heap.size w2 ((w2.alloc (.cells Try.zeroCells106 106)).setRow w2.heap.size S) := below_setRow (below_new _ _) (Nat.le_refl _) _)
      | (refine wpList_load_row (by rfl) 106 _ (by rfl) w2.heap.size (by rfl) 106 _ (0, 0) _ hbs Try.underlying106 rfl (info106s HZ.out) ?_)
      | (go_at_call 94; rw [← HS.out]; refine (fewest_any sort_any C R B F _ (isIn cl) (isIn (colm C l)) _ (by omega) k2 k3 k4 k5 hwq.out).mono ?_; rw [HF.out, HS.out]; rintro e w4 ⟨A4, c4, rfl, hown4, hb4⟩; have hbk4 := hbk3.below hb4 hbk3.lt; have hbs4 := hbs.below hb4 hbs.lt)
      | (refine wpList_load_row (by rfl) 106 _ (by rfl) w2.heap.size (by rfl) 106 _ (0, 0) _ hbs4 Try.underlying106 rfl (info106s HZ.out) ?_)
      | (refine wpList_store_row (by rfl) 106 _ _ (by rfl) (w.heap.size + 1) _ (by rfl) (by rfl) 106 _ hbk4 (info106s HZ.out) (Try.zeroCells106_size.trans HZ.out.symm) hone.out ?_))
    refine bodyPost_ret (results_cell3 (g := w.heap.size + 1) rfl _ _ 106 _ (0, 0) _ rfl (hbk4.setRow _) Try.underlying106 rfl (info106s HZ.out)) rfl ?_
    have s1 := hb1.size
    have s2 := hb2.size
    have s3 := hb3.size
    simp only [World.size_alloc] at s1
    have hlo : w.heap.size + 1 < ((w2.alloc (.cells Try.zeroCells106 106)).setRow w2.heap.size S).heap.size := by omega
    have hown5 := own_farRow hown4 hlo S
    obtain ⟨k1, k2, k3⟩ := own_facts hown5
    refine ⟨S, A4, c4, HZ.out, hone.out, fun _ => HS.out.symm, by rw [F1.out, F2.out]; rfl, by rw [F2.out]; exact k1, k2, by rw [F2.out]; exact k3, below_setRow (below_next (below_next (below_next (below_next hb0 (by simp; omega) hb1) (by omega) hb2) (by omega) hb3) (by omega) hb4) (by omega) _, fun ad h => by subst h; have := (hown5.lt ad.block rfl).1; omega⟩

theorem find_anyF {C R B F : Int} {A : Option Addr} {cap : Nat} {cl : List Int} {D : Option Addr} {dap : Nat} {l : List Int} (w : World) (hB : B ≤ 9223372036854775807) (hcl : cl.length ≤ 9223372036854775807) (hr : Ints w w.heap.size A cl) (hl : Ints w w.heap.size D l) (hll : l.length ≤ 9223372036854775807) :
    Calls Try.prog 86 #[.agg #[.int .i64 C, .int .i64 R, .int .i64 B, .int .i64 F, .slice A cl.length cap], .slice D l.length dap] w (RetFindF w C R B F (.slice A cl.length cap) cl l) := by
  by_cases h : HolesOk C R B F cl l
  · exact find_good w h hr hl
  · exact find_bad w h hB hcl hr hl hll

theorem find_any {C R B F : Int} {A : Option Addr} {cap : Nat} {cl : List Int} {D : Option Addr} {dap : Nat} {l : List Int} (w : World) (hB : B ≤ 9223372036854775807) (hcl : cl.length ≤ 9223372036854775807) (hr : Ints w w.heap.size A cl) (hl : Ints w w.heap.size D l) (hll : l.length ≤ 9223372036854775807) :
    Calls Try.prog 86 #[.agg #[.int .i64 C, .int .i64 R, .int .i64 B, .int .i64 F, .slice A cl.length cap], .slice D l.length dap] w (RetFind w C R B F (.slice A cl.length cap) cl l) :=
  (find_anyF w hB hcl hr hl hll).mono fun _ _ h => by
    obtain ⟨vs, A, c, h1, h2, h3, h4, h5, h6, h7, h8, _⟩ := h
    exact ⟨vs, A, c, h1, h2, h3, h4, h5, h6, h7, h8⟩

end Go.Proofs.Ytnjmkdgglpcfpaa

namespace Go.Proofs.Ytnjmkdgglpcfpaa
open Go.RowKit

set_option maxRecDepth 100000 in
set_option maxHeartbeats 1000000 in
theorem count_any {C R B F : Int} {A : Option Addr} {cap : Nat} {cl : List Int} {D : Option Addr} {dap : Nat} {l : List Int} (w : World) (hB : B ≤ 9223372036854775807) (hcl : cl.length ≤ 9223372036854775807) (hr : Ints w w.heap.size A cl) (hl : Ints w w.heap.size D l) (hll : l.length ≤ 9223372036854775807) :
    Calls Try.prog 37 #[.agg #[.int .i64 C, .int .i64 R, .int .i64 B, .int .i64 F, .slice A cl.length cap], .slice D l.length dap] w fun e w' => e = .returned (.tuple #[.int .i64 (findL C R B F cl l).length, .int .i64 (findErr C R B F cl l)]) ∧ Below w.heap.size w w' := by
  have hb0 := below_new w (.cells #[.int .i64 C, .int .i64 R, .int .i64 B, .int .i64 F, .slice A cl.length cap] 24)
  have hr1 := hr.behind hb0
  have hl1 := hl.behind hb0
  go_enter Try.func37, Try.ntmps37
  go_wp2_with (first
    | (go_at_call 86; refine (find_any _ hB hcl hr1 hl1 hll).mono ?_; rintro e w1 ⟨vs, A1, c1, hvs, hone, hval, rfl, h1, h2, h3, hb1⟩; have HV := Lib.hid hvs; have HO := Lib.hid hone; clear hvs hone hval)
    | (refine wpList_store_row (by rfl) 106 _ _ (by rfl) w1.heap.size _ (by rfl) (by rfl) 106 Try.zeroCells106 (Blk.new w1 106 _) (info106s HV.out) (Try.zeroCells106_size.trans HV.out.symm) HO.out ?_))
  go_ret2
  exact ⟨rfl, below_setRow ((below_next hb0 (by simp) hb1).alloc (by have := hb1.size; simp at this; omega) _) (by have := hb1.size; simp at this; omega) _⟩

/-- the stands of all fewest rounds -/
def neededP (C B F : Int) (p q : Nat → Bool) (n : Nat) (x : Int) : Bool :=
  match fewL C B F (fun i => if (i : Int) = x then true else p i) q with
  | none => true
  | some l => decide (n < l.length)
/-- the stands of some fewest round -/
def usefulP (C B F : Int) (p q : Nat → Bool) (n : Nat) (x : Nat) : Bool := !p x && decide (1 + (afters C B F p q x).length = n)
/-- the columns without each of which fewer stands are enough -/
def savesP (C B F : Int) (p q : Nat → Bool) (n : Nat) (x : Int) : Bool :=
  match fewL C B F p (fun i => if (i : Int) = x then false else q i) with
  | none => false
  | some l => decide (l.length < n)

/-- a whole struct read out of its block, where the operation hangs on a guard -/
theorem wpList_load_rowG {P : Program} {ops : Array Oper} {rest : List Oper} {o : Oper} {a : Act} {w : World} {Q : Exit → Act → World → Prop} (hgd : Region.wanted o (yielded ops a.tmps) = true) (ty : TypeId) (x : Operand) (ho : o.op = .load ty x)
    (g : Nat) (hx : a.eval x = .pointer (some ⟨g, 0, none⟩)) (t : TypeId) (cs : Array Value) (fr : Nat × Nat) (d : TypeDesc) (hg : w.heap[g]? = some (.cells cs t fr))
    (hu : P.underlying ty = some d) (hd : (match d with | .struct _ | .array _ _ => true | _ => false) = true) (hi : (P.info? ty).map (·.size) = some cs.size)
    (h : wpList P ops Q rest (a.put o.dst (.agg cs)) w) : wpList P ops Q (o :: rest) a w :=
  wpList_step fun _ hK => by rw [if_pos hgd]; exact wp_load_row ty x ho g hx t cs fr d hg hu hd hi (hK _ _ h)
theorem findErr_ok {C R B F : Int} {cl l : List Int} (h : findErr C R B F cl l = 0) : HolesOk C R B F cl l := by
  refine holesErr_zero.1 ?_
  unfold findErr at h
  split at h
  · exact h
  · rename_i h'; simpa using h'
theorem RetInts2.of_own {w w' : World} {base : Nat} {l : List Int} {v : Value} (h : w'.ownsRow base 3 1 v l.length (l.map (Value.int .i64))) (hb : Below w.heap.size w w') : RetInts2 w l 0 (.returned (.tuple #[v, .int .i64 0])) w' := by
  obtain ⟨A, c, rfl, h1, h2⟩ := own_form h
  exact ⟨A, c, rfl, h1, h2, Ints.of_own h, hb⟩

set_option maxRecDepth 100000 in
set_option maxHeartbeats 20000000 in
theorem useful_any {C R B F : Int} {A0 : Option Addr} {cap : Nat} {cl : List Int} {D : Option Addr} {dap : Nat} {l : List Int} (w : World) (hB : B ≤ 9223372036854775807) (hcl : cl.length ≤ 9223372036854775807) (hr : Ints w w.heap.size A0 cl) (hl : Ints w w.heap.size D l) (hll : l.length ≤ 9223372036854775807) :
    Calls Try.prog 45 #[.agg #[.int .i64 C, .int .i64 R, .int .i64 B, .int .i64 F, .slice A0 cl.length cap], .slice D l.length dap] w
      (RetInts2 w (if findErr C R B F cl l = 0 then colsTo (usefulP C B F (isIn cl) (isIn (colm C l)) (findL C R B F cl l).length) C.toNat else []) (findErr C R B F cl l)) := by
  have hb0 := below_new w (.cells #[.int .i64 C, .int .i64 R, .int .i64 B, .int .i64 F, .slice A0 cl.length cap] 24)
  have hr1 := hr.behind hb0
  have hl1 := hl.behind hb0
  have hbh := Blk.new w 24 #[.int .i64 C, .int .i64 R, .int .i64 B, .int .i64 F, .slice A0 cl.length cap]
  by_cases he : findErr C R B F cl l = 0
  · have hk := findErr_ok he
    have hok := hk.ok
    have k1 := hok.c3
    have k2 := hok.c120
    have k3 := hok.b0
    have k4 := hok.f0
    have k5 := hok.bf
    obtain ⟨n, rfl⟩ := Int.eq_ofNat_of_zero_le (show 0 ≤ C by omega)
    rw [if_pos he, he, Int.toNat_natCast]
    have HE := Lib.hid he
    generalize hL : findL n R B F cl l = L
    generalize hp : usefulP n B F (isIn cl) (isIn (colm n l)) L.length = pu
    have HL := Lib.hid hL
    have HP := Lib.hid hp
    clear hL hp he
    go_enter Try.func45, Try.ntmps45
    go_wp2_with (first
      | (go_at_call 86; refine (find_any _ hB hcl hr1 hl1 hll).mono ?_; unfold RetFind; rw [HL.out, HE.out]; rintro e w1 ⟨vs, A1, c1, hvs, hone, hval, rfl, e1, e2, e3, hb1⟩; have HS := Lib.hid (hval rfl); have HV := Lib.hid hvs; have HO := Lib.hid hone; clear hvs hone hval)
      | (refine wpList_store_row (by rfl) 106 _ _ (by rfl) w1.heap.size _ (by rfl) (by rfl) 106 Try.zeroCells106 (Blk.new w1 106 _) (info106s HV.out) (Try.zeroCells106_size.trans HV.out.symm) HO.out ?_; have hz1 := hb1.size; have hbh1 := hbh.below hb1 (by simp); have hbh2 := (hbh1.alloc (.cells Try.zeroCells106 106)).farRow (g' := w1.heap.size) (by have := hbh1.lt; omega) vs; obtain ⟨d0, d1, d2, d3, d4⟩ := hbh2.five))
    have hba : Below w.heap.size w w1 := below_next hb0 (by simp) hb1
    have hzb := hba.size
    clear hb0
    clear d0 d1 d2 d3 d4
    go_loopw [9, 10, 23] (fun v _ i wr => ∃ k : Nat, ∃ A c', k ≤ n ∧ i = .int .i64 k ∧ v = .slice A (colsTo pu k).length c' ∧ Below w1.heap.size w1 wr ∧ Blk wr w.heap.size 24 #[.int .i64 n, .int .i64 R, .int .i64 B, .int .i64 F, .slice A0 cl.length cap] ∧ Blk wr w1.heap.size 106 vs ∧ wr.ownsRow (w1.heap.size + 1) 3 1 (.slice A (colsTo pu k).length c') (colsTo pu k).length ((colsTo pu k).map (Value.int .i64)))
      (fun _ _ i _ => n - (intOf i).toNat)
    case atStart => exact ⟨0, none, 0, by omega, rfl, rfl, below_setRow (below_new _ _) (Nat.le_refl _) _, hbh2, (Blk.new _ _ _).setRow _, World.ownsRow_nil _ _ _ _⟩
    case round =>
      obtain ⟨k, A, c', hk, rfl, rfl, hb, hb0, hbs, hown⟩ := hrel
      have hlt0 := hb0.lt
      have hlt1 := hbs.lt
      have hbt : Blk wr w1.heap.size 106 (sv n R B F (.slice A0 cl.length cap) (isIn cl) (isIn (colm n l))) := by rw [← HS.out]; exact hbs
      have hzr := hb.size
      by_cases hlt : k < n
      · have hc1 := hbt.svShut k (by omega)
        clear hbt
        have hln := colsTo_len pu k
        obtain ⟨d0, d1, d2, d3, d4⟩ := hb0.five
        cases hs : isIn cl k with
        | true =>
          have hpk : pu k = false := by rw [← HP.out]; simp [usefulP, hs]
          have HY := Lib.hid (colsTo_no hpk)
          rw [hs] at hc1
          clear hpk hs
          go_wp2_with fail
          go_roundw
          case rel => exact ⟨k + 1, A, c', by omega, by go_num, by rw [HY.out], hb, hb0, hbs, by rw [HY.out]; exact hown⟩
          case measure => simp [intOf]; try omega
        | false =>
          rw [hs] at hc1
          have haft : Hid (∀ w, Calls Try.prog 97 #[.agg vs, .int .i64 k] w (RetInts w (afters n B F (isIn cl) (isIn (colm n l)) k))) := fun w => by rw [HS.out]; exact after_any n R B F _ _ _ _ _ (by omega) k2 (by omega) (by omega) k3 k4 (by omega)
          have hal := aft_len (C := n) (B := B) (F := F) (p := isIn cl) (q := isIn (colm n l)) (s := k) (by omega) (by unfold bhK; omega)
          have hpk : pu k = decide (1 + (afters n B F (isIn cl) (isIn (colm n l)) k).length = L.length) := by rw [← HP.out]; simp [usefulP, hs]
          by_cases hq : 1 + (afters n B F (isIn cl) (isIn (colm n l)) k).length = L.length
          · have HY := Lib.hid (colsTo_yes (hpk.trans (decide_eq_true hq)))
            have hq1 : ((1 + (((afters n B F (isIn cl) (isIn (colm n l)) k).length : Nat) : Int)) == ((L.length : Nat) : Int)) = true := by simp; omega
            have hq2 : (1 + (((afters n B F (isIn cl) (isIn (colm n l)) k).length : Nat) : Int)) = ((L.length : Nat) : Int) := by omega
            clear hpk hs hq
            go_wp2_with (first
              | (refine wpList_load_rowG (by rfl) 106 _ (by rfl) _ (by rfl) 106 _ (0, 0) _ hbs Try.underlying106 rfl (info106s HV.out) ?_)
              | (go_at_call 97; refine (haft.out _).mono ?_; rintro e w2 ⟨A3, c3, rfl, f1, f2, f3, hb2⟩; obtain ⟨q1, q2⟩ := bcell hb2)
              | (at_builtin; refine app1 (by rfl) _ _ (by rfl) (w1.heap.size + 1) (colsTo pu k) k _ (by rfl) (own_below hown hb2) (by rfl) (by omega) (by have := hb2.size; omega) ?_; intro A' c'' w3 hown1 hb3))
            go_roundw
            case rel =>
              have hz := hb2.size
              exact ⟨k + 1, A', c'', by omega, by go_num, by rw [HY.out]; simp, (below_next hb (by omega) hb2).trans (hb3.mono (by omega)), (hb0.below hb2 (by omega)).below hb3 (by omega), (hbs.below hb2 (by omega)).below hb3 (by omega), by rw [HY.out]; exact hown1⟩
            case measure => simp [intOf]; try omega
          · have HY := Lib.hid (colsTo_no (hpk.trans (decide_eq_false hq)))
            have hq1 : ((1 + (((afters n B F (isIn cl) (isIn (colm n l)) k).length : Nat) : Int)) == ((L.length : Nat) : Int)) = false := by simp; omega
            have hq2 : ¬ (1 + (((afters n B F (isIn cl) (isIn (colm n l)) k).length : Nat) : Int)) = ((L.length : Nat) : Int) := by omega
            clear hpk hs hq
            go_wp2_with (first
              | (refine wpList_load_rowG (by rfl) 106 _ (by rfl) _ (by rfl) 106 _ (0, 0) _ hbs Try.underlying106 rfl (info106s HV.out) ?_)
              | (go_at_call 97; refine (haft.out _).mono ?_; rintro e w2 ⟨A3, c3, rfl, f1, f2, f3, hb2⟩; obtain ⟨q1, q2⟩ := bcell hb2))
            go_roundw
            case rel => exact ⟨k + 1, A, c', by omega, by go_num, by rw [HY.out], below_next hb (by omega) hb2, hb0.below hb2 (by omega), hbs.below hb2 (by omega), by rw [HY.out]; exact own_below hown hb2⟩
            case measure => simp [intOf]; try omega
      · obtain rfl : k = n := by omega
        go_wp2_with fail
        go_ret2
        exact RetInts2.of_own hown (hba.trans (hb.mono hba.size))
  · have hn1 : (findErr C R B F cl l == 0) = false := by simpa using he
    have hn2 : (findErr C R B F cl l != 0) = true := by simpa using he
    rw [if_neg he]
    clear he
    go_enter Try.func45, Try.ntmps45
    go_wp2_with (first
      | (go_at_call 86; refine (find_any _ hB hcl hr1 hl1 hll).mono ?_; rintro e w1 ⟨vs, A1, c1, hvs, hone, hval, rfl, h1, h2, h3, hb1⟩; have HV := Lib.hid hvs; have HO := Lib.hid hone; clear hvs hone hval)
      | (refine wpList_store_row (by rfl) 106 _ _ (by rfl) w1.heap.size _ (by rfl) (by rfl) 106 Try.zeroCells106 (Blk.new w1 106 _) (info106s HV.out) (Try.zeroCells106_size.trans HV.out.symm) HO.out ?_))
    go_ret2
    exact RetInts2.err (below_setRow ((below_next hb0 (by simp) hb1).alloc (by have := hb1.size; simp at this; omega) _) (by have := hb1.size; simp at this; omega) _)

end Go.Proofs.Ytnjmkdgglpcfpaa

