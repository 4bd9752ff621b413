import Derived.Test.YtnjmkdgglpcfpaaA40
namespace Go.Proofs.Ytnjmkdgglpcfpaa
set_option linter.unusedSimpArgs false
set_option linter.unusedVariables false
open Go.RowKit

/-- a list in order, by insertion -/
def ins (x : Int) : List Int → List Int
  | [] => [x]
  | y :: l => if x ≤ y then x :: y :: l else y :: ins x l
def isort : List Int → List Int
  | [] => []
  | x :: l => ins x (isort l)
theorem ins_perm (x : Int) : ∀ l, (ins x l).Perm (x :: l)
  | [] => List.Perm.refl _
  | y :: l => by
    unfold ins
    split
    · exact List.Perm.refl _
    · exact ((ins_perm x l).cons y).trans (List.Perm.swap x y l)
theorem isort_perm : ∀ l, (isort l).Perm l
  | [] => List.Perm.refl _
  | x :: l => (ins_perm x (isort l)).trans ((isort_perm l).cons x)
theorem ins_sorted (x : Int) : ∀ l : List Int, l.Pairwise (· ≤ ·) → (ins x l).Pairwise (· ≤ ·)
  | [], _ => by simp [ins]
  | y :: l, h => by
    unfold ins
    split
    · rename_i hxy
      refine List.pairwise_cons.2 ⟨fun z hz => ?_, h⟩
      rcases List.mem_cons.1 hz with rfl | hz
      · exact hxy
      · exact Int.le_trans hxy ((List.pairwise_cons.1 h).1 z hz)
    · rename_i hxy
      have h2 := List.pairwise_cons.1 h
      refine List.pairwise_cons.2 ⟨fun z hz => ?_, ins_sorted x l h2.2⟩
      rcases List.mem_cons.1 ((ins_perm x l).mem_iff.1 hz) with rfl | hz
      · omega
      · exact h2.1 z hz
theorem isort_sorted : ∀ l, (isort l).Pairwise (· ≤ ·)
  | [] => List.Pairwise.nil
  | x :: l => ins_sorted x _ (isort_sorted l)
theorem srt_sorted (l : List Int) : (srt l).Pairwise (· ≤ ·) := by
  have := List.pairwise_mergeSort (le := fun x y : Int => decide (x ≤ y)) (by intro a b c; simp; omega) (by intro a b; simp; omega) l
  exact this.imp (by simp)
theorem srt_perm (l : List Int) : (srt l).Perm l := List.mergeSort_perm l _
theorem srt_unique {l m : List Int} (hp : m.Perm l) (hs : m.Pairwise (· ≤ ·)) : srt l = m :=
  List.Perm.eq_of_pairwise (fun a b _ _ h1 h2 => Int.le_antisymm h1 h2) (srt_sorted l) hs ((srt_perm l).trans hp.symm)
theorem srt_isort (l : List Int) : srt l = isort l := srt_unique (isort_perm l) (isort_sorted l)

/-- fewL, with the sort by insertion -/
def fewLI (C B F : Int) (p q : Nat → Bool) : Option (List Int) :=
  match cols q with
  | [] => some []
  | c :: l => if (c :: l).all (fun x => !(opens C B F p x).isEmpty) then some (isort (rawOf C B F p q c)) else none
theorem fewL_isort (C B F : Int) (p q : Nat → Bool) : fewL C B F p q = fewLI C B F p q := by
  unfold fewL fewLI
  cases cols q with
  | nil => rfl
  | cons c l => simp only [srt_isort]

/-! The chapter's example -/
def xcl : List Int := [4, 5]
def xl : List Int := [2, 5, 18, 21, 22, 35]
def xcuts : List (Int × List Int) := [(0, [5, 9]), (1, [5, 9]), (2, [5, 9]), (3, [6, 10])]
theorem x_few : fewL 12 1 2 (isIn xcl) (isIn (colm 12 xl)) = some [0, 6, 10] := by
  rw [fewL_isort]
  kernel_rfl
theorem x_holes : holesErr 12 3 1 2 xcl xl = 0 := by kernel_rfl
theorem x_ok : Ok 12 3 1 2 xcl := (holesErr_zero.1 x_holes).ok
theorem x_err : findErr 12 3 1 2 xcl xl = 0 := (findErr_some (holesErr_zero.1 x_holes) x_few).1
theorem x_find : findL 12 3 1 2 xcl xl = [0, 6, 10] := (findErr_some (holesErr_zero.1 x_holes) x_few).2
theorem x_cuts : cutsOf 12 1 2 (isIn xcl) (isIn (colm 12 xl)) 3 = xcuts := by kernel_rfl
theorem x_ckFew : ckFew 12 3 1 2 xcl xl [0, 6, 10] xcuts = 0 := by kernel_rfl
theorem x_opens : opens 12 1 2 (isIn xcl) 5 = [3, 6] := by kernel_rfl
theorem x_useful : colsTo (usefulP 12 1 2 (isIn xcl) (isIn (colm 12 xl)) 3) 12 = [0, 1, 2, 3, 6, 7, 8, 9, 10, 11] := by kernel_rfl
theorem x_saves : (cols (isIn (colm 12 xl))).filter (savesP 12 1 2 (isIn xcl) (isIn (colm 12 xl)) 3) = [2, 6] := by
  unfold savesP
  simp only [fewL_isort]
  kernel_rfl
theorem x_needed : [0, 6, 10].filter (neededP 12 1 2 (isIn xcl) (isIn (colm 12 xl)) 3) = [] := by
  unfold neededP
  simp only [fewL_isort]
  kernel_rfl
theorem x_way : wayErr 12 3 1 2 xcl 0 [1, 6, 9] = 0 := by kernel_rfl
theorem x_best : bestOf 12 0 [1, 6, 9] = (1, 6) := by
  unfold bestOf sweepsOf waysOf
  simp only [srt_isort]
  kernel_rfl
theorem x_turn : turnsOf 1 6 = [1, -7] := by kernel_rfl
theorem x_ckTurn : ckTurn 12 3 1 2 xcl 0 [1, 6, 9] [1, -7] 8 = 0 := by kernel_rfl

section
variable {W : World} {A D E : Option Addr} {ca da : Nat}
theorem ex_col (h : Ints W W.heap.size A xcl) : Calls Try.prog 16 #[.agg #[.int .i64 12, .int .i64 3, .int .i64 1, .int .i64 2, .slice A 2 ca], .int .i64 21] W fun e w' => e = .returned (.tuple #[.int .i64 9, .int .i64 0]) ∧ Below W.heap.size W w' :=
  column_ok (cl := xcl) W x_ok h (by decide)
theorem ex_ring (h : Ints W W.heap.size A xcl) : Calls Try.prog 18 #[.agg #[.int .i64 12, .int .i64 3, .int .i64 1, .int .i64 2, .slice A 2 ca], .int .i64 21] W fun e w' => e = .returned (.tuple #[.int .i64 1, .int .i64 0]) ∧ Below W.heap.size W w' :=
  ring_ok (cl := xcl) W x_ok h (by decide)
theorem ex_count (h : Ints W W.heap.size A xcl) (hl : Ints W W.heap.size D xl) : Calls Try.prog 37 #[.agg #[.int .i64 12, .int .i64 3, .int .i64 1, .int .i64 2, .slice A 2 ca], .slice D 6 da] W fun e w' => e = .returned (.tuple #[.int .i64 3, .int .i64 0]) ∧ Below W.heap.size W w' := by
  have := count_any (C := 12) (R := 3) (B := 1) (F := 2) (cap := ca) (dap := da) W (by decide) (by decide) h hl (by decide)
  rw [x_err, x_find] at this
  exact this
theorem ex_fewest (h : Ints W W.heap.size A xcl) (hl : Ints W W.heap.size D xl) : Calls Try.prog 39 #[.agg #[.int .i64 12, .int .i64 3, .int .i64 1, .int .i64 2, .slice A 2 ca], .slice D 6 da] W fun e w' => ∃ E eap G gap, e = .returned (.tuple #[.agg #[.slice E 3 eap, .slice G 4 gap], .int .i64 0]) ∧ Ints w' w'.heap.size E [0, 6, 10] ∧ Cuts w' w'.heap.size G xcuts ∧ Below W.heap.size W w' := by
  have := fewestR_any 12 3 1 2 A ca xcl D da xl W (by decide) (by decide) h hl (by decide)
  rw [x_err, x_find, if_pos rfl] at this
  have e : cutsOf 12 1 2 (isIn xcl) (isIn (colm 12 xl)) (([0, 6, 10] : List Int).length : Nat) = xcuts := x_cuts
  rw [e] at this
  refine this.mono ?_
  rintro e w' ⟨E, eap, G, gap, h1, _, _, _, _, h2, h3, h4⟩
  exact ⟨E, eap, G, gap, h1, h2, h3, h4⟩
theorem ex_stands (h : Ints W W.heap.size A xcl) : Calls Try.prog 22 #[.agg #[.int .i64 12, .int .i64 3, .int .i64 1, .int .i64 2, .slice A 2 ca], .int .i64 5] W (RetInts2 W [3, 6] 0) := by
  have := stands_ok (c := 5) (cap := ca) W x_ok h (by decide)
  rw [x_opens] at this
  exact this
theorem ex_useful (h : Ints W W.heap.size A xcl) (hl : Ints W W.heap.size D xl) : Calls Try.prog 45 #[.agg #[.int .i64 12, .int .i64 3, .int .i64 1, .int .i64 2, .slice A 2 ca], .slice D 6 da] W (RetInts2 W [0, 1, 2, 3, 6, 7, 8, 9, 10, 11] 0) := by
  have := useful_any (C := 12) (R := 3) (B := 1) (F := 2) (cap := ca) (dap := da) W (by decide) (by decide) h hl (by decide)
  rw [x_err, x_find, if_pos rfl] at this
  have e : colsTo (usefulP 12 1 2 (isIn xcl) (isIn (colm 12 xl)) ([0, 6, 10] : List Int).length) (12 : Int).toNat = [0, 1, 2, 3, 6, 7, 8, 9, 10, 11] := x_useful
  rw [e] at this
  exact this
theorem ex_saves (h : Ints W W.heap.size A xcl) (hl : Ints W W.heap.size D xl) : Calls Try.prog 47 #[.agg #[.int .i64 12, .int .i64 3, .int .i64 1, .int .i64 2, .slice A 2 ca], .slice D 6 da] W (RetInts2 W [2, 6] 0) := by
  have := saves_any (C := 12) (R := 3) (B := 1) (F := 2) (cap := ca) (dap := da) W (by decide) (by decide) h hl (by decide)
  rw [x_err, x_find, if_pos rfl] at this
  have e : (cols (isIn (colm 12 xl))).filter (savesP 12 1 2 (isIn xcl) (isIn (colm 12 xl)) ([0, 6, 10] : List Int).length) = [2, 6] := x_saves
  rw [e] at this
  exact this
theorem ex_needed (h : Ints W W.heap.size A xcl) (hl : Ints W W.heap.size D xl) : Calls Try.prog 43 #[.agg #[.int .i64 12, .int .i64 3, .int .i64 1, .int .i64 2, .slice A 2 ca], .slice D 6 da] W (RetInts2 W [] 0) := by
  have := needed_any (C := 12) (R := 3) (B := 1) (F := 2) (cap := ca) (dap := da) W (by decide) (by decide) h hl (by decide)
  rw [x_err, x_find, if_pos rfl] at this
  have e : ([0, 6, 10] : List Int).filter (neededP 12 1 2 (isIn xcl) (isIn (colm 12 xl)) ([0, 6, 10] : List Int).length) = [] := x_needed
  rw [e] at this
  exact this
theorem ex_turn (h : Ints W W.heap.size A xcl) (hl : Ints W W.heap.size D [1, 6, 9]) : Calls Try.prog 51 #[.agg #[.int .i64 12, .int .i64 3, .int .i64 1, .int .i64 2, .slice A 2 ca], .int .i64 0, .slice D 3 da] W (RetTurn W [1, -7] 8 0) := by
  have := turn_any 12 3 1 2 A ca xcl 0 D da [1, 6, 9] W (by decide) (by decide) h hl (by decide)
  rw [x_way, if_pos rfl, if_pos rfl, x_best] at this
  exact this
theorem ex_ckFew {eap gap : Nat} {G : Option Addr} (h : Ints W W.heap.size A xcl) (hl : Ints W W.heap.size D xl) (hs : Ints W W.heap.size E [0, 6, 10]) (hg : Cuts W W.heap.size G xcuts) :
    Calls Try.prog 40 #[.agg #[.int .i64 12, .int .i64 3, .int .i64 1, .int .i64 2, .slice A 2 ca], .slice D 6 da, .agg #[.slice E 3 eap, .slice G 4 gap]] W fun e w' => e = .returned (.int .i64 0) ∧ Below W.heap.size W w' := by
  have := refCheckFewest_any 12 3 1 2 A ca xcl D da xl E eap [0, 6, 10] G gap xcuts W (by decide) (by decide) (by decide) (by decide) (by decide) h hl hs hg
  rw [x_ckFew] at this
  exact this
theorem ex_ckTurn {tap : Nat} {T : Option Addr} (h : Ints W W.heap.size A xcl) (hl : Ints W W.heap.size D [1, 6, 9]) (hs : Ints W W.heap.size T [1, -7]) :
    Calls Try.prog 53 #[.agg #[.int .i64 12, .int .i64 3, .int .i64 1, .int .i64 2, .slice A 2 ca], .int .i64 0, .slice D 3 da, .agg #[.slice T 2 tap, .int .i64 8]] W fun e w' => e = .returned (.int .i64 0) ∧ Below W.heap.size W w' := by
  have := refCheckTurn_any 12 3 1 2 A ca xcl 0 D da [1, 6, 9] T tap [1, -7] 8 W (by decide) (by decide) (by decide) h hl hs
  rw [x_ckTurn] at this
  exact this
end
end Go.Proofs.Ytnjmkdgglpcfpaa

namespace Go.Proofs.Ytnjmkdgglpcfpaa
set_option linter.unusedSimpArgs false
set_option linter.unusedVariables false
open Go.RowKit

theorem Ints.ofBlk {w : World} {g t : Nat} {l : List Int} {cs : Array Value} (h : Blk w g t cs) (hc : cs = (l.map (Value.int .i64)).toArray) : Ints w w.heap.size (some ⟨g, 0, none⟩) l := fun k x hx => by
  refine ⟨_, rfl, h.lt, ?_⟩
  rw [Addr.add_mid, Nat.zero_add, h.cell, hc]
  simp [hx]
theorem Cuts.behind {w w' : World} {G : Option Addr} {cs : List (Int × List Int)} (h : Cuts w w.heap.size G cs) (hb : Below w.heap.size w w') : Cuts w' w'.heap.size G cs := (h.below hb).more hb.size
set_option maxRecDepth 100000 in
set_option maxHeartbeats 1000000 in
theorem example_any (w : World) : Calls Try.prog 59 #[] w fun e w' => ∃ A D, e = .returned (.tuple #[.agg #[.int .i64 12, .int .i64 3, .int .i64 1, .int .i64 2, .slice A 2 2], .slice D 6 6]) ∧ Ints w' w'.heap.size A xcl ∧ Ints w' w'.heap.size D xl ∧ Below w.heap.size w w' := by
  go_enter Try.func59, Try.ntmps59
  go_wp2_with fail
  have hb : Below w.heap.size w (((w.alloc (.cells #[.int .i64 12, .int .i64 3, .int .i64 1, .int .i64 2, .slice (some ⟨w.heap.size + 1, 0, none⟩) 2 2] 24)).alloc (.cells #[.int .i64 4, .int .i64 5] 3)).alloc (.cells #[.int .i64 2, .int .i64 5, .int .i64 18, .int .i64 21, .int .i64 22, .int .i64 35] 3)) := ((below_new _ _).alloc (by simp) _).alloc (by simp; omega) _
  refine bodyPost_ret (results_cell2 (g := w.heap.size) rfl _ _ 24 _ (0, 0) _ rfl (((Blk.new _ _ _).alloc _).alloc _) Try.underlying24 rfl (info24 _ _ _ _ _)) rfl ?_
  exact ⟨_, _, rfl, Ints.ofBlk ((Blk.newAt (by simp)).alloc _) rfl, Ints.ofBlk (Blk.newAt (by simp)) rfl, hb⟩

/-- two lists that are the same -/
theorem same_n {l m : List Int} {n k : Nat} {A D : Option Addr} {cap dap : Nat} (W : World) (hr : Ints W W.heap.size A l) (hs : Ints W W.heap.size D m) (hn : n = l.length) (hk : k = m.length) (hll : l.length ≤ 1000000) (he : l = m) :
    Calls Try.prog 28 #[.slice A n cap, .slice D k dap] W fun e w' => e = .returned (.bool true) ∧ Below W.heap.size W w' := by
  subst hn hk he
  have := same_any l l A D cap dap W hll hll hr hs
  rwa [decide_eq_true rfl] at this

set_option maxRecDepth 100000 in
set_option maxHeartbeats 8000000 in
/-- the chapter's examples come out as they should -/
theorem sanity_any (w : World) : Calls Try.prog 15 #[] w fun e w' => e = .returned (.bool true) ∧ Below w.heap.size w w' := by
  have hs1 : decide (([3, 6] : List Int) = [3, 6]) = true := by decide
  go_enter Try.func15, Try.ntmps15
  go_wp2_with (first
    | (go_at_call 59; refine (example_any _).mono ?_; rintro e w1 ⟨A, D, rfl, iA1, iD1, bw1⟩; have hn1 := below_new w1 (.cells #[.int .i64 12, .int .i64 3, .int .i64 1, .int .i64 2, .slice A 2 2] 24); have iA2 := iA1.behind hn1; have iD2 := iD1.behind hn1; have bw2 := below_next bw1 bw1.size hn1; have kH2 := Blk.new w1 24 #[.int .i64 12, .int .i64 3, .int .i64 1, .int .i64 2, .slice A 2 2]; obtain ⟨d0, d1, d2, d3, d4⟩ := kH2.five)
    | (go_at_call 16; refine (ex_col iA2).mono ?_; rintro e w3 ⟨rfl, hb3⟩; have iA3 := iA2.behind hb3; have iD3 := iD2.behind hb3; have bw3 := below_next bw2 bw2.size hb3; have kH3 := kH2.below hb3 kH2.lt; clear d0 d1 d2 d3 d4; obtain ⟨d0, d1, d2, d3, d4⟩ := kH3.five)
    | (go_at_call 18; refine (ex_ring iA3).mono ?_; rintro e w4 ⟨rfl, hb4⟩; have iA4 := iA3.behind hb4; have iD4 := iD3.behind hb4; have bw4 := below_next bw3 bw3.size hb4; have kH4 := kH3.below hb4 kH3.lt; clear d0 d1 d2 d3 d4; obtain ⟨d0, d1, d2, d3, d4⟩ := kH4.five)
    | (go_at_call 37; refine (ex_count iA4 iD4).mono ?_; rintro e w5 ⟨rfl, hb5⟩; have iA5 := iA4.behind hb5; have iD5 := iD4.behind hb5; have bw5 := below_next bw4 bw4.size hb5; have kH5 := kH4.below hb5 kH4.lt; clear d0 d1 d2 d3 d4; obtain ⟨d0, d1, d2, d3, d4⟩ := kH5.five)
    | (go_at_call 39; refine (ex_fewest iA5 iD5).mono ?_; rintro e w6 ⟨E, eap, G, gap, rfl, iE6, iG6, hb6⟩; have iA6 := iA5.behind hb6; have iD6 := iD5.behind hb6; have bw6 := below_next bw5 bw5.size hb6; have kH6 := kH5.below hb6 kH5.lt; have hn6 := below_new w6 (.cells #[.slice E 3 eap, .slice G 4 gap] 56); have iA7 := iA6.behind hn6; have iD7 := iD6.behind hn6; have bw7 := below_next bw6 bw6.size hn6; have kH7 := kH6.below hn6 kH6.lt; have iE7 := iE6.behind hn6; have iG7 := iG6.behind hn6; have kR7 := Blk.new w6 56 #[.slice E 3 eap, .slice G 4 gap]; clear d0 d1 d2 d3 d4; obtain ⟨d0, d1, d2, d3, d4⟩ := kH7.five)
    | (go_at_call 22; refine (ex_stands iA7).mono ?_; rintro e w8 ⟨S, sap, rfl, s1, s2, iS8, hb8⟩; have iA8 := iA7.behind hb8; have iD8 := iD7.behind hb8; have bw8 := below_next bw7 bw7.size hb8; have kH8 := kH7.below hb8 kH7.lt; have iE8 := iE7.behind hb8; have iG8 := iG7.behind hb8; have kR8 := kR7.below hb8 kR7.lt; clear d0 d1 d2 d3 d4; obtain ⟨d0, d1, d2, d3, d4⟩ := kH8.five)
    | (go_at_call 45; refine (ex_useful iA8 iD8).mono ?_; rintro e w9 ⟨U, uap, rfl, u1, u2, iU9, hb9⟩; have iA9 := iA8.behind hb9; have iD9 := iD8.behind hb9; have bw9 := below_next bw8 bw8.size hb9; have kH9 := kH8.below hb9 kH8.lt; have iE9 := iE8.behind hb9; have iG9 := iG8.behind hb9; have kR9 := kR8.below hb9 kR8.lt; have iS9 := iS8.behind hb9; clear d0 d1 d2 d3 d4; obtain ⟨d0, d1, d2, d3, d4⟩ := kH9.five)
    | (go_at_call 47; refine (ex_saves iA9 iD9).mono ?_; rintro e w10 ⟨V, vap, rfl, v1, v2, iV10, hb10⟩; have iA10 := iA9.behind hb10; have iD10 := iD9.behind hb10; have bw10 := below_next bw9 bw9.size hb10; have kH10 := kH9.below hb10 kH9.lt; have iE10 := iE9.behind hb10; have iG10 := iG9.behind hb10; have kR10 := kR9.below hb10 kR9.lt; have iS10 := iS9.behind hb10; have iU10 := iU9.behind hb10; have hn10 := below_new w10 (.cells #[.int .i64 1, .int .i64 6, .int .i64 9] 3); clear d0 d1 d2 d3 d4; obtain ⟨d0, d1, d2, d3, d4⟩ := kH10.five)
    | (go_at_call 51; have iA11 := iA10.behind hn10; have iD11 := iD10.behind hn10; have bw11 := below_next bw10 bw10.size hn10; have kH11 := kH10.below hn10 kH10.lt; have iE11 := iE10.behind hn10; have iG11 := iG10.behind hn10; have kR11 := kR10.below hn10 kR10.lt; have iS11 := iS10.behind hn10; have iU11 := iU10.behind hn10; have iV11 := iV10.behind hn10; have iW11 := Ints.ofBlk (Blk.new w10 3 #[.int .i64 1, .int .i64 6, .int .i64 9]) (l := [1, 6, 9]) rfl; refine (ex_turn iA11 iW11).mono ?_; rintro e w12 ⟨Tt, tap, rfl, t1, t2, iT12, hb12⟩; have iA12 := iA11.behind hb12; have iD12 := iD11.behind hb12; have bw12 := below_next bw11 bw11.size hb12; have kH12 := kH11.below hb12 kH11.lt; have iE12 := iE11.behind hb12; have iG12 := iG11.behind hb12; have kR12 := kR11.below hb12 kR11.lt; have iS12 := iS11.behind hb12; have iU12 := iU11.behind hb12; have iV12 := iV11.behind hb12; have hn12 := below_new w12 (.cells #[.slice Tt 2 tap, .int .i64 8] 67); have iA13 := iA12.behind hn12; have iD13 := iD12.behind hn12; have bw13 := below_next bw12 bw12.size hn12; have kH13 := kH12.below hn12 kH12.lt; have iE13 := iE12.behind hn12; have iG13 := iG12.behind hn12; have kR13 := kR12.below hn12 kR12.lt; have iS13 := iS12.behind hn12; have iU13 := iU12.behind hn12; have iV13 := iV12.behind hn12; have iT13 := iT12.behind hn12; have kT13 := Blk.new w12 67 #[.slice Tt 2 tap, .int .i64 8]; clear d0 d1 d2 d3 d4; obtain ⟨d0, d1, d2, d3, d4⟩ := kH13.five)
    | (go_at_call 43; refine (ex_needed iA13 iD13).mono ?_; rintro e w14 ⟨N, nap, rfl, n1, n2, iN14, hb14⟩; have iA14 := iA13.behind hb14; have iD14 := iD13.behind hb14; have bw14 := below_next bw13 bw13.size hb14; have kH14 := kH13.below hb14 kH13.lt; have iE14 := iE13.behind hb14; have iG14 := iG13.behind hb14; have kR14 := kR13.below hb14 kR13.lt; have iS14 := iS13.behind hb14; have iU14 := iU13.behind hb14; have iV14 := iV13.behind hb14; have iT14 := iT13.behind hb14; have kT14 := kT13.below hb14 kT13.lt; obtain ⟨c0, c1⟩ : w14.cell? ⟨w6.heap.size, 0, none⟩ = some (.slice E 3 eap) ∧ w14.cell? ⟨w6.heap.size, 1, none⟩ = some (.slice G 4 gap) := ⟨kR14.cell 0, kR14.cell 1⟩; clear d0 d1 d2 d3 d4; obtain ⟨d0, d1, d2, d3, d4⟩ := kH14.five)
    | (go_at_call 40; refine (ex_ckFew iA14 iD14 iE14 iG14).mono ?_; rintro e w15 ⟨rfl, hb15⟩; have iA15 := iA14.behind hb15; have iD15 := iD14.behind hb15; have bw15 := below_next bw14 bw14.size hb15; have kH15 := kH14.below hb15 kH14.lt; have iE15 := iE14.behind hb15; have iG15 := iG14.behind hb15; have kR15 := kR14.below hb15 kR14.lt; have iS15 := iS14.behind hb15; have iU15 := iU14.behind hb15; have iV15 := iV14.behind hb15; have iT15 := iT14.behind hb15; have kT15 := kT14.below hb15 kT14.lt; clear d0 d1 d2 d3 d4; obtain ⟨d0, d1, d2, d3, d4⟩ := kH15.five))
  have hn15 := below_new w15 (.cells #[.int .i64 3, .int .i64 6] 3)
  have iA16 := iA15.behind hn15
  have iD16 := iD15.behind hn15
  have bw16 := below_next bw15 bw15.size hn15
  have kH16 := kH15.below hn15 kH15.lt
  have iE16 := iE15.behind hn15
  have iG16 := iG15.behind hn15
  have kR16 := kR15.below hn15 kR15.lt
  have iS16 := iS15.behind hn15
  have iU16 := iU15.behind hn15
  have iV16 := iV15.behind hn15
  have iT16 := iT15.behind hn15
  have kT16 := kT15.below hn15 kT15.lt
  refine (same_n _ iS16 (Ints.ofBlk (Blk.new w15 3 #[.int .i64 3, .int .i64 6]) (l := [3, 6]) rfl) rfl rfl (by decide) rfl).mono ?_
  rintro e w17 ⟨rfl, hb17⟩
  have iA17 := iA16.behind hb17
  have iD17 := iD16.behind hb17
  have bw17 := below_next bw16 bw16.size hb17
  have kH17 := kH16.below hb17 kH16.lt
  have iE17 := iE16.behind hb17
  have iG17 := iG16.behind hb17
  have kR17 := kR16.below hb17 kR16.lt
  have iS17 := iS16.behind hb17
  have iU17 := iU16.behind hb17
  have iV17 := iV16.behind hb17
  have iT17 := iT16.behind hb17
  have kT17 := kT16.below hb17 kT16.lt
  clear d0 d1 d2 d3 d4 c0 c1
  go_wp2_with fail
  have hn17 := below_new w17 (.cells #[.int .i64 0, .int .i64 1, .int .i64 2, .int .i64 3, .int .i64 6, .int .i64 7, .int .i64 8, .int .i64 9, .int .i64 10, .int .i64 11] 3)
  have iA18 := iA17.behind hn17
  have iD18 := iD17.behind hn17
  have bw18 := below_next bw17 bw17.size hn17
  have kH18 := kH17.below hn17 kH17.lt
  have iE18 := iE17.behind hn17
  have iG18 := iG17.behind hn17
  have kR18 := kR17.below hn17 kR17.lt
  have iS18 := iS17.behind hn17
  have iU18 := iU17.behind hn17
  have iV18 := iV17.behind hn17
  have iT18 := iT17.behind hn17
  have kT18 := kT17.below hn17 kT17.lt
  refine (same_n _ iU18 (Ints.ofBlk (Blk.new w17 3 #[.int .i64 0, .int .i64 1, .int .i64 2, .int .i64 3, .int .i64 6, .int .i64 7, .int .i64 8, .int .i64 9, .int .i64 10, .int .i64 11]) (l := [0, 1, 2, 3, 6, 7, 8, 9, 10, 11]) rfl) rfl rfl (by decide) rfl).mono ?_
  rintro e w19 ⟨rfl, hb19⟩
  have iA19 := iA18.behind hb19
  have iD19 := iD18.behind hb19
  have bw19 := below_next bw18 bw18.size hb19
  have kH19 := kH18.below hb19 kH18.lt
  have iE19 := iE18.behind hb19
  have iG19 := iG18.behind hb19
  have kR19 := kR18.below hb19 kR18.lt
  have iS19 := iS18.behind hb19
  have iU19 := iU18.behind hb19
  have iV19 := iV18.behind hb19
  have iT19 := iT18.behind hb19
  have kT19 := kT18.below hb19 kT18.lt
  go_wp2_with fail
  have hn19 := below_new w19 (.cells #[.int .i64 2, .int .i64 6] 3)
  have iA20 := iA19.behind hn19
  have iD20 := iD19.behind hn19
  have bw20 := below_next bw19 bw19.size hn19
  have kH20 := kH19.below hn19 kH19.lt
  have iE20 := iE19.behind hn19
  have iG20 := iG19.behind hn19
  have kR20 := kR19.below hn19 kR19.lt
  have iS20 := iS19.behind hn19
  have iU20 := iU19.behind hn19
  have iV20 := iV19.behind hn19
  have iT20 := iT19.behind hn19
  have kT20 := kT19.below hn19 kT19.lt
  refine (same_n _ iV20 (Ints.ofBlk (Blk.new w19 3 #[.int .i64 2, .int .i64 6]) (l := [2, 6]) rfl) rfl rfl (by decide) rfl).mono ?_
  rintro e w21 ⟨rfl, hb21⟩
  have iA21 := iA20.behind hb21
  have iD21 := iD20.behind hb21
  have bw21 := below_next bw20 bw20.size hb21
  have kH21 := kH20.below hb21 kH20.lt
  have iE21 := iE20.behind hb21
  have iG21 := iG20.behind hb21
  have kR21 := kR20.below hb21 kR20.lt
  have iS21 := iS20.behind hb21
  have iU21 := iU20.behind hb21
  have iV21 := iV20.behind hb21
  have iT21 := iT20.behind hb21
  have kT21 := kT20.below hb21 kT20.lt
  obtain ⟨d0, d1, d2, d3, d4⟩ := kH21.five
  obtain ⟨c0, c1⟩ : w21.cell? ⟨w12.heap.size, 0, none⟩ = some (.slice Tt 2 tap) ∧ w21.cell? ⟨w12.heap.size, 1, none⟩ = some (.int .i64 8) := ⟨kT21.cell 0, kT21.cell 1⟩
  have zH := kH21.lt
  have zT := kT21.lt
  go_wp2_with fail
  have hn21 := below_new w21 (.cells #[.int .i64 1, .int .i64 6, .int .i64 9] 3)
  have iA22 := iA21.behind hn21
  have iD22 := iD21.behind hn21
  have bw22 := below_next bw21 bw21.size hn21
  have kH22 := kH21.below hn21 kH21.lt
  have iE22 := iE21.behind hn21
  have iG22 := iG21.behind hn21
  have kR22 := kR21.below hn21 kR21.lt
  have iS22 := iS21.behind hn21
  have iU22 := iU21.behind hn21
  have iV22 := iV21.behind hn21
  have iT22 := iT21.behind hn21
  have kT22 := kT21.below hn21 kT21.lt
  refine (ex_ckTurn iA22 (Ints.ofBlk (Blk.new w21 3 #[.int .i64 1, .int .i64 6, .int .i64 9]) (l := [1, 6, 9]) rfl) iT22).mono ?_
  rintro e w23 ⟨rfl, hb23⟩
  have iA23 := iA22.behind hb23
  have iD23 := iD22.behind hb23
  have bw23 := below_next bw22 bw22.size hb23
  have kH23 := kH22.below hb23 kH22.lt
  have iE23 := iE22.behind hb23
  have iG23 := iG22.behind hb23
  have kR23 := kR22.below hb23 kR22.lt
  have iS23 := iS22.behind hb23
  have iU23 := iU22.behind hb23
  have iV23 := iV22.behind hb23
  have iT23 := iT22.behind hb23
  have kT23 := kT22.below hb23 kT22.lt
  clear d0 d1 d2 d3 d4 c0 c1
  go_wp2_with fail
  go_ret
  exact ⟨rfl, bw23⟩

end Go.Proofs.Ytnjmkdgglpcfpaa

