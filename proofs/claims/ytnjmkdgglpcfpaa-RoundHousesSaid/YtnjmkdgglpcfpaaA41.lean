import Derived.Test.YtnjmkdgglpcfpaaA40
namespace Go.Proofs.Ytnjmkdgglpcfpaa
set_option linter.unusedSimpArgs false
set_option linter.unusedVariables false
open Go.RowKit

/-- a list in order, by insertion -/
def ins (x : Int) : List Int → List Int
  | [] => [x]
  | y :: l => if x ≤ y then x :: y :: l else y :: ins x l
def isort : List Int → List Int
  | [] => []
  | x :: l => ins x (isort l)
theorem ins_perm (x : Int) : ∀ l, (ins x l).Perm (x :: l)
  | [] => List.Perm.refl _
  | y :: l => by
    unfold ins
    split
    · exact List.Perm.refl _
    · exact ((ins_perm x l).cons y).trans (List.Perm.swap x y l)
theorem isort_perm : ∀ l, (isort l).Perm l
  | [] => List.Perm.refl _
  | x :: l => (ins_perm x (isort l)).trans ((isort_perm l).cons x)
theorem ins_sorted (x : Int) : ∀ l : List Int, l.Pairwise (· ≤ ·) → (ins x l).Pairwise (· ≤ ·)
  | [], _ => by simp [ins]
  | y :: l, h => by
    unfold ins
    split
    · rename_i hxy
      refine List.pairwise_cons.2 ⟨fun z hz => ?_, h⟩
      rcases List.mem_cons.1 hz with rfl | hz
      · exact hxy
      · exact Int.le_trans hxy ((List.pairwise_cons.1 h).1 z hz)
    · rename_i hxy
      have h2 := List.pairwise_cons.1 h
      refine List.pairwise_cons.2 ⟨fun z hz => ?_, ins_sorted x l h2.2⟩
      rcases List.mem_cons.1 ((ins_perm x l).mem_iff.1 hz) with rfl | hz
      · omega
      · exact h2.1 z hz
theorem isort_sorted : ∀ l, (isort l).Pairwise (· ≤ ·)
  | [] => List.Pairwise.nil
  | x :: l => ins_sorted x _ (isort_sorted l)
theorem srt_sorted (l : List Int) : (srt l).Pairwise (· ≤ ·) := by
  have := List.pairwise_mergeSort (le := fun x y : Int => decide (x ≤ y)) (by intro a b c; simp; omega) (by intro a b; simp; omega) l
  exact this.imp (by simp)
theorem srt_perm (l : List Int) : (srt l).Perm l := List.mergeSort_perm l _
theorem srt_unique {l m : List Int} (hp : m.Perm l) (hs : m.Pairwise (· ≤ ·)) : srt l = m :=
  List.Perm.eq_of_pairwise (fun a b _ _ h1 h2 => Int.le_antisymm h1 h2) (srt_sorted l) hs ((srt_perm l).trans hp.symm)
theorem srt_isort (l : List Int) : srt l = isort l := srt_unique (isort_perm l) (isort_sorted l)

/-- fewL, with the sort by insertion -/
def fewLI (C B F : Int) (p q : Nat → Bool) : Option (List Int) :=
  match cols q with
  | [] => some []
  | c :: l => if (c :: l).all (fun x => !(opens C B F p x).isEmpty) then some (isort (rawOf C B F p q c)) else none
theorem fewL_isort (C B F : Int) (p q : Nat → Bool) : fewL C B F p q = fewLI C B F p q := by
  unfold fewL fewLI
  cases cols q with
  | nil => rfl
  | cons c l => simp only [srt_isort]

/-! The chapter's example -/
def xcl : List Int := [4, 5]
def xl : List Int := [2, 5, 18, 21, 22, 35]
def xcuts : List (Int × List Int) := [(0, [5, 9]), (1, [5, 9]), (2, [5, 9]), (3, [6, 10])]
theorem x_few : fewL 12 1 2 (isIn xcl) (isIn (colm 12 xl)) = some [0, 6, 10] := by
  rw [fewL_isort]
  kernel_rfl
theorem x_holes : holesErr 12 3 1 2 xcl xl = 0 := by kernel_rfl
theorem x_ok : Ok 12 3 1 2 xcl := (holesErr_zero.1 x_holes).ok
theorem x_err : findErr 12 3 1 2 xcl xl = 0 := (findErr_some (holesErr_zero.1 x_holes) x_few).1
theorem x_find : findL 12 3 1 2 xcl xl = [0, 6, 10] := (findErr_some (holesErr_zero.1 x_holes) x_few).2
theorem x_cuts : cutsOf 12 1 2 (isIn xcl) (isIn (colm 12 xl)) 3 = xcuts := by kernel_rfl
theorem x_ckFew : ckFew 12 3 1 2 xcl xl [0, 6, 10] xcuts = 0 := by kernel_rfl
theorem x_opens : opens 12 1 2 (isIn xcl) 5 = [3, 6] := by kernel_rfl
theorem x_useful : colsTo (usefulP 12 1 2 (isIn xcl) (isIn (colm 12 xl)) 3) 12 = [0, 1, 2, 3, 6, 7, 8, 9, 10, 11] := by kernel_rfl
theorem x_saves : (cols (isIn (colm 12 xl))).filter (savesP 12 1 2 (isIn xcl) (isIn (colm 12 xl)) 3) = [2, 6] := by
  unfold savesP
  simp only [fewL_isort]
  kernel_rfl
theorem x_needed : [0, 6, 10].filter (neededP 12 1 2 (isIn xcl) (isIn (colm 12 xl)) 3) = [] := by
  unfold neededP
  simp only [fewL_isort]
  kernel_rfl
theorem x_way : wayErr 12 3 1 2 xcl 0 [1, 6, 9] = 0 := by kernel_rfl
theorem x_best : bestOf 12 0 [1, 6, 9] = (1, 6) := by
  unfold bestOf sweepsOf waysOf
  simp only [srt_isort]
  kernel_rfl
theorem x_turn : turnsOf 1 6 = [1, -7] := by kernel_rfl
theorem x_ckTurn : ckTurn 12 3 1 2 xcl 0 [1, 6, 9] [1, -7] 8 = 0 := by kernel_rfl

section
variable {W : World} {A D E : Option Addr} {ca da : Nat}
theorem ex_col (h : Ints W W.heap.size A xcl) : Calls Try.prog 16 #[.agg #[.int .i64 12, .int .i64 3, .int .i64 1, .int .i64 2, .slice A 2 ca], .int .i64 21] W fun e w' => e = .returned (.tuple #[.int .i64 9, .int .i64 0]) ∧ Below W.heap.size W w' :=
  column_ok (cl := xcl) W x_ok h (by decide)
theorem ex_ring (h : Ints W W.heap.size A xcl) : Calls Try.prog 18 #[.agg #[.int .i64 12, .int .i64 3, .int .i64 1, .int .i64 2, .slice A 2 ca], .int .i64 21] W fun e w' => e = .returned (.tuple #[.int .i64 1, .int .i64 0]) ∧ Below W.heap.size W w' :=
  ring_ok (cl := xcl) W x_ok h (by decide)
theorem ex_count (h : Ints W W.heap.size A xcl) (hl : Ints W W.heap.size D xl) : Calls Try.prog 37 #[.agg #[.int .i64 12, .int .i64 3, .int .i64 1, .int .i64 2, .slice A 2 ca], .slice D 6 da] W fun e w' => e = .returned (.tuple #[.int .i64 3, .int .i64 0]) ∧ Below W.heap.size W w' := by
  have := count_any (C := 12) (R := 3) (B := 1) (F := 2) (cap := ca) (dap := da) W (by decide) (by decide) h hl (by decide)
  rw [x_err, x_find] at this
  exact this
theorem ex_fewest (h : Ints W W.heap.size A xcl) (hl : Ints W W.heap.size D xl) : Calls Try.prog 39 #[.agg #[.int .i64 12, .int .i64 3, .int .i64 1, .int .i64 2, .slice A 2 ca], .slice D 6 da] W fun e w' => ∃ E eap G gap, e = .returned (.tuple #[.agg #[.slice E 3 eap, .slice G 4 gap], .int .i64 0]) ∧ Ints w' w'.heap.size E [0, 6, 10] ∧ Cuts w' w'.heap.size G xcuts ∧ Below W.heap.size W w' := by
  have := fewestR_any 12 3 1 2 A ca xcl D da xl W (by decide) (by decide) h hl (by decide)
  rw [x_err, x_find, if_pos rfl] at this
  have e : cutsOf 12 1 2 (isIn xcl) (isIn (colm 12 xl)) (([0, 6, 10] : List Int).length : Nat) = xcuts := x_cuts
  rw [e] at this
  refine this.mono ?_
  rintro e w' ⟨E, eap, G, gap, h1, _, _, _, _, h2, h3, h4⟩
  exact ⟨E, eap, G, gap, h1, h2, h3, h4⟩
theorem ex_stands (h : Ints W W.heap.size A xcl) : Calls Try.prog 22 #[.agg #[.int .i64 12, .int .i64 3, .int .i64 1, .int .i64 2, .slice A 2 ca], .int .i64 5] W (RetInts2 W [3, 6] 0) := by
  have := stands_ok (c := 5) (cap := ca) W x_ok h (by decide)
  rw [x_opens] at this
  exact this
theorem ex_useful (h : Ints W W.heap.size A xcl) (hl : Ints W W.heap.size D xl) : Calls Try.prog 45 #[.agg #[.int .i64 12, .int .i64 3, .int .i64 1, .int .i64 2, .slice A 2 ca], .slice D 6 da] W (RetInts2 W [0, 1, 2, 3, 6, 7, 8, 9, 10, 11] 0) := by
  have := useful_any (C := 12) (R := 3) (B := 1) (F := 2) (cap := ca) (dap := da) W (by decide) (by decide) h hl (by decide)
  rw [x_err, x_find, if_pos rfl] at this
  have e : colsTo (usefulP 12 1 2 (isIn xcl) (isIn (colm 12 xl)) ([0, 6, 10] : List Int).length) (12 : Int).toNat = [0, 1, 2, 3, 6, 7, 8, 9, 10, 11] := x_useful
  rw [e] at this
  exact this
theorem ex_saves (h : Ints W W.heap.size A xcl) (hl : Ints W W.heap.size D xl) : Calls Try.prog 47 #[.agg #[.int .i64 12, .int .i64 3, .int .i64 1, .int .i64 2, .slice A 2 ca], .slice D 6 da] W (RetInts2 W [2, 6] 0) := by
  have := saves_any (C := 12) (R := 3) (B := 1) (F := 2) (cap := ca) (dap := da) W (by decide) (by decide) h hl (by decide)
  rw [x_err, x_find, if_pos rfl] at this
  have e : (cols (isIn (colm 12 xl))).filter (savesP 12 1 2 (isIn xcl) (isIn (colm 12 xl)) ([0, 6, 10] : List Int).length) = [2, 6] := x_saves
  rw [e] at this
  exact this
theorem ex_needed (h : Ints W W.heap.size A xcl) (hl : Ints W W.heap.size D xl) : Calls Try.prog 43 #[.agg #[.int .i64 12, .int .i64 3, .int .i64 1, .int .i64 2, .slice A 2 ca], .slice D 6 da] W (RetInts2 W [] 0) := by
  have := needed_any (C := 12) (R := 3) (B := 1) (F := 2) (cap := ca) (dap := da) W (by decide) (by decide) h hl (by decide)
  rw [x_err, x_find, if_pos rfl] at this
  have e : ([0, 6, 10] : List Int).filter (neededP 12 1 2 (isIn xcl) (isIn (colm 12 xl)) ([0, 6, 10] : List Int).length) = [] := x_needed
  rw [e] at this
  exact this
theorem ex_turn (h : Ints W W.heap.size A xcl) (hl : Ints W W.heap.size D [1, 6, 9]) : Calls Try.prog 51 #[.agg #[.int .i64 12, .int .i64 3, .int .i64 1, .int .i64 2, .slice A 2 ca], .int .i64 0, .slice D 3 da] W (RetTurn W [1, -7] 8 0) := by
  have := turn_any 12 3 1 2 A ca xcl 0 D da [1, 6, 9] W (by decide) (by decide) h hl (by decide)
  rw [x_way, if_pos rfl, if_pos rfl, x_best] at this
  exact this
theorem ex_ckFew {eap gap : Nat} {G : Option Addr} (h : Ints W W.heap.size A xcl) (hl : Ints W W.heap.size D xl) (hs : Ints W W.heap.size E [0, 6, 10]) (hg : Cuts W W.heap.size G xcuts) :
    Calls Try.prog 40 #[.agg #[.int .i64 12, .int .i64 3, .int .i64 1, .int .i64 2, .slice A 2 ca], .slice D 6 da, .agg #[.slice E 3 eap, .slice G 4 gap]] W fun e w' => e = .returned (.int .i64 0) ∧ Below W.heap.size W w' := by
  have := refCheckFewest_any 12 3 1 2 A ca xcl D da xl E eap [0, 6, 10] G gap xcuts W (by decide) (by decide) (by decide) (by decide) (by decide) h hl hs hg
  rw [x_ckFew] at this
  exact this
theorem ex_ckTurn {tap : Nat} {T : Option Addr} (h : Ints W W.heap.size A xcl) (hl : Ints W W.heap.size D [1, 6, 9]) (hs : Ints W W.heap.size T [1, -7]) :
    Calls Try.prog 53 #[.agg #[.int .i64 12, .int .i64 3, .int .i64 1, .int .i64 2, .slice A 2 ca], .int .i64 0, .slice D 3 da, .agg #[.slice T 2 tap, .int .i64 8]] W fun e w' => e = .returned (.int .i64 0) ∧ Below W.heap.size W w' := by
  have := refCheckTurn_any 12 3 1 2 A ca xcl 0 D da [1, 6, 9] T tap [1, -7] 8 W (by decide) (by decide) (by decide) h hl hs
  rw [x_ckTurn] at this
  exact this
end
end Go.Proofs.Ytnjmkdgglpcfpaa
