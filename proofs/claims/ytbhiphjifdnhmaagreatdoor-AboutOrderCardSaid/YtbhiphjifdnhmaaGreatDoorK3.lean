import Derived.Test.YtbhiphjifdnhmaaGreatDoorM4
import Derived.Test.YtbhiphjifdnhmaaGreatDoorA9
import Derived.Maps.RangeWalk
import Derived.Test.YtbhiphjifdnhmaaGreatDoorV0
import Derived.Deep.MidRow
import Derived.Maps.AppendAt
set_option linter.unusedSimpArgs false
set_option linter.unusedVariables false
/- Definitions of a calendar, texts in memory, and books as functions. -/
namespace Go.Proofs.YtbhiphjifdnhmaaGreatDoor
open Go.RowKit Go.Maps

/-- a definition -/
structure Df where
  name : ByteArray
  known : Int
  kind : Int
  of : ByteArray
  wth : ByteArray
  days : Nat → Int
/-- the cells of a definition -/
def dfL (d : Df) : List Value := .string d.name :: .int .i64 d.known :: .int .i64 d.kind :: .string d.of :: .string d.wth :: (va d.days).toList
def dfA (d : Df) : Array Value := (dfL d).toArray
theorem dfL_len (d : Df) : (dfL d).length = 29 := by simp [dfL, va_size]
theorem dfA_size (d : Df) : (dfA d).size = 29 := by simp [dfA, dfL_len]
theorem dfA_get (d : Df) : (dfA d)[0]? = some (.string d.name) ∧ (dfA d)[1]? = some (.int .i64 d.known) ∧ (dfA d)[2]? = some (.int .i64 d.kind) ∧ (dfA d)[3]? = some (.string d.of) ∧ (dfA d)[4]? = some (.string d.wth) := ⟨rfl, rfl, rfl, rfl, rfl⟩
theorem dfA_days (d : Df) (i : Nat) (h : i < 24) : (dfA d)[5 + i]? = some (.int .i64 (d.days i)) := by
  have := va_get d.days i h
  simp only [dfA, dfL, List.getElem?_toArray]
  rw [show 5 + i = i + 1 + 1 + 1 + 1 + 1 by omega]
  simp only [List.getElem?_cons_succ]
  rw [← this]; simp
theorem dfL_one (d : Df) : ∀ v ∈ dfL d, v.oneCell' = true := by
  intro v hv
  simp only [dfL, List.mem_cons] at hv
  rcases hv with rfl | rfl | rfl | rfl | rfl | hv
  · rfl
  · rfl
  · rfl
  · rfl
  · rfl
  · have h := va_one d.days
    rw [Array.all_eq_true] at h
    obtain ⟨i, hi, rfl⟩ := Array.mem_iff_getElem.1 (by simpa using hv : v ∈ va d.days)
    exact h i hi
/-- no definition -/
def df0 : Df := ⟨ByteArray.empty, 0, 0, ByteArray.empty, ByteArray.empty, zeroV⟩
theorem info60 (d : Df) : (Tryz.prog.info? 60).map (·.size) = some (dfA d).size := by
  rw [dfA_size]; kernel_rfl
theorem zero60 (w : World) : (zeroValue 60).run Tryz.prog w = .ok (.agg (dfA df0)) w := by kernel_rfl
theorem zero26 (w : World) : (zeroValue 26).run Tryz.prog w = .ok (.agg (va zeroV)) w := by kernel_rfl
theorem zero4 (w : World) : (zeroValue 4).run Tryz.prog w = .ok (.bool false) w := by kernel_rfl
theorem zero58 (w : World) : (zeroValue 58).run Tryz.prog w = .ok (.slice none 0 0) w := by kernel_rfl
theorem keyT : Keyed Tryz.prog 9 := string_keyed Tryz.underlying9
theorem key_any (s : ByteArray) (h : s.size ≤ maxLen) : keyOf Tryz.prog 9 (.string s) = some (.string s.data.toList) := WideMaps.keyOf_string_mk Tryz.underlying9 h

/-- the slice at A reads, in w, as the texts l; what it reads lies below block B -/
def Strs (w : World) (B : Nat) (A : Option Addr) (l : List ByteArray) : Prop :=
  ∀ k x, l[k]? = some x → ∃ ad, A = some ad ∧ ad.block < B ∧ w.cell? (ad.add k) = some (.string x)
section
variable {w w' : World} {B B' : Nat} {A : Option Addr} {l : List ByteArray}
theorem Strs.nil : Strs w B A [] := fun k x h => by simp at h
theorem Strs.get (h : Strs w B A l) {k : Nat} (hk : k < l.length) : ∃ ad, A = some ad ∧ ad.block < B ∧ w.cell? (ad.add k) = some (.string l[k]) :=
  h k _ (List.getElem?_eq_getElem hk)
theorem Strs.moved (h : Strs w B A l) (hw : ∀ p : Addr, p.block < B → w'.cell? p = w.cell? p) : Strs w' B A l := fun k x hx => by
  obtain ⟨ad, e, hb, hc⟩ := h k x hx
  exact ⟨ad, e, hb, (hw _ (by rw [addr_block]; exact hb)).trans hc⟩
theorem Strs.more (h : Strs w B A l) (hB : B ≤ B') : Strs w B' A l := fun k x hx => by
  obtain ⟨ad, e, hb, hc⟩ := h k x hx
  exact ⟨ad, e, Nat.lt_of_lt_of_le hb hB, hc⟩
theorem Strs.below (h : Strs w B A l) (hb : Below B w w') : Strs w' B A l := h.moved fun _ hp => hb.cell hp
theorem Strs.behind (h : Strs w w.heap.size A l) (hb : Below w.heap.size w w') : Strs w' w'.heap.size A l := (h.below hb).more hb.size
theorem Strs.of_own {base : Nat} {e : TypeId} {n c : Nat} (h : w.ownsRow base e 1 (.slice A n c) n (l.map Value.string)) : Strs w w.heap.size A l := fun k x hx => by
  rcases h.2 with ⟨hv, rfl⟩ | ⟨g, cap, cur, hv, _⟩
  · have := h.1
    simp only [List.length_map, Nat.zero_mul] at this
    have hl : l = [] := List.eq_nil_of_length_eq_zero this
    subst hl
    simp at hx
  · injection hv with hA
    subst hA
    refine ⟨_, rfl, (h.lt g rfl).2, h.cells (g := g) rfl k _ ?_⟩
    simp [hx]
end
/-- the definitions in memory at A -/
def Defs (w : World) (B : Nat) (A : Option Addr) (l : List Df) : Prop :=
  ∀ k d, l[k]? = some d → ∃ g o, A = some ⟨g, o, none⟩ ∧ g < B ∧ ∀ j v, (dfL d)[j]? = some v → w.cell? ⟨g, o + k * 29 + j, none⟩ = some v
theorem Defs.moved {w w' : World} {B : Nat} {A : Option Addr} {l : List Df} (h : Defs w B A l) (hw : ∀ p : Addr, p.block < B → w'.cell? p = w.cell? p) : Defs w' B A l := fun k x hx => by
  obtain ⟨g, o, e, hb, hc⟩ := h k x hx
  exact ⟨g, o, e, hb, fun j v hv => (hw ⟨g, o + k * 29 + j, none⟩ hb).trans (hc j v hv)⟩
theorem Defs.below {w w' : World} {B : Nat} {A : Option Addr} {l : List Df} (h : Defs w B A l) (hb : Below B w w') : Defs w' B A l := h.moved fun _ hp => hb.cell hp
theorem Defs.more {w : World} {B B' : Nat} {A : Option Addr} {l : List Df} (h : Defs w B A l) (hB : B ≤ B') : Defs w B' A l := fun k x hx => by
  obtain ⟨g, o, e, hb, hc⟩ := h k x hx
  exact ⟨g, o, e, Nat.lt_of_lt_of_le hb hB, hc⟩

/-- a book: what each name is defined by -/
def bookV (b : List UInt8 → Option Df) : List UInt8 → Option Value := fun s => (b s).map fun d => .agg (dfA d)
theorem bookV_get (b : List UInt8 → Option Df) (s : List UInt8) : (bookV b s).getD (.agg (dfA df0)) = .agg (dfA ((b s).getD df0)) := by
  unfold bookV
  cases b s <;> rfl
/-- texts are returned in new memory -/
def RetStrs (w : World) (l : List ByteArray) (e : Ending) (w' : World) : Prop :=
  ∃ A c, e = .returned (.slice A l.length c) ∧ w'.ownsRow w.heap.size 9 1 (.slice A l.length c) l.length (l.map Value.string) ∧ Below w.heap.size w w'
/-- the names that a definition has -/
def dfParts (d : Df) : List ByteArray := if d.kind = 2 then [d.of] else if d.kind = 3 ∨ d.kind = 4 then [d.of, d.wth] else []
def partsL (b : List UInt8 → Option Df) (s : List UInt8) : List ByteArray := dfParts ((b s).getD df0)
end Go.Proofs.YtbhiphjifdnhmaaGreatDoor

/- parts. -/
namespace Go.Proofs.YtbhiphjifdnhmaaGreatDoor
open Go.RowKit Go.Maps
theorem z60 : (#[.string ⟨#[]⟩, .int .i64 0, .int .i64 0, .string ⟨#[]⟩, .string ⟨#[]⟩, .int .i64 0, .int .i64 0, .int .i64 0, .int .i64 0, .int .i64 0, .int .i64 0, .int .i64 0, .int .i64 0, .int .i64 0, .int .i64 0, .int .i64 0, .int .i64 0, .int .i64 0, .int .i64 0, .int .i64 0, .int .i64 0, .int .i64 0, .int .i64 0, .int .i64 0, .int .i64 0, .int .i64 0, .int .i64 0, .int .i64 0, .int .i64 0] : Array Value) = dfA df0 := by kernel_rfl
/-- a definition stored whole at slot t -/
theorem stD {ops : Array Oper} {rest : List Oper} {o : Oper} {a : Act} {w : World} {Q : Exit → Act → World → Prop} (t s : Tmp) (hgd : o.guard = none) (ho : o.op = .store 60 (.tmp t) (.tmp s))
    {g : Nat} {T : TypeId} {d old : Df} (hB : Blk w g T (dfA old)) (hx : a.eval (.tmp t) = .pointer (some ⟨g, 0, none⟩)) (hy : a.eval (.tmp s) = .agg (dfA d)) (h : wpList Tryz.prog ops Q rest (a.put o.dst undef) (w.setRow g (dfA d))) : wpList Tryz.prog ops Q (o :: rest) a w :=
  wpList_store_row hgd 60 _ _ ho g _ hx hy T _ hB (info60 _) (by rw [dfA_size, dfA_size]) (by
    rw [Array.all_eq_true]
    intro i hi
    exact dfL_one d _ (by simp [dfA])) h
theorem Blk.df {w : World} {g : Nat} {t : TypeId} {d : Df} (h : Blk w g t (dfA d)) : w.cell? ⟨g, 0, none⟩ = some (.string d.name) ∧ w.cell? ⟨g, 1, none⟩ = some (.int .i64 d.known) ∧ w.cell? ⟨g, 2, none⟩ = some (.int .i64 d.kind) ∧ w.cell? ⟨g, 3, none⟩ = some (.string d.of) ∧ w.cell? ⟨g, 4, none⟩ = some (.string d.wth) :=
  ⟨h.cell 0, h.cell 1, h.cell 2, h.cell 3, h.cell 4⟩
theorem own_new (w : World) (e : TypeId) (base : Nat) (hb : base ≤ w.heap.size) (xs : List Value) (hl : xs.length ≤ maxLen) : (w.alloc (.cells xs.toArray e)).ownsRow base e 1 (.slice (some ⟨w.heap.size, 0, none⟩) xs.length xs.length) xs.length xs :=
  ⟨by simp, .inr ⟨w.heap.size, xs.length, xs.toArray, rfl, hb, Blk.new _ _ _, Nat.le_refl _, hl, by simp, by simp⟩⟩
theorem own_newAt {w : World} {g : Nat} (hg : w.heap.size = g) (e : TypeId) (base : Nat) (hb : base ≤ g) (xs : List Value) (hl : xs.length ≤ maxLen) : (w.alloc (.cells xs.toArray e)).ownsRow base e 1 (.slice (some ⟨g, 0, none⟩) xs.length xs.length) xs.length xs := by
  subst hg
  exact own_new w e base hb xs hl
theorem own_none (w : World) (base : Nat) (e : TypeId) : w.ownsRow base e 1 (.slice none 0 0) 0 [] := ⟨rfl, .inl ⟨rfl, rfl⟩⟩

set_option maxRecDepth 100000 in
set_option maxHeartbeats 800000 in
theorem parts_any (b : List UInt8 → Option Df) (m n0 : Nat) (n : ByteArray) (w : World) (hm : MapIs w Tryz.prog 9 m n0 (bookV b)) (hn : n.size ≤ maxLen) :
    Calls Tryz.prog 129 #[.map (some m), .string n] w (RetStrs w (partsL b n.data.toList)) := by
  have hlk := hm.look keyT Tryz.underlying130 (zero60 w) (key_any n hn)
  rw [bookV_get] at hlk
  obtain ⟨d, hd⟩ : ∃ d, d = (b n.data.toList).getD df0 := ⟨_, rfl⟩
  rw [← hd] at hlk
  unfold partsL
  rw [← hd]
  clear hd
  have kZ : Blk (w.alloc (.cells #[.string ⟨#[]⟩, .int .i64 0, .int .i64 0, .string ⟨#[]⟩, .string ⟨#[]⟩, .int .i64 0, .int .i64 0, .int .i64 0, .int .i64 0, .int .i64 0, .int .i64 0, .int .i64 0, .int .i64 0, .int .i64 0, .int .i64 0, .int .i64 0, .int .i64 0, .int .i64 0, .int .i64 0, .int .i64 0, .int .i64 0, .int .i64 0, .int .i64 0, .int .i64 0, .int .i64 0, .int .i64 0, .int .i64 0, .int .i64 0, .int .i64 0] 60)) w.heap.size 60 (dfA df0) := by rw [z60]; exact Blk.new _ _ _
  have kD := kZ.setRow (dfA d)
  have hb0 : Below w.heap.size w ((w.alloc (.cells #[.string ⟨#[]⟩, .int .i64 0, .int .i64 0, .string ⟨#[]⟩, .string ⟨#[]⟩, .int .i64 0, .int .i64 0, .int .i64 0, .int .i64 0, .int .i64 0, .int .i64 0, .int .i64 0, .int .i64 0, .int .i64 0, .int .i64 0, .int .i64 0, .int .i64 0, .int .i64 0, .int .i64 0, .int .i64 0, .int .i64 0, .int .i64 0, .int .i64 0, .int .i64 0, .int .i64 0, .int .i64 0, .int .i64 0, .int .i64 0, .int .i64 0] 60)).setRow w.heap.size (dfA d)) := below_setRow (below_new _ _) (Nat.le_refl _) _
  obtain ⟨c0, c1, c2, c3, c4⟩ := kD.df
  by_cases h2 : d.kind = 2
  · have t2 : (d.kind == 2) = true := by simp [h2]
    have HR := Lib.hid (show dfParts d = [d.of] by simp [dfParts, h2])
    clear h2
    rw [HR.out]
    go_enter Tryz.func129, Tryz.ntmps129
    go_wp2_with (refine stD 5 8 rfl rfl kZ rfl rfl ?_)
    go_ret
    exact ⟨_, _, rfl, own_newAt (by simp) 9 _ (by omega) [.string d.of] (by simp [maxLen]), hb0.alloc hb0.size _⟩
  · by_cases h3 : d.kind = 3
    · have t2 : (d.kind == 2) = false := by simp [h3]
      have t3 : (d.kind == 3) = true := by simp [h3]
      have HR := Lib.hid (show dfParts d = [d.of, d.wth] by simp [dfParts, h3])
      clear h2 h3
      rw [HR.out]
      go_enter Tryz.func129, Tryz.ntmps129
      go_wp2_with (refine stD 5 8 rfl rfl kZ rfl rfl ?_)
      go_ret
      exact ⟨_, _, rfl, own_newAt (by simp) 9 _ (by omega) [.string d.of, .string d.wth] (by simp [maxLen]), hb0.alloc hb0.size _⟩
    · by_cases h4 : d.kind = 4
      · have t2 : (d.kind == 2) = false := by simp [h4]
        have t3 : (d.kind == 3) = false := by simp [h4]
        have t4 : (d.kind == 4) = true := by simp [h4]
        have HR := Lib.hid (show dfParts d = [d.of, d.wth] by simp [dfParts, h4])
        clear h2 h3 h4
        rw [HR.out]
        go_enter Tryz.func129, Tryz.ntmps129
        go_wp2_with (refine stD 5 8 rfl rfl kZ rfl rfl ?_)
        go_ret
        exact ⟨_, _, rfl, own_newAt (by simp) 9 _ (by omega) [.string d.of, .string d.wth] (by simp [maxLen]), hb0.alloc hb0.size _⟩
      · have t2 : (d.kind == 2) = false := by simp [h2]
        have t3 : (d.kind == 3) = false := by simp [h3]
        have t4 : (d.kind == 4) = false := by simp [h4]
        have HR := Lib.hid (show dfParts d = [] by simp [dfParts, h2, h3, h4])
        clear h2 h3 h4
        rw [HR.out]
        go_enter Tryz.func129, Tryz.ntmps129
        go_wp2_with (refine stD 5 8 rfl rfl kZ rfl rfl ?_)
        go_ret
        exact ⟨_, _, rfl, own_none _ _ 9, hb0⟩
end Go.Proofs.YtbhiphjifdnhmaaGreatDoor

/- The greatest definition of some by the day on which it came to be known. -/
namespace Go.Proofs.YtbhiphjifdnhmaaGreatDoor
open Go.RowKit Go.Maps

set_option maxHeartbeats 400000 in
theorem isNaN_any (n : Int) (w : World) : Calls Tryz.prog 140 #[.int .i64 n] w fun e w' => e = .returned (.bool false) ∧ w = w' := by
  have hn : (n != n) = false := by simp
  go_enter Tryz.func140, Tryz.ntmps140
  go_wp2
  go_ret
  exact ⟨ret_bool (by simp), rfl⟩
def cmpI (x y : Int) : Int := if x < y then -1 else if y < x then 1 else 0
theorem cmpI_pos {x y : Int} : 0 < cmpI x y ↔ y < x := by
  unfold cmpI
  split
  · omega
  · split <;> omega
set_option maxHeartbeats 400000 in
theorem compare_any (x y : Int) (w : World) : Calls Tryz.prog 125 #[.int .i64 x, .int .i64 y] w fun e w' => e = .returned (.int .i64 (cmpI x y)) ∧ w = w' := by
  by_cases h1 : x < y
  · go_enter Tryz.func125, Tryz.ntmps125
    go_wp2_with (go_at_call 140; refine (isNaN_any _ _).mono ?_; rintro e w1 ⟨rfl, rfl⟩)
    go_ret
    exact ⟨ret_int (by simp [cmpI, h1]), rfl⟩
  · by_cases h2 : y < x
    · go_enter Tryz.func125, Tryz.ntmps125
      go_wp2_with (go_at_call 140; refine (isNaN_any _ _).mono ?_; rintro e w1 ⟨rfl, rfl⟩)
      go_ret
      exact ⟨ret_int (by simp [cmpI, h1, h2]), rfl⟩
    · have HC := Lib.hid (show cmpI x y = 0 by unfold cmpI; rw [if_neg h1, if_neg h2])
      go_enter Tryz.func125, Tryz.ntmps125
      go_wp2_with (go_at_call 140; refine (isNaN_any _ _).mono ?_; rintro e w1 ⟨rfl, rfl⟩)
      go_ret
      exact ⟨ret_int HC.out.symm, rfl⟩
set_option maxRecDepth 100000 in
set_option maxHeartbeats 400000 in
theorem cmpDf_any (c d : Df) (w : World) : Calls Tryz.prog 124 #[.agg (dfA c), .agg (dfA d)] w fun e w' => e = .returned (.int .i64 (cmpI c.known d.known)) ∧ Below w.heap.size w w' := by
  have kA : Blk ((w.alloc (.cells (dfA c) 60)).alloc (.cells (dfA d) 60)) w.heap.size 60 (dfA c) := (Blk.new _ _ _).alloc _
  have kB : Blk ((w.alloc (.cells (dfA c) 60)).alloc (.cells (dfA d) 60)) (w.heap.size + 1) 60 (dfA d) := Blk.newAt (by simp)
  obtain ⟨_, c1, _⟩ := kA.df
  obtain ⟨_, d1, _⟩ := kB.df
  go_enter Tryz.func124, Tryz.ntmps124
  go_wp2_with (go_at_call 125; refine (compare_any _ _ _).mono ?_; rintro e w1 ⟨rfl, rfl⟩)
  go_ret
  exact ⟨rfl, (below_new _ _).alloc (by simp) _⟩

/-- the first of those that came to be known last -/
def maxD (m : Df) (l : List Df) : Df := l.foldl (fun m d => if m.known < d.known then d else m) m
theorem maxD_snoc (m : Df) (l : List Df) (x : Df) : maxD m (l ++ [x]) = if (maxD m l).known < x.known then x else maxD m l := by
  unfold maxD
  rw [List.foldl_append]
  rfl
/-- definitions that lie in block g from its beginning on -/
def DefsAt (w : World) (g : Nat) (l : List Df) : Prop := ∀ k d, l[k]? = some d → w.rangeAt g (k * 29) (dfL d)
theorem DefsAt.below {w w' : World} {g B : Nat} {l : List Df} (h : DefsAt w g l) (hb : Below B w w') (hg : g < B) : DefsAt w' g l := fun k d hd j v hv => (hb.cell (p := ⟨g, k * 29 + j, none⟩) hg).trans (h k d hd j v hv)
theorem rangeBelow {w w' : World} {g B o : Nat} {cs : List Value} (h : w.rangeAt g o cs) (hb : Below B w w') (hg : g < B) : w'.rangeAt g o cs := fun j v hv => (hb.cell (p := ⟨g, o + j, none⟩) hg).trans (h j v hv)
/-- the cells of definitions, one behind the other -/
def dfCells (l : List Df) : List Value := l.flatMap dfL
theorem dfCells_len : ∀ l : List Df, (dfCells l).length = l.length * 29
  | [] => rfl
  | d :: t => by
    have := dfCells_len t
    simp only [dfCells, List.flatMap_cons, List.length_append, dfL_len, List.length_cons] at this ⊢
    omega
theorem dfCells_snoc (l : List Df) (d : Df) : dfCells (l ++ [d]) = dfCells l ++ dfL d := by simp [dfCells]
theorem dfCells_get : ∀ (l : List Df) (k j : Nat) (d : Df) (v : Value), l[k]? = some d → (dfL d)[j]? = some v → (dfCells l)[k * 29 + j]? = some v
  | [], k, j, d, v, hk, _ => by simp at hk
  | d0 :: t, 0, j, d, v, hk, hj => by
    obtain rfl : d0 = d := by simpa using hk
    have : j < 29 := by have := (List.getElem?_eq_some_iff.1 hj).1; rwa [dfL_len] at this
    simp only [dfCells, List.flatMap_cons]
    rw [List.getElem?_append_left (by rw [dfL_len]; omega)]
    simpa using hj
  | d0 :: t, k + 1, j, d, v, hk, hj => by
    have ih := dfCells_get t k j d v (by simpa using hk) hj
    simp only [dfCells, List.flatMap_cons] at ih ⊢
    rw [List.getElem?_append_right (by rw [dfL_len]; omega), dfL_len, show (k + 1) * 29 + j - 29 = k * 29 + j by omega]
    exact ih
theorem DefsAt.of_own {w : World} {base g n c : Nat} {l : List Df} (h : w.ownsRow base 60 29 (.slice (some ⟨g, 0, none⟩) n c) n (dfCells l)) : DefsAt w g l := fun k d hd j v hv => by
  have := h.cells (g := g) rfl (k * 29 + j) v (dfCells_get l k j d v hd hv)
  rw [Addr.add_mid, Nat.zero_add] at this
  exact this

theorem info60l (d : Df) : (Tryz.prog.info? 60).map (·.size) = some (dfL d).length := by
  rw [dfL_len]; kernel_rfl
/-- a definition loaded out of the middle of a row -/
theorem ldD {ops : Array Oper} {rest : List Oper} {o : Oper} {a : Act} {w : World} {Q : Exit → Act → World → Prop} (t : Tmp) (hgd : o.guard = none) (ho : o.op = .load 60 (.tmp t))
    {g off : Nat} {d : Df} (hB : w.rangeAt g off (dfL d)) (hx : a.eval (.tmp t) = .pointer (some ⟨g, off, none⟩)) (h : wpList Tryz.prog ops Q rest (a.put o.dst (.agg (dfA d))) w) : wpList Tryz.prog ops Q (o :: rest) a w :=
  wpList_load_mid hgd 60 _ ho g off hx (dfL d) _ hB Tryz.underlying60 rfl (info60l d) h
theorem ldDr {ops : Array Oper} {rest : List Oper} {o : Oper} {a : Act} {w : World} {Q : Exit → Act → World → Prop} (t : Tmp) (hgd : o.guard = none) (ho : o.op = .load 60 (.tmp t))
    {g : Nat} {T : TypeId} {d : Df} (hB : Blk w g T (dfA d)) (hx : a.eval (.tmp t) = .pointer (some ⟨g, 0, none⟩)) (h : wpList Tryz.prog ops Q rest (a.put o.dst (.agg (dfA d))) w) : wpList Tryz.prog ops Q (o :: rest) a w :=
  wpList_load_row hgd 60 _ ho g hx T _ (0, 0) _ hB Tryz.underlying60 rfl (info60 d) h
set_option maxRecDepth 100000 in
set_option maxHeartbeats 2000000 in
theorem maxFunc_any (g c : Nat) (d0 : Df) (t : List Df) (w : World) (hD : DefsAt w g (d0 :: t)) (hl : (d0 :: t).length ≤ 1000000) (hg : g < w.heap.size) :
    Calls Tryz.prog 123 #[.slice (some ⟨g, 0, none⟩) (d0 :: t).length c, .func (.func 124) #[] #[]] w fun e w' => e = .returned (.agg (dfA (maxD d0 t))) ∧ Below w.heap.size w w' := by
  obtain ⟨n, hn⟩ : ∃ n, n = (d0 :: t).length := ⟨_, rfl⟩
  have hn1 : n = t.length + 1 := by rw [hn]; simp
  rw [← hn] at hl ⊢
  have h0 := hD 0 d0 rfl
  have kZ : Blk (w.alloc (.cells #[.string ⟨#[]⟩, .int .i64 0, .int .i64 0, .string ⟨#[]⟩, .string ⟨#[]⟩, .int .i64 0, .int .i64 0, .int .i64 0, .int .i64 0, .int .i64 0, .int .i64 0, .int .i64 0, .int .i64 0, .int .i64 0, .int .i64 0, .int .i64 0, .int .i64 0, .int .i64 0, .int .i64 0, .int .i64 0, .int .i64 0, .int .i64 0, .int .i64 0, .int .i64 0, .int .i64 0, .int .i64 0, .int .i64 0, .int .i64 0, .int .i64 0] 60)) w.heap.size 60 (dfA df0) := by rw [z60]; exact Blk.new _ _ _
  have kM : Blk ((w.alloc (.cells #[.string ⟨#[]⟩, .int .i64 0, .int .i64 0, .string ⟨#[]⟩, .string ⟨#[]⟩, .int .i64 0, .int .i64 0, .int .i64 0, .int .i64 0, .int .i64 0, .int .i64 0, .int .i64 0, .int .i64 0, .int .i64 0, .int .i64 0, .int .i64 0, .int .i64 0, .int .i64 0, .int .i64 0, .int .i64 0, .int .i64 0, .int .i64 0, .int .i64 0, .int .i64 0, .int .i64 0, .int .i64 0, .int .i64 0, .int .i64 0, .int .i64 0] 60)).alloc (.cells #[.string ⟨#[]⟩, .int .i64 0, .int .i64 0, .string ⟨#[]⟩, .string ⟨#[]⟩, .int .i64 0, .int .i64 0, .int .i64 0, .int .i64 0, .int .i64 0, .int .i64 0, .int .i64 0, .int .i64 0, .int .i64 0, .int .i64 0, .int .i64 0, .int .i64 0, .int .i64 0, .int .i64 0, .int .i64 0, .int .i64 0, .int .i64 0, .int .i64 0, .int .i64 0, .int .i64 0, .int .i64 0, .int .i64 0, .int .i64 0, .int .i64 0] 60)) (w.heap.size + 1) 60 (dfA df0) := by rw [z60]; exact Blk.newAt (by simp)
  have hb0 : Below w.heap.size w ((w.alloc (.cells #[.string ⟨#[]⟩, .int .i64 0, .int .i64 0, .string ⟨#[]⟩, .string ⟨#[]⟩, .int .i64 0, .int .i64 0, .int .i64 0, .int .i64 0, .int .i64 0, .int .i64 0, .int .i64 0, .int .i64 0, .int .i64 0, .int .i64 0, .int .i64 0, .int .i64 0, .int .i64 0, .int .i64 0, .int .i64 0, .int .i64 0, .int .i64 0, .int .i64 0, .int .i64 0, .int .i64 0, .int .i64 0, .int .i64 0, .int .i64 0, .int .i64 0] 60)).alloc (.cells #[.string ⟨#[]⟩, .int .i64 0, .int .i64 0, .string ⟨#[]⟩, .string ⟨#[]⟩, .int .i64 0, .int .i64 0, .int .i64 0, .int .i64 0, .int .i64 0, .int .i64 0, .int .i64 0, .int .i64 0, .int .i64 0, .int .i64 0, .int .i64 0, .int .i64 0, .int .i64 0, .int .i64 0, .int .i64 0, .int .i64 0, .int .i64 0, .int .i64 0, .int .i64 0, .int .i64 0, .int .i64 0, .int .i64 0, .int .i64 0, .int .i64 0] 60)) := (below_new _ _).alloc (by simp) _
  have hr0 := rangeBelow h0 (below_new w (.cells #[.string ⟨#[]⟩, .int .i64 0, .int .i64 0, .string ⟨#[]⟩, .string ⟨#[]⟩, .int .i64 0, .int .i64 0, .int .i64 0, .int .i64 0, .int .i64 0, .int .i64 0, .int .i64 0, .int .i64 0, .int .i64 0, .int .i64 0, .int .i64 0, .int .i64 0, .int .i64 0, .int .i64 0, .int .i64 0, .int .i64 0, .int .i64 0, .int .i64 0, .int .i64 0, .int .i64 0, .int .i64 0, .int .i64 0, .int .i64 0, .int .i64 0] 60)) hg
  have HN := Lib.hid hn
  have HN1 := Lib.hid hn1
  have hn2 : 1 ≤ n := by omega
  clear hn hn1
  have hn4 : decide ((n : Int) < 1) = false := by simp; omega
  go_enter Tryz.func123, Tryz.ntmps123
  go_wp2_with (first
    | (refine ldD 12 rfl rfl hr0 rfl ?_)
    | (refine stD 5 13 rfl rfl kM rfl rfl ?_))
  have kM1 := kM.setRow (dfA d0)
  have kZ1 := (kZ.alloc (.cells #[.string ⟨#[]⟩, .int .i64 0, .int .i64 0, .string ⟨#[]⟩, .string ⟨#[]⟩, .int .i64 0, .int .i64 0, .int .i64 0, .int .i64 0, .int .i64 0, .int .i64 0, .int .i64 0, .int .i64 0, .int .i64 0, .int .i64 0, .int .i64 0, .int .i64 0, .int .i64 0, .int .i64 0, .int .i64 0, .int .i64 0, .int .i64 0, .int .i64 0, .int .i64 0, .int .i64 0, .int .i64 0, .int .i64 0, .int .i64 0, .int .i64 0] 60)).farRow (g' := w.heap.size + 1) (by omega) (dfA d0)
  have hb1 : Below w.heap.size w (((w.alloc (.cells #[.string ⟨#[]⟩, .int .i64 0, .int .i64 0, .string ⟨#[]⟩, .string ⟨#[]⟩, .int .i64 0, .int .i64 0, .int .i64 0, .int .i64 0, .int .i64 0, .int .i64 0, .int .i64 0, .int .i64 0, .int .i64 0, .int .i64 0, .int .i64 0, .int .i64 0, .int .i64 0, .int .i64 0, .int .i64 0, .int .i64 0, .int .i64 0, .int .i64 0, .int .i64 0, .int .i64 0, .int .i64 0, .int .i64 0, .int .i64 0, .int .i64 0] 60)).alloc (.cells #[.string ⟨#[]⟩, .int .i64 0, .int .i64 0, .string ⟨#[]⟩, .string ⟨#[]⟩, .int .i64 0, .int .i64 0, .int .i64 0, .int .i64 0, .int .i64 0, .int .i64 0, .int .i64 0, .int .i64 0, .int .i64 0, .int .i64 0, .int .i64 0, .int .i64 0, .int .i64 0, .int .i64 0, .int .i64 0, .int .i64 0, .int .i64 0, .int .i64 0, .int .i64 0, .int .i64 0, .int .i64 0, .int .i64 0, .int .i64 0, .int .i64 0] 60)).setRow (w.heap.size + 1) (dfA d0)) := below_setRow hb0 (by omega) _
  clear kM kZ hb0 hr0 h0
  go_loopw [6] (fun t6 wr => ∃ k : Nat, k ≤ t.length ∧ t6 = .int .i64 ((k + 1 : Nat) : Int) ∧ Blk wr (w.heap.size + 1) 60 (dfA (maxD d0 (t.take k))) ∧ Blk wr w.heap.size 60 (dfA df0) ∧ Below w.heap.size w wr) (fun t6 _ => n - (intOf t6).toNat)
  case atStart => exact ⟨0, by omega, rfl, kM1, kZ1, hb1⟩
  case round =>
    obtain ⟨k, hk, rfl, kM2, kZ2, hb2⟩ := hrel
    clear kM1 kZ1 hb1
    have hlt2 := kM2.lt
    have hnt1 : n ≤ t.length + 1 := Nat.le_of_eq HN1.out
    have hnt2 : t.length + 1 ≤ n := Nat.le_of_eq HN1.out.symm
    by_cases hlt : k < t.length
    · have hlt' : k + 1 < n := by omega
      have hxx : (d0 :: t)[k + 1]? = some t[k] := by simp [hlt]
      have hx := rangeBelow (hD (k + 1) _ hxx) hb2 hg
      have hsn := maxD_snoc d0 (t.take k) t[k]
      rw [← List.take_succ_eq_append_getElem hlt] at hsn
      obtain ⟨x, hxe⟩ : ∃ x, x = t[k] := ⟨_, rfl⟩
      rw [← hxe] at hx hsn
      obtain ⟨M, hM⟩ : ∃ M, M = maxD d0 (t.take k) := ⟨_, rfl⟩
      rw [← hM] at kM2 hsn
      have HS := Lib.hid hsn
      clear hsn hxe hM hxx
      have hk1 : ((k + 1 : Nat) : Int) < (n : Int) := by omega
      have hk2 : ((k + 1 : Nat) : Int).toNat = k + 1 := by omega
      have hk3 : 0 ≤ ((k + 1 : Nat) : Int) := by omega
      have hk4 : 0 ≤ (k : Int) + 1 := by omega
      have hk5 : (k : Int) + 1 < (n : Int) := by omega
      have hk6 : ((k : Int) + 1).toNat = k + 1 := by omega
      cases hc : decide (0 < cmpI x.known M.known)
      all_goals
        have HC := Lib.hid hc
        go_wp2_with fail
        refine wp_region_held_drew (S := fun w' => w'.rangeAt g ((k + 1) * 29) (dfL x) ∧ Blk w' (w.heap.size + 1) 60 (dfA M)) (by kernel_rfl) ⟨hx, kM2⟩ (fun hHeld => ?_)
        (refine wpAnyH_take (i := 0) (v := ?_) rfl (by kernel_rfl) (by kernel_rfl) (by kernel_rfl) (fun _ _ _ h => h) (Or.inl ⟨by rfl, ?_⟩) (by assumption) ?_; rotate_left; (· intro w5 hS5; (try dsimp only at hS5); go_simp <;> with_reducible rfl); (try simp only [List.getElem_toArray, List.getElem_cons_zero, List.getElem_cons_succ, Act.put, List.setIfInBounds_toArray, List.set_cons_zero, List.set_cons_succ]))
        (refine wpAnyH_take (i := 1) (v := ?_) rfl (by kernel_rfl) (by kernel_rfl) (by kernel_rfl) (fun _ _ _ h => h) (Or.inl ⟨by rfl, ?_⟩) (by assumption) ?_; rotate_left; (· intro w5 hS5; (try dsimp only at hS5); go_simp <;> with_reducible rfl); (try simp only [List.getElem_toArray, List.getElem_cons_zero, List.getElem_cons_succ, Act.put, List.setIfInBounds_toArray, List.set_cons_zero, List.set_cons_succ]))
        (refine wpAnyH_take (i := 2) (v := ?_) rfl (by kernel_rfl) (by kernel_rfl) (by kernel_rfl) (fun _ _ _ h => h) (Or.inl ⟨by rfl, ?_⟩) (by assumption) ?_; rotate_left; (· intro w5 hS5; (try dsimp only at hS5); go_simp <;> with_reducible rfl); (try simp only [List.getElem_toArray, List.getElem_cons_zero, List.getElem_cons_succ, Act.put, List.setIfInBounds_toArray, List.set_cons_zero, List.set_cons_succ]))
        (refine wpAnyH_take (i := 3) (v := ?_) rfl (by kernel_rfl) (by kernel_rfl) (by kernel_rfl) (fun _ _ _ h => h) (Or.inl ⟨by rfl, ?_⟩) (by assumption) ?_; rotate_left; (· intro w5 hS5; (try dsimp only at hS5); go_simp <;> with_reducible rfl); (try simp only [List.getElem_toArray, List.getElem_cons_zero, List.getElem_cons_succ, Act.put, List.setIfInBounds_toArray, List.set_cons_zero, List.set_cons_succ]))
        (refine wpAnyH_take (i := 4) (v := .agg (dfA x)) rfl (by kernel_rfl) (by kernel_rfl) (by kernel_rfl) (fun _ _ _ h => h) (yieldsIf_load_mid (by rfl) 60 _ rfl _ _ rfl (dfL x) _ (fun w5 hS5 => hS5.1) Tryz.underlying60 rfl (info60l x)) (by assumption) ?_; (try simp only [List.getElem_toArray, List.getElem_cons_zero, List.getElem_cons_succ, Act.put, List.setIfInBounds_toArray, List.set_cons_zero, List.set_cons_succ]))
        (refine wpAnyH_take (i := 5) (v := .agg (dfA M)) rfl (by kernel_rfl) (by kernel_rfl) (by kernel_rfl) (fun _ _ _ h => h) (yieldsIf_load_row (by rfl) 60 _ rfl _ rfl 60 _ (0, 0) _ (fun w5 hS5 => hS5.2) Tryz.underlying60 rfl (info60 M)) (by assumption) ?_; (try simp only [List.getElem_toArray, List.getElem_cons_zero, List.getElem_cons_succ, Act.put, List.setIfInBounds_toArray, List.set_cons_zero, List.set_cons_succ]))
        (refine wpAnyH_ready (rs := [6]) (by kernel_rfl) (by simp) ?_; refine AllReadyH.cons rfl (fun K hK => ?_) AllReadyH.nil)
        go_simp
        refine (cmpDf_any x M _).mono ?_
        rintro e w3 ⟨rfl, hb3⟩
        have hx3 := rangeBelow (w := wr.drew) hx hb3 (by show g < wr.heap.size; omega)
        have kM3 := Blk.below (w := wr.drew) kM2 hb3 hlt2
        have kZ3 := Blk.below (w := wr.drew) kZ2 hb3 (by show _ < wr.heap.size; omega)
        refine hK.out _ _ ⟨hx3, kM3⟩ (fun hHeld => ?_)
        clear hK K
        (try simp only [List.getElem_toArray, List.getElem_cons_zero, List.getElem_cons_succ, Act.put, List.setIfInBounds_toArray, List.set_cons_zero, List.set_cons_succ])
        (refine wpAnyH_take (i := 7) (v := ?_) rfl (by kernel_rfl) (by kernel_rfl) (by kernel_rfl) (fun _ _ _ h => h) (Or.inl ⟨by rfl, ?_⟩) (by assumption) ?_; rotate_left; (· intro w5 hS5; (try dsimp only at hS5); go_simp <;> with_reducible rfl); (try simp only [List.getElem_toArray, List.getElem_cons_zero, List.getElem_cons_succ, Act.put, List.setIfInBounds_toArray, List.set_cons_zero, List.set_cons_succ]))
        refine wpAnyH_done (by kernel_rfl) ?_ _
        clear hHeld
        have hb4 := below_next hb2.drew (by show _ ≤ wr.heap.size; omega) hb3
      · go_wp2
        go_roundw
        case rel => exact ⟨k + 1, by omega, by go_num, by rw [HS.out, if_neg (fun h => of_decide_eq_false HC.out (cmpI_pos.2 h))]; exact kM3, kZ3, hb4⟩
        case measure => simp [intOf]; omega
      · go_wp2_with (first
          | (refine ldD 30 rfl rfl hx3 rfl ?_)
          | (refine stD 5 31 rfl rfl kM3 rfl rfl ?_))
        go_roundw
        case rel => exact ⟨k + 1, by omega, by go_num, by rw [HS.out, if_pos (cmpI_pos.1 (of_decide_eq_true HC.out))]; exact kM3.setRow _, kZ3.farRow (g' := w.heap.size + 1) (by omega) _, below_setRow hb4 (by omega) _⟩
        case measure => simp [intOf]; omega
    · obtain rfl : k = t.length := by omega
      rw [List.take_length] at kM2
      have hk1 : ¬ ((t.length + 1 : Nat) : Int) < (n : Int) := by omega
      go_wp2_with (first
        | (refine ldDr 5 rfl rfl kM2 rfl ?_)
        | (refine stD 4 32 rfl rfl kZ2 rfl rfl ?_))
      exact bodyPost_ret (results_cell_row rfl _ _ w.heap.size 60 (dfA (maxD d0 t)) (0, 0) _ rfl (kZ2.setRow _) Tryz.underlying60 rfl (info60 _)) rfl ⟨rfl, below_setRow hb2 (Nat.le_refl _) _⟩
end Go.Proofs.YtbhiphjifdnhmaaGreatDoor

/- Definitions that are grouped by their names: the append and the store at the operation, and what holds of the groups. -/
namespace Go.Proofs.YtbhiphjifdnhmaaGreatDoor
open Go.RowKit Go.Maps

theorem df_info : (Tryz.prog.info? 60).map (fun i => (i.zero.map (·.cells.size), i.size, i.bytes)) = some (some 29, 29, 256) := by kernel_rfl
theorem df_parts : ∃ i z, Tryz.prog.info? 60 = some i ∧ i.zero = some z ∧ z.cells.size = 29 ∧ i.size = 29 ∧ i.bytes = 256 := by
  have h := df_info
  cases hq : Tryz.prog.info? 60 with
  | none => simp [hq] at h
  | some i =>
    simp only [hq, Option.map_some, Option.some.injEq, Prod.mk.injEq] at h
    obtain ⟨h0, h1, h2⟩ := h
    cases hz : i.zero with
    | none => simp [hz] at h0
    | some z => exact ⟨i, z, rfl, hz, by simpa [hz] using h0, h1, h2⟩
theorem own_shape {w : World} {base : Nat} {e : TypeId} {size n : Nat} {v : Value} {xs : List Value} (h : w.ownsRow base e size v n xs) (hn : 0 < n) : ∃ g c, v = .slice (some ⟨g, 0, none⟩) n c ∧ base ≤ g ∧ n ≤ c ∧ c ≤ maxLen := by
  rcases h.2 with ⟨_, h0⟩ | ⟨g, c, _, hv, hb, _, h1, h2, _⟩
  · omega
  · exact ⟨g, c, hv, hb, h1, h2⟩
/-- 'l = append(l, d)' at the operation -/
theorem wp_appD {o : Oper} {a : Act} {K : Act → World → Prop} {Q : Exit → Act → World → Prop} {w : World} (s x : Operand)
    (ho : o.op = .call { callee := .builtin .append, args := #[s, x], argTypes := #[58, 58] }) (base : Nat) (v : Value) (l : List Df) (d : Df)
    (hs : a.eval s = v) (hown : w.ownsRow base 60 29 v l.length (dfCells l)) (g : Nat) (hx : a.eval x = .slice (some ⟨g, 0, none⟩) 1 1) (hg : Blk w g 60 (dfA d)) (hl : l.length ≤ 1000000) (hbase : base ≤ w.heap.size)
    (h : ∀ g' c' w', w'.ownsRow base 60 29 (.slice (some ⟨g', 0, none⟩) (l ++ [d]).length c') (l ++ [d]).length (dfCells (l ++ [d])) → w.grownBy w' v.ownBlock → (some g' = v.ownBlock ∨ g' = w.heap.size) → K (a.put o.dst (.slice (some ⟨g', 0, none⟩) (l ++ [d]).length c')) w') :
    o.wp Tryz.prog a w K Q := by
  obtain ⟨i, z, hi, hz, hzs, h1, h2⟩ := df_parts
  obtain ⟨v', w', hr, q1, q2, _, q4⟩ := run_append_own_at (P := Tryz.prog) w base 58 o.type 60 i z 29 256 Tryz.underlying58 hi hz h1 h2 hzs (by decide) v l.length (dfCells l) hown ⟨g, 0, none⟩ 1 1 (dfL d) (by rw [dfL_len]) (fun j u hj => by
      rw [Addr.add_mid, Nat.zero_add, hg.cell j]
      simpa [dfA] using hj) (dfL_one d) (by simp only [maxLen]; omega) (by omega) hbase
  have q1' : w'.ownsRow base 60 29 v' (l ++ [d]).length (dfCells (l ++ [d])) := by rw [dfCells_snoc, List.length_append]; exact q1
  obtain ⟨g', c', rfl, _⟩ := own_shape q1' (by simp)
  unfold Oper.wp execOp
  simp only [ho, resolve, invoke, builtin, Sem.run_bind, Sem.run_pure, Result.andThen_ok, List.map_toArray, List.map_cons, List.map_nil, hs, hx, hr]
  refine h g' c' w' q1' q2 ?_
  rcases q4 with q4 | q4
  · exact .inl q4
  · exact .inr (by simpa [Value.ownBlock] using q4)
theorem fold_df (d : Df) : Array.foldl (fun cs x => cs.setIfInBounds x.snd x.fst) (#[.string ⟨#[]⟩, .int .i64 0, .int .i64 0, .string ⟨#[]⟩, .string ⟨#[]⟩, .int .i64 0, .int .i64 0, .int .i64 0, .int .i64 0, .int .i64 0, .int .i64 0, .int .i64 0, .int .i64 0, .int .i64 0, .int .i64 0, .int .i64 0, .int .i64 0, .int .i64 0, .int .i64 0, .int .i64 0, .int .i64 0, .int .i64 0, .int .i64 0, .int .i64 0, .int .i64 0, .int .i64 0, .int .i64 0, .int .i64 0, .int .i64 0] : Array Value) (dfA d).zipIdx 0 29 = dfA d := by kernel_rfl
theorem run_build1 (d : Df) (w : World) : (Instr.buildSlice 58 1 #[(0, .agg (dfA d))]).run Tryz.prog w = .ok (.slice (some ⟨w.heap.size, 0, none⟩) 1 1) (w.alloc (.cells (dfA d) 60)) := by
  have hs := dfA_size d
  have hf := fold_df d
  simp [go_sem, hs, hf]
/-- '[]Define{d}' at the operation -/
theorem wp_build1 {o : Oper} {a : Act} {K : Act → World → Prop} {Q : Exit → Act → World → Prop} {w : World} (x : Operand) (ho : o.op = .buildSlice 58 1 #[(0, x)]) (d : Df) (hx : a.eval x = .agg (dfA d))
    (h : K (a.put o.dst (.slice (some ⟨w.heap.size, 0, none⟩) 1 1)) (w.alloc (.cells (dfA d) 60))) : o.wp Tryz.prog a w K Q := by
  unfold Oper.wp
  simp [execOp, ho, hx, run_build1, Result.andThen]
  exact h
/-- 'm[k] = v' at the operation -/
theorem wp_put {o : Oper} {a : Act} {K : Act → World → Prop} {Q : Exit → Act → World → Prop} {w : World} (m x v : Operand) (t e : TypeId) (ho : o.op = .mapUpdate t m x v) (ht : Tryz.prog.underlying t = some (.map 9 e))
    {b n : Nat} {f : List UInt8 → Option Value} (hM : MapIs w Tryz.prog 9 b n f) (hn : n < maxLen) (key : ByteArray) (hk : key.size ≤ maxLen) (val : Value) (hm : a.eval m = .map (some b)) (hx : a.eval x = .string key) (hv : a.eval v = val)
    (h : ∀ w', MapIs w' Tryz.prog 9 b (n + 1) (fun s => if s = key.data.toList then some val else f s) → w.grownBy w' (some b) → w'.heap.size = w.heap.size → K (a.put o.dst undef) w') : o.wp Tryz.prog a w K Q := by
  obtain ⟨w', hr, h1, h2, h3⟩ := hM.store keyT ht hn (key_any key hk) val
  unfold Oper.wp execOp
  simp [ho, hm, hx, hv, hr, Result.andThen]
  exact h w' h1 h2 h3
/-- .. outside a region that draws its order -/
theorem wpl_put {ops : Array Oper} {rest : List Oper} {o : Oper} {a : Act} {Q : Exit → Act → World → Prop} {w : World} (hgd : o.guard = none) (m x v : Operand) (t e : TypeId) (ho : o.op = .mapUpdate t m x v) (ht : Tryz.prog.underlying t = some (.map 9 e))
    {b n : Nat} {f : List UInt8 → Option Value} (hM : MapIs w Tryz.prog 9 b n f) (hn : n < maxLen) (key : ByteArray) (hk : key.size ≤ maxLen) (val : Value) (hm : a.eval m = .map (some b)) (hx : a.eval x = .string key) (hv : a.eval v = val)
    (h : ∀ w', MapIs w' Tryz.prog 9 b (n + 1) (fun s => if s = key.data.toList then some val else f s) → w.grownBy w' (some b) → w'.heap.size = w.heap.size → wpList Tryz.prog ops Q rest (a.put o.dst undef) w') : wpList Tryz.prog ops Q (o :: rest) a w :=
  wpList_plain hgd fun _ hK => wp_put m x v t e ho ht hM hn key hk val hm hx hv fun w' h1 h2 h3 => hK _ _ (h w' h1 h2 h3)

theorem Blk.grown {w w' : World} {g : Nat} {t : TypeId} {cs : Array Value} {row : Option Nat} (h : Blk w g t cs) (hg : w.grownBy w' row) (hne : some g ≠ row) : Blk w' g t cs := (hg.block g h.lt hne).trans h
theorem key_inv {key : Value} {kl : Lit} (h : keyOf Tryz.prog 9 key = some kl) : ∃ s : ByteArray, key = .string s ∧ kl = .string s.data.toList ∧ s.size ≤ maxLen := by
  cases key <;> simp [keyOf, Tryz.underlying9, mapKey] at h
  exact ⟨_, rfl, h.2.symm, h.1⟩
theorem ranges_below {w w' : World} {P : Program} {k : TypeId} {R : Value → Option (DataW Value × List MemPlace)} {b r n B : Nat} {D : DataW Value} {left : Lit → Bool} {cnt : Nat} (h : w.ranges P k R b r n D left cnt) (hb : Below B w w') (h1 : b < B) (h2 : r < B) : w'.ranges P k R b r n D left cnt := by
  obtain ⟨es, clock, since, seen, c0, q1, q2, q3, q4, q5, q6⟩ := h
  exact ⟨es, clock, since, seen, c0, (hb.block b h1).trans q1, q2, q3, q4, (hb.block r h2).trans q5, q6⟩
/-- the map in block m has, for each name, a row of its own with the definitions of this name -/
structure Grp (w : World) (base m k : Nat) (f : List UInt8 → Option Value) (G : List UInt8 → List Df) : Prop where
  map : MapIs w Tryz.prog 9 m k f
  none : ∀ s, G s = [] → f s = Option.none
  row : ∀ s, G s ≠ [] → ∃ g c, f s = some (.slice (some ⟨g, 0, Option.none⟩) (G s).length c) ∧ w.ownsRow base 60 29 (.slice (some ⟨g, 0, Option.none⟩) (G s).length c) (G s).length (dfCells (G s))
  apart : ∀ s t v u, s ≠ t → f s = some v → f t = some u → v.ownBlock ≠ u.ownBlock
theorem Grp.some_row {w : World} {base m k : Nat} {f : List UInt8 → Option Value} {G : List UInt8 → List Df} (h : Grp w base m k f G) {s : List UInt8} {v : Value} (hv : f s = some v) : G s ≠ [] ∧ ∃ g c, v = .slice (some ⟨g, 0, Option.none⟩) (G s).length c ∧ base ≤ g ∧ g < w.heap.size ∧ w.ownsRow base 60 29 v (G s).length (dfCells (G s)) := by
  by_cases hG : G s = []
  · rw [h.none s hG] at hv
    cases hv
  · obtain ⟨g, c, e, ho⟩ := h.row s hG
    rw [e] at hv
    obtain rfl := Option.some.inj hv
    obtain ⟨h1, h2⟩ := ho.lt g rfl
    exact ⟨hG, g, c, rfl, h1, h2, ho⟩
/-- what lies below some block and is made anew changes no group -/
theorem Grp.moved {w w' : World} {base m k : Nat} {f : List UInt8 → Option Value} {G : List UInt8 → List Df} (h : Grp w base m k f G) (hb : Below w.heap.size w w') : Grp w' base m k f G :=
  ⟨h.map.below hb h.map.lt, h.none, fun s hs => by
    obtain ⟨g, c, e, ho⟩ := h.row s hs
    exact ⟨g, c, e, own_below ho hb⟩, h.apart⟩
/-- the row of a group, nil if there is none -/
theorem Grp.look {w : World} {base m k : Nat} {f : List UInt8 → Option Value} {G : List UInt8 → List Df} (h : Grp w base m k f G) (s : List UInt8) : w.ownsRow base 60 29 ((f s).getD (.slice Option.none 0 0)) (G s).length (dfCells (G s)) := by
  by_cases hG : G s = []
  · rw [h.none s hG, hG]
    exact ⟨rfl, .inl ⟨rfl, rfl⟩⟩
  · obtain ⟨g, c, e, ho⟩ := h.row s hG
    rw [e]
    exact ho
/-- a definition more in a group -/
theorem Grp.put {w w2 w3 : World} {base m k : Nat} {f : List UInt8 → Option Value} {G : List UInt8 → List Df} (h : Grp w base m k f G) (hm : m < base) (s0 : List UInt8) (d : Df) (g' c' : Nat)
    (ho : w2.ownsRow base 60 29 (.slice (some ⟨g', 0, Option.none⟩) (G s0 ++ [d]).length c') (G s0 ++ [d]).length (dfCells (G s0 ++ [d]))) (hg : w.grownBy w2 ((f s0).getD (.slice Option.none 0 0)).ownBlock)
    (hat : some g' = ((f s0).getD (.slice Option.none 0 0)).ownBlock ∨ g' = w.heap.size) {k' : Nat} (hM : MapIs w3 Tryz.prog 9 m k' (fun s => if s = s0 then some (.slice (some ⟨g', 0, Option.none⟩) (G s0 ++ [d]).length c') else f s)) (hg3 : w2.grownBy w3 (some m)) :
    Grp w3 base m k' (fun s => if s = s0 then some (.slice (some ⟨g', 0, Option.none⟩) (G s0 ++ [d]).length c') else f s) (fun s => if s = s0 then G s0 ++ [d] else G s) := by
  have hgb := (ho.lt g' rfl).1
  have hother : ∀ s v, s ≠ s0 → f s = some v → v.ownBlock ≠ some g' := by
    intro s v hs hv e
    obtain ⟨_, g, c, rfl, hb, hlt, _⟩ := h.some_row hv
    have e' : g = g' := by simpa [Value.ownBlock] using e
    subst e'
    rcases hat with ha | ha
    · cases h0 : f s0 with
      | none => rw [h0] at ha; simp [Value.ownBlock] at ha
      | some u =>
        rw [h0] at ha
        exact h.apart s s0 _ u hs hv h0 (by simpa [Value.ownBlock] using ha)
    · omega
  refine ⟨hM, fun s hs => ?_, fun s hs => ?_, fun s t v u hst hv hu => ?_⟩
  · by_cases e : s = s0
    · simp [e] at hs
    · simp only [if_neg e] at hs ⊢
      exact h.none s hs
  · by_cases e : s = s0
    · subst e
      simp only [if_true] at hs ⊢
      exact ⟨g', c', rfl, ho.kept hg3 (.inr (by simp [Value.ownBlock]; omega))⟩
    · simp only [if_neg e] at hs ⊢
      obtain ⟨g, c, e1, ho1⟩ := h.row s hs
      have hlt := ho1.lt g rfl
      refine ⟨g, c, e1, (ho1.kept hg (.inr ?_)).kept hg3 (.inr (by simp [Value.ownBlock]; omega))⟩
      cases h0 : f s0 with
      | none => simp [Value.ownBlock]
      | some u => exact h.apart s s0 _ u e e1 h0
  · by_cases e1 : s = s0
    · have e2 : ¬ t = s0 := fun e2 => hst (e1.trans e2.symm)
      simp only [if_pos e1, if_neg e2, Option.some.injEq] at hv hu
      subst hv
      exact fun e => hother t u e2 hu (by rw [← e]; rfl)
    · simp only [if_neg e1] at hv
      by_cases e2 : t = s0
      · simp only [if_pos e2, Option.some.injEq] at hu
        subst hu
        exact fun e => hother s v e1 hv (by rw [e]; rfl)
      · simp only [if_neg e2] at hu
        exact h.apart s t v u hst hv hu
end Go.Proofs.YtbhiphjifdnhmaaGreatDoor

