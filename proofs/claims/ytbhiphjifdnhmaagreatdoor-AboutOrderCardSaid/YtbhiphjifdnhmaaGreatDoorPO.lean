import Derived.Test.YtbhiphjifdnhmaaGreatDoorPC
import Derived.Test.YtbhiphjifdnhmaaGreatDoorPB
import Derived.Test.YtbhiphjifdnhmaaGreatDoorL0
import Derived.Deep.Slices
import Derived.Stop.LaidErr
import Derived.MakeChecks
set_option linter.unusedSimpArgs false
set_option linter.unusedVariables false
/- Definitions that are read as data; the listed variable in its cell. -/
namespace Go.Proofs.YtbhiphjifdnhmaaGreatDoor
open Go.ChangeShapes Go.WideShapes Go.ChangeAt Go.RowKit

theorem k_cells60 : Tryz.prog.cellsOf 60 = 29 := by kernel_rfl
theorem k_cells9 : Tryz.prog.cellsOf 9 = 1 := by kernel_rfl
section
variable {H : Type} {enc : TypeId × Value → H} {W : World} {base : Nat}
set_option maxRecDepth 100000 in
theorem vague_list {n : Nat} {cs : List Value} {x : DataW H × List MemPlace} (h : DataW.trod enc Tryz.prog W 0 (fun _ => true) true n 26 cs = some x) : ∃ a : Nat → Int, cs = (va a).toList := by
 obtain ⟨xs, n, _, hx, hsz, hlen, hg⟩ := DataW.trod_struct Tryz.underlying26 h
 rw [k_cells26] at hsz
 match xs, hlen with
 | [x0], _ =>
  have g0 : DataW.trod enc Tryz.prog W 0 (fun _ => true) true n 24 cs = some x0 := by
   have h0 := hg 0 _ rfl
   have hc : (cs.drop 0).take (Tryz.prog.cellsOf 24) = cs := by
    rw [k_cells24, List.drop_zero, List.take_of_length_le (by omega)]
   exact (congrArg _ hc).symm.trans h0
  obtain ⟨ys, m, _, _, _, hn, hel⟩ := DataW.trod_array Tryz.underlying24 g0
  have key : ∀ i, i < 12 → ∃ p q : Int, cs[i * 2]? = some (.int .i64 p) ∧ cs[i * 2 + 1]? = some (.int .i64 q) := fun i hi => by
   have h1 := hel i hi
   rw [k_cells23, List.getElem?_eq_getElem (show i < ys.length by omega)] at h1
   obtain ⟨p, q, e⟩ := two_ints h1
   exact ⟨p, q, take_two e⟩
  refine ⟨fun j => match cs[j]? with | some (.int .i64 x) => x | _ => 0, ?_⟩
  apply List.ext_getElem?
  intro j
  refine Eq.trans ?_ (Array.getElem?_toList (xs := va _)).symm
  by_cases hj : j < 24
  ·rw [va_get _ _ hj]
   obtain ⟨p, q, e0, e1⟩ := key (j / 2) (by omega)
   rcases Nat.mod_two_eq_zero_or_one j with e | e
   ·rw [show j / 2 * 2 = j by omega] at e0
    simp only [e0]
   ·rw [show j / 2 * 2 + 1 = j by omega] at e1
    simp only [e1]
  ·rw [va_past _ _ (by omega), List.getElem?_eq_none (by omega)]
set_option maxRecDepth 100000 in
/-- a definition that is read as data -/
theorem def_list {n : Nat} {cs : List Value} {x : DataW H × List MemPlace} (h : DataW.trod enc Tryz.prog W 0 (fun _ => true) true n 60 cs = some x) : ∃ d : Df, cs = dfL d ∧ d.name.size ≤ maxLen ∧ d.of.size ≤ maxLen ∧ d.wth.size ≤ maxLen := by
 obtain ⟨xs, n, _, hx, hsz, hlen, hg⟩ := DataW.trod_struct Tryz.underlying60 h
 rw [k_cells60] at hsz
 match cs, hsz with
 | c0 :: c1 :: c2 :: c3 :: c4 :: rest, hsz =>
  match xs, hlen with
  | [x0, x1, x2, x3, x4, x5], _ =>
   have hr : rest.length = 24 := by simpa using hsz
   have g0 : DataW.trod enc Tryz.prog W 0 (fun _ => true) true n 9 [c0] = some x0 := by have := hg 0 _ rfl; simpa [k_cells9] using this
   have g1 : DataW.trod enc Tryz.prog W 0 (fun _ => true) true n 3 [c1] = some x1 := by have := hg 1 _ rfl; simpa [k_cells3] using this
   have g2 : DataW.trod enc Tryz.prog W 0 (fun _ => true) true n 3 [c2] = some x2 := by have := hg 2 _ rfl; simpa [k_cells3] using this
   have g3 : DataW.trod enc Tryz.prog W 0 (fun _ => true) true n 9 [c3] = some x3 := by have := hg 3 _ rfl; simpa [k_cells9] using this
   have g4 : DataW.trod enc Tryz.prog W 0 (fun _ => true) true n 9 [c4] = some x4 := by have := hg 4 _ rfl; simpa [k_cells9] using this
   have g5 : DataW.trod enc Tryz.prog W 0 (fun _ => true) true n 26 rest = some x5 := by
    have := hg 5 _ rfl
    have ht : rest.take 24 = rest := List.take_of_length_le (by omega)
    simpa [k_cells26, ht] using this
   obtain ⟨s0, e0, _, z0⟩ := DataW.trod_string Tryz.underlying9 g0
   obtain ⟨p1, e1, _, _⟩ := DataW.trod_int Tryz.underlying3 g1
   obtain ⟨p2, e2, _, _⟩ := DataW.trod_int Tryz.underlying3 g2
   obtain ⟨s3, e3, _, z3⟩ := DataW.trod_string Tryz.underlying9 g3
   obtain ⟨s4, e4, _, z4⟩ := DataW.trod_string Tryz.underlying9 g4
   obtain ⟨a, rfl⟩ := vague_list g5
   cases e0; cases e1; cases e2; cases e3; cases e4
   exact ⟨⟨s0, p1, p2, s3, s4, a⟩, rfl, z0, z3, z4⟩
set_option maxRecDepth 100000 in
/-- definitions that are read as data -/
theorem defs_opens {fuel : Nat} {v : Value} {x : DataW H × List MemPlace} (h : DataW.trod enc Tryz.prog W 0 (fun _ => true) true fuel 58 [v] = some x) :
  ∃ (A : Option Addr) (cap : Nat) (l : List Df), v = .slice A l.length cap ∧ l.length ≤ cap ∧ cap ≤ maxLen ∧ Defs W W.heap.size A l ∧ DfsSz l := by
 rcases Deep.open_slice Tryz.underlying58 h with ⟨hcs, hx⟩ | ⟨a, len, cap, m, n, D, Pl, hcs, _, hl, hm, hmm, hx, each⟩
 ·exact ⟨none, 0, [], by simpa using hcs, by simp, by simp, fun k d hk => (by simp at hk), fun d hd => (by simp at hd)⟩
 ·rw [k_cells60] at each
  have hlm : len ≤ m := by rw [hmm]; simpa using hl
  have key : ∀ i : Nat, ∃ d : Df, i < len → (∀ j u, (dfL d)[j]? = some u → W.cell? ((a.add (i * 29)).add j) = some u) ∧ d.name.size ≤ maxLen ∧ d.of.size ≤ maxLen ∧ d.wth.size ≤ maxLen := by
   intro i
   by_cases hi : i < len
   ·obtain ⟨cs, h1, h2⟩ := each i (by omega)
    obtain ⟨_, hlen, hcell⟩ := World.cells?_some h1
    obtain ⟨d, rfl, z0, z3, z4⟩ := def_list h2
    refine ⟨d, fun _ => ⟨fun j u hj => ?_, z0, z3, z4⟩⟩
    have hjl := (List.getElem?_eq_some_iff.1 hj).1
    rw [hcell j (by omega)]
    exact hj
   ·exact ⟨df0, fun h => absurd h hi⟩
  obtain ⟨f, hf⟩ := Classical.axiomOfChoice key
  have hlen : ((List.range len).map f).length = len := by simp
  refine ⟨some a, cap, (List.range len).map f, by rw [hlen]; simpa using hcs, by rw [hlen]; exact hl, hm, fun k c hk => ?_, fun c hc => ?_⟩
  ·have hk2 : k < len := by have := (List.getElem?_eq_some_iff.1 hk).1; rwa [hlen] at this
   have hck : c = f k := by
    rw [List.getElem?_map, List.getElem?_range hk2] at hk
    simpa using hk.symm
   subst hck
   have h00 := (hf 0 (by omega)).1 0 _ rfl
   have hsp := World.cell?_spot h00
   have hbk := World.block_lt_of_cell? W _ h00
   obtain ⟨g, o, sp⟩ := a
   have hsp' : sp = none := by simpa [Addr.add] using hsp
   subst hsp'
   refine ⟨g, o, rfl, by simpa [Addr.add] using hbk, fun j u hj => ?_⟩
   have := (hf k hk2).1 j u hj
   have e : ((⟨g, o, none⟩ : Addr).add (k * 29)).add j = ⟨g, o + k * 29 + j, none⟩ := by
    unfold Addr.add
    by_cases h1 : k * 29 = 0 <;> by_cases h2 : j = 0 <;> simp [h1, h2]
   rw [e] at this
   exact this
  ·obtain ⟨k, hk, rfl⟩ := List.mem_map.1 hc
   exact (hf k (List.mem_range.1 hk)).2
set_option maxRecDepth 100000 in
theorem defs_opens' {v : Value} {d : DataW H} {p : List MemPlace} (hv : Value.okWide Tryz.prog W .any base 58 v) (h : DataW.Trod enc Tryz.prog W 0 (fun _ => true) true 58 v d p) :
  ∃ (A : Option Addr) (cap : Nat) (l : List Df), v = .slice A l.length cap ∧ l.length ≤ cap ∧ cap ≤ maxLen ∧ Defs W W.heap.size A l ∧ DfsSz l := by
 obtain ⟨a, n, c, rfl⟩ := okWide_slice Tryz.underlying58 hv
 obtain ⟨fuel, hf⟩ := h
 exact defs_opens (v := .slice a n c) hf
set_option maxRecDepth 100000 in
theorem text_opens {v : Value} {d : DataW H} {p : List MemPlace} (hv : Value.okWide Tryz.prog W .any base 9 v) (h : DataW.Trod enc Tryz.prog W 0 (fun _ => true) true 9 v d p) :
  ∃ s : ByteArray, v = .string s ∧ s.size ≤ maxLen := by
 obtain ⟨s, rfl⟩ := okWide_string Tryz.underlying9 hv
 obtain ⟨fuel, hf⟩ := h
 obtain ⟨s', e, _, hs⟩ := DataW.trod_string Tryz.underlying9 hf
 cases e
 exact ⟨s, rfl, hs⟩
end
theorem star_err : "*" ++ "errors.errorString" = "*errors.errorString" := by decide
theorem row_err (u : TypeId) (h : Tryz.prog.typeName? 3 u = some "*errors.errorString") : u = 212 :=
 typeName_ptr_named (nm := "errors.errorString") (by rw [star_err]; kernel_rfl) (by kernel_rfl) (by decide) u (by rw [star_err]; exact h)
theorem ring_named : Tryz.prog.globalNamed "potence/about.errRing" = some 0 := by kernel_rfl
/-- the listed variable, where the calls find it -/
theorem err_at {W : World} (h : laidMetH Tryz.prog [("potence/about.errRing", Rows.laid_potence_about_errRing)] W) : ∃ ev, ErrAt W ev ∧ 0 < W.heap.size := by
 have h1 : laidMet Tryz.prog [("potence/about.errRing", Rows.laid_potence_about_errRing)] W := by
  rw [Go.MakeChecks.laidMetH_plain _ _ _ (by kernel_rfl)] at h
  exact h
 obtain ⟨a, s, hv, _⟩ := laid_sentinel (P := Tryz.prog) (ti := 173) (tp := 212) (te := 229) (ts := 9) h1 ring_named (by kernel_rfl) Tryz.underlying173 row_err Tryz.underlying212 Tryz.underlying229 rfl rfl Tryz.underlying9 (by kernel_rfl) k_cells9
 have hc : W.cell? ⟨0, 0, none⟩ = some (.iface 212 (.pointer (some a))) := by simpa using World.var?_cell ring_named hv 0
 exact ⟨_, hc, World.block_lt_of_cell? W _ hc⟩
end Go.Proofs.YtbhiphjifdnhmaaGreatDoor
