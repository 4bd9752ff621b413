import Derived.Test.YtieclenlldjfjaaGreatLF
import Derived.Test.YtieclenlldjfjaaGreatG2
import Derived.Deep.Slices
set_option linter.unusedSimpArgs false
set_option linter.unusedVariables false
/- A grammar that is read as data. -/
namespace Go.Proofs.YtieclenlldjfjaaGreat
open Go.ChangeShapes Go.WideShapes Go.ChangeAt Go.RowKit

theorem k_cells105 : Tryz.prog.cellsOf 105 = 3 := by kernel_rfl
theorem k_cells22 : Tryz.prog.cellsOf 22 = 1 := by kernel_rfl
theorem k_cells25 : Tryz.prog.cellsOf 25 = 1 := by kernel_rfl
theorem k_cells24 : Tryz.prog.cellsOf 24 = 7 := by kernel_rfl
section
variable {H : Type} {enc : TypeId × Value → H} {W : World} {base : Nat}
set_option maxRecDepth 100000 in
/-- a making that is read as data -/
theorem making_list {n : Nat} {cs : List Value} {x : DataW H × List MemPlace} (h : DataW.trod enc Tryz.prog W 0 (fun _ => true) true n 105 cs = some x) :
    ∃ (m : Mkg) (IA : Option Addr) (icap : Nat), cs = [.int .i64 m.sym, .slice IA m.items.length icap, .int .i64 m.cost] ∧ m.items.length ≤ icap ∧ icap ≤ maxLen ∧ Ints W W.heap.size IA m.items := by
  obtain ⟨xs, n, _, hx, hsz, hlen, hg⟩ := DataW.trod_struct Tryz.underlying105 h
  rw [k_cells105] at hsz
  match cs, hsz with
  | [c0, c1, c2], hsz =>
    match xs, hlen with
    | [x0, x1, x2], _ =>
      have g0 : DataW.trod enc Tryz.prog W 0 (fun _ => true) true n 3 [c0] = some x0 := by have := hg 0 _ rfl; simpa [k_cells3] using this
      have g1 : DataW.trod enc Tryz.prog W 0 (fun _ => true) true n 25 [c1] = some x1 := by have := hg 1 _ rfl; simpa [k_cells25] using this
      have g2 : DataW.trod enc Tryz.prog W 0 (fun _ => true) true n 3 [c2] = some x2 := by have := hg 2 _ rfl; simpa [k_cells3] using this
      obtain ⟨p0, e0, _, _⟩ := DataW.trod_int Tryz.underlying3 g0
      obtain ⟨IA, icap, l, rfl, q1, q2, q3⟩ := ints_opens g1
      obtain ⟨p2, e2, _, _⟩ := DataW.trod_int Tryz.underlying3 g2
      cases e0; cases e2
      exact ⟨⟨p0, l, p2⟩, IA, icap, rfl, q1, q2, q3⟩
set_option maxRecDepth 100000 in
/-- makings that are read as data -/
theorem makings_opens {fuel : Nat} {v : Value} {x : DataW H × List MemPlace} (h : DataW.trod enc Tryz.prog W 0 (fun _ => true) true fuel 22 [v] = some x) :
    ∃ (A : Option Addr) (cap : Nat) (l : List Mkg), v = .slice A l.length cap ∧ l.length ≤ cap ∧ cap ≤ maxLen ∧ Gr W W.heap.size A l := by
  rcases Deep.open_slice Tryz.underlying22 h with ⟨hcs, hx⟩ | ⟨a, len, cap, m, n, D, Pl, hcs, _, hl, hm, hmm, hx, each⟩
  · exact ⟨none, 0, [], by simpa using hcs, by simp, by simp, fun k d hk => (by simp at hk)⟩
  · rw [k_cells105] at each
    have hlm : len ≤ m := by rw [hmm]; simpa using hl
    have key : ∀ i : Nat, ∃ d : Mkg, i < len → ∃ (IA : Option Addr) (icap : Nat), (∀ j u, [Value.int .i64 d.sym, .slice IA d.items.length icap, .int .i64 d.cost][j]? = some u → W.cell? ((a.add (i * 3)).add j) = some u) ∧ d.items.length ≤ icap ∧ icap ≤ maxLen ∧ Ints W W.heap.size IA d.items := by
      intro i
      by_cases hi : i < len
      · obtain ⟨cs, h1, h2⟩ := each i (by omega)
        obtain ⟨_, hlen, hcell⟩ := World.cells?_some h1
        obtain ⟨d, IA, icap, rfl, z1, z2, z3⟩ := making_list h2
        refine ⟨d, fun _ => ⟨IA, icap, fun j u hj => ?_, z1, z2, z3⟩⟩
        have hjl := (List.getElem?_eq_some_iff.1 hj).1
        rw [hcell j (by omega)]
        exact hj
      · exact ⟨⟨0, [], 0⟩, fun h => absurd h hi⟩
    obtain ⟨f, hf⟩ := Classical.axiomOfChoice key
    have hlen : ((List.range len).map f).length = len := by simp
    refine ⟨some a, cap, (List.range len).map f, by rw [hlen]; simpa using hcs, by rw [hlen]; exact hl, hm, fun k c hk => ?_⟩
    have hk2 : k < len := by have := (List.getElem?_eq_some_iff.1 hk).1; rwa [hlen] at this
    have hck : c = f k := by
      rw [List.getElem?_map, List.getElem?_range hk2] at hk
      simpa using hk.symm
    subst hck
    obtain ⟨IA, icap, hc, z1, z2, z3⟩ := hf k hk2
    have h00 := hc 0 _ rfl
    obtain ⟨IA0, icap0, hc0, _⟩ := hf 0 (by omega)
    have h000 := hc0 0 _ rfl
    have hsp := World.cell?_spot h000
    have hbk := World.block_lt_of_cell? W _ h000
    obtain ⟨g, o, sp⟩ := a
    have hsp' : sp = none := by simpa [Addr.add] using hsp
    subst hsp'
    have e : ∀ j, ((⟨g, o, none⟩ : Addr).add (k * 3)).add j = ⟨((⟨g, o, none⟩ : Addr).add (k * 3)).block, ((⟨g, o, none⟩ : Addr).add (k * 3)).off + j, none⟩ := by
      intro j
      unfold Addr.add
      by_cases h1 : k * 3 = 0 <;> by_cases h2 : j = 0 <;> simp [h1, h2]
    have e0 : ((⟨g, o, none⟩ : Addr).add (k * 3)).add 0 = (⟨g, o, none⟩ : Addr).add (k * 3) := by unfold Addr.add; simp
    refine ⟨⟨g, o, none⟩, rfl, by simpa [Addr.add] using hbk, by rw [← e0]; exact h00, ⟨IA, icap, by rw [← e 1]; exact hc 1 _ rfl, z1, z2, z3⟩, by rw [← e 2]; exact hc 2 _ rfl⟩
set_option maxRecDepth 100000 in
/-- a grammar that is read as data -/
theorem grammar_opens {v : Value} {d : DataW H} {p : List MemPlace} (hv : Value.okWide Tryz.prog W .any base 24 v) (h : DataW.Trod enc Tryz.prog W 0 (fun _ => true) true 24 v d p) :
    ∃ (Sy St Ot Mi Ad Sm : Int) (A : Option Addr) (cap : Nat) (ms : List Mkg), v = gv Sy St (.slice A ms.length cap) Ot Mi Ad Sm ∧ ms.length ≤ cap ∧ cap ≤ maxLen ∧ Gr W W.heap.size A ms := by
  obtain ⟨cs, rfl, hsz⟩ := okWide_struct Tryz.underlying24 hv
  obtain ⟨l⟩ := cs
  have hl : l.length = 7 := hsz.trans k_cells24
  match l, hl with
  | [a, b, c, e, f, g, i], _ =>
    obtain ⟨fuel, hf⟩ := h
    obtain ⟨xs, n, _, hx, _, hlen, hg⟩ := DataW.trod_struct Tryz.underlying24 hf
    match xs, hlen with
    | [x0, x1, x2, x3, x4, x5, x6], _ =>
      have g0 : DataW.trod enc Tryz.prog W 0 (fun _ => true) true n 3 [a] = some x0 := by have := hg 0 _ rfl; simpa [k_cells3, Value.cells] using this
      have g1 : DataW.trod enc Tryz.prog W 0 (fun _ => true) true n 3 [b] = some x1 := by have := hg 1 _ rfl; simpa [k_cells3, Value.cells] using this
      have g2 : DataW.trod enc Tryz.prog W 0 (fun _ => true) true n 22 [c] = some x2 := by have := hg 2 _ rfl; simpa [k_cells22, Value.cells] using this
      have g3 : DataW.trod enc Tryz.prog W 0 (fun _ => true) true n 3 [e] = some x3 := by have := hg 3 _ rfl; simpa [k_cells3, Value.cells] using this
      have g4 : DataW.trod enc Tryz.prog W 0 (fun _ => true) true n 3 [f] = some x4 := by have := hg 4 _ rfl; simpa [k_cells3, Value.cells] using this
      have g5 : DataW.trod enc Tryz.prog W 0 (fun _ => true) true n 3 [g] = some x5 := by have := hg 5 _ rfl; simpa [k_cells3, Value.cells] using this
      have g6 : DataW.trod enc Tryz.prog W 0 (fun _ => true) true n 3 [i] = some x6 := by have := hg 6 _ rfl; simpa [k_cells3, Value.cells] using this
      obtain ⟨Sy, e0, _, _⟩ := DataW.trod_int Tryz.underlying3 g0
      obtain ⟨St, e1, _, _⟩ := DataW.trod_int Tryz.underlying3 g1
      obtain ⟨A, cap, ms, rfl, q1, q2, q3⟩ := makings_opens g2
      obtain ⟨Ot, e3, _, _⟩ := DataW.trod_int Tryz.underlying3 g3
      obtain ⟨Mi, e4, _, _⟩ := DataW.trod_int Tryz.underlying3 g4
      obtain ⟨Ad, e5, _, _⟩ := DataW.trod_int Tryz.underlying3 g5
      obtain ⟨Sm, e6, _, _⟩ := DataW.trod_int Tryz.underlying3 g6
      cases e0; cases e1; cases e3; cases e4; cases e5; cases e6
      exact ⟨Sy, St, Ot, Mi, Ad, Sm, A, cap, ms, rfl, q1, q2, q3⟩
end
end Go.Proofs.YtieclenlldjfjaaGreat
