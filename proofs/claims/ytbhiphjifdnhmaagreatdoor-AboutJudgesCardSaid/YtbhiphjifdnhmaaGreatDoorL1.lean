import Derived.Test.YtbhiphjifdnhmaaGreatDoorL0
/- A verdict that is read as data. -/
namespace Go.Proofs.YtbhiphjifdnhmaaGreatDoor
open Go.ChangeShapes Go.WideShapes Go.ChangeAt Go.RowKit

theorem k_cells48 : Tryz.prog.cellsOf 48 = 6 := by kernel_rfl
theorem k_cells46 : Tryz.prog.cellsOf 46 = 2 := by kernel_rfl
section
variable {H : Type} {enc : TypeId × Value → H} {W : World} {base : Nat}
set_option maxRecDepth 100000 in
theorem pair_ints {n : Nat} {a b : Value} {x : DataW H × List MemPlace} (h : DataW.trod enc Tryz.prog W 0 (fun _ => true) true n 46 [a, b] = some x) : ∃ p q : Int, a = .int .i64 p ∧ b = .int .i64 q := by
  obtain ⟨ys, m, _, _, _, hn, hel⟩ := DataW.trod_array Tryz.underlying46 h
  have h0 := hel 0 (by omega)
  have h1 := hel 1 (by omega)
  rw [k_cells3, List.getElem?_eq_getElem (show 0 < ys.length by omega)] at h0
  rw [k_cells3, List.getElem?_eq_getElem (show 1 < ys.length by omega)] at h1
  have g0 : DataW.trod enc Tryz.prog W 0 (fun _ => true) true m 3 [a] = some ys[0] := by simpa using h0
  have g1 : DataW.trod enc Tryz.prog W 0 (fun _ => true) true m 3 [b] = some ys[1] := by simpa using h1
  obtain ⟨p, e0, _, _⟩ := DataW.trod_int Tryz.underlying3 g0
  obtain ⟨q, e1, _, _⟩ := DataW.trod_int Tryz.underlying3 g1
  cases e0; cases e1
  exact ⟨p, q, rfl, rfl⟩
set_option maxRecDepth 100000 in
theorem verdict_opens {v : Value} {d : DataW H} {p : List MemPlace} (hv : Value.okWide Tryz.prog W .any base 48 v) (h : DataW.Trod enc Tryz.prog W 0 (fun _ => true) true 48 v d p) :
    ∃ c : Vd, v = .agg (vcs c) := by
  obtain ⟨cs, rfl, hsz⟩ := okWide_struct Tryz.underlying48 hv
  rw [k_cells48] at hsz
  obtain ⟨fuel, hf⟩ := h
  obtain ⟨xs, n, _, hx, hl, hlen, hg⟩ := DataW.trod_struct Tryz.underlying48 hf
  obtain ⟨l⟩ := cs
  simp only [List.size_toArray] at hsz
  match l, hsz with
  | [a, b, c, d, e, f], _ =>
    match xs, hlen with
    | [x0, x1, x2, x3], _ =>
      have g0 : DataW.trod enc Tryz.prog W 0 (fun _ => true) true n 3 [a] = some x0 := by have := hg 0 _ rfl; simpa [k_cells3, k_cells46, Value.cells] using this
      have g1 : DataW.trod enc Tryz.prog W 0 (fun _ => true) true n 3 [b] = some x1 := by have := hg 1 _ rfl; simpa [k_cells3, k_cells46, Value.cells] using this
      have g2 : DataW.trod enc Tryz.prog W 0 (fun _ => true) true n 46 [c, d] = some x2 := by have := hg 2 _ rfl; simpa [k_cells3, k_cells46, Value.cells] using this
      have g3 : DataW.trod enc Tryz.prog W 0 (fun _ => true) true n 46 [e, f] = some x3 := by have := hg 3 _ rfl; simpa [k_cells3, k_cells46, Value.cells] using this
      obtain ⟨p, e0, _, _⟩ := DataW.trod_int Tryz.underlying3 g0
      obtain ⟨q, e1, _, _⟩ := DataW.trod_int Tryz.underlying3 g1
      obtain ⟨r, s, rfl, rfl⟩ := pair_ints g2
      obtain ⟨t, u, rfl, rfl⟩ := pair_ints g3
      cases e0; cases e1
      exact ⟨⟨p, q, r, s, t, u⟩, rfl⟩
end
end Go.Proofs.YtbhiphjifdnhmaaGreatDoor
