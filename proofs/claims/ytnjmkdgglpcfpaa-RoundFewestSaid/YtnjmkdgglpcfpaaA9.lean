import Derived.Test.YtnjmkdgglpcfpaaA8
/- 'search{house: .., shut: .., wanted: ..}': the cells of the struct that is built out of three parts, in the walk's own spelling. -/
namespace Go.Proofs.Ytnjmkdgglpcfpaa
open Go.RowKit
theorem fold_cells (C R B F : Int) (sl : Value) (p q : Nat → Bool) :
    Array.foldl (fun cs x => cs.setIfInBounds (125 + x.snd) x.fst) (Array.foldl (fun cs x => cs.setIfInBounds (5 + x.snd) x.fst) (((((Try.zeroCells106.setIfInBounds 0 (.int .i64 C)).setIfInBounds 1 (.int .i64 R)).setIfInBounds 2 (.int .i64 B)).setIfInBounds 3 (.int .i64 F)).setIfInBounds 4 sl) (mk p).zipIdx 0 120) (mk q).zipIdx 0 120
      = sv C R B F sl p q := by kernel_rfl
theorem fold_size (C R B F : Int) (sl : Value) (p : Nat → Bool) :
    (Array.foldl (fun cs x => cs.setIfInBounds (5 + x.snd) x.fst) (((((Try.zeroCells106.setIfInBounds 0 (.int .i64 C)).setIfInBounds 1 (.int .i64 R)).setIfInBounds 2 (.int .i64 B)).setIfInBounds 3 (.int .i64 F)).setIfInBounds 4 sl) (mk p).zipIdx 0 120).size = 245 := by kernel_rfl
/-- a search's cells as a list -/
def svl (C R B F : Int) (sl : Value) (p q : Nat → Bool) : List Value := (sv C R B F sl p q).toList
theorem svl_arr (C R B F : Int) (sl : Value) (p q : Nat → Bool) : (svl C R B F sl p q).toArray = sv C R B F sl p q := by simp [svl]
theorem svl_len (C R B F : Int) (sl : Value) (p q : Nat → Bool) : (svl C R B F sl p q).length = 245 := by simp [svl, sv_size]
theorem fold_list (C R B F : Int) (sl : Value) (p q : Nat → Bool) :
    Array.foldl (fun cs x => cs.setIfInBounds (125 + x.snd) x.fst) (Array.foldl (fun cs x => cs.setIfInBounds (5 + x.snd) x.fst) (((((Try.zeroCells106.setIfInBounds 0 (.int .i64 C)).setIfInBounds 1 (.int .i64 R)).setIfInBounds 2 (.int .i64 B)).setIfInBounds 3 (.int .i64 F)).setIfInBounds 4 sl) (mk p).zipIdx 0 120) (mk q).zipIdx 0 120
      = (svl C R B F sl p q).toArray := by rw [svl_arr]; exact fold_cells C R B F sl p q
end Go.Proofs.Ytnjmkdgglpcfpaa

namespace Go.Proofs.Ytnjmkdgglpcfpaa
open Go.RowKit

theorem results_cell_mid {P : Program} {fn : Func} {p : Tmp} {ty : TypeId} (h : fn.results = #[.cell p ty]) (tmps : Array Value) (w : World) (b : Nat) (cs : List Value) (d : TypeDesc)
    (hp : tmps.getD p undef = .pointer (some ⟨b, 0, none⟩)) (hc : w.rangeAt b 0 cs) (hu : P.underlying ty = some d) (hd : d.isRow = true) (hi : (P.info? ty).map (·.size) = some cs.length) :
    (results fn tmps).run P w = .ok (.agg cs.toArray) w := by
  have hp' : tmps[p]?.getD undef = .pointer (some ⟨b, 0, none⟩) := by simpa using hp
  simp [results, h, hp', asAddr, run_loadVar_mid w b 0 ty cs d hc hu hd hi]

theorem below_setCells {B : Nat} {a : World} {b : Nat} (hb : B ≤ b) : ∀ (vs : List Value) (o : Nat) {w : World}, Below B a w → Below B a (w.setCells b o vs)
  | [], _, _, h => h
  | v :: vs, o, _, h => below_setCells hb vs (o + 1) (h.setCell (p := ⟨b, o, none⟩) hb v)

theorem there_below {B : Nat} {w w' : World} {g o n : Nat} (h : w.there g o n) (hb : Below B w w') (hg : g < B) : w'.there g o n := fun j hj => by
  obtain ⟨q1, q2⟩ := bcell hb
  obtain ⟨h1, h2⟩ := h j hj
  exact ⟨by rw [q1 _ _ hg]; exact h1, by rw [q2 _ _ hg]; exact h2⟩
theorem Blk.there {w : World} {g : Nat} {t : TypeId} {cs : Array Value} (h : Blk w g t cs) : w.there g 0 cs.size := fun j hj => by
  rw [Nat.zero_add, h.cell j, h.frozen j]
  exact ⟨by simp [hj], rfl⟩

/-- block g has n cells that may be written -/
def BlkN (w : World) (g : Nat) (t : TypeId) (n : Nat) : Prop := ∃ cs, Blk w g t cs ∧ cs.size = n
theorem keep6 {W w2 : World} {g g2 n : Nat} {t2 : TypeId} {a b c d e : Value} (hb : Below W.heap.size W w2)
    (h : W.cell? ⟨g, 0, none⟩ = some a ∧ W.cell? ⟨g, 1, none⟩ = some b ∧ W.cell? ⟨g, 2, none⟩ = some c ∧ W.cell? ⟨g, 3, none⟩ = some d ∧ W.cell? ⟨g, 4, none⟩ = some e ∧ BlkN W g2 t2 n) :
    w2.cell? ⟨g, 0, none⟩ = some a ∧ w2.cell? ⟨g, 1, none⟩ = some b ∧ w2.cell? ⟨g, 2, none⟩ = some c ∧ w2.cell? ⟨g, 3, none⟩ = some d ∧ w2.cell? ⟨g, 4, none⟩ = some e ∧ BlkN w2 g2 t2 n := by
  obtain ⟨h0, h1, h2, h3, h4, cs, h5, h6⟩ := h
  obtain ⟨r0, r1, r2, r3, r4⟩ := keep5 hb ⟨h0, h1, h2, h3, h4⟩
  exact ⟨r0, r1, r2, r3, r4, cs, h5.below hb h5.lt, h6⟩
theorem keep6Row {W : World} {g g2 n : Nat} {t2 : TypeId} {a b c d e : Value} {cs : Array Value} (hne : g ≠ g2) (hn : cs.size = n)
    (h : W.cell? ⟨g, 0, none⟩ = some a ∧ W.cell? ⟨g, 1, none⟩ = some b ∧ W.cell? ⟨g, 2, none⟩ = some c ∧ W.cell? ⟨g, 3, none⟩ = some d ∧ W.cell? ⟨g, 4, none⟩ = some e ∧ BlkN W g2 t2 n) :
    (W.setRow g2 cs).cell? ⟨g, 0, none⟩ = some a ∧ (W.setRow g2 cs).cell? ⟨g, 1, none⟩ = some b ∧ (W.setRow g2 cs).cell? ⟨g, 2, none⟩ = some c ∧ (W.setRow g2 cs).cell? ⟨g, 3, none⟩ = some d ∧ (W.setRow g2 cs).cell? ⟨g, 4, none⟩ = some e ∧ BlkN (W.setRow g2 cs) g2 t2 n := by
  obtain ⟨h0, h1, h2, h3, h4, c0, h5, h6⟩ := h
  have q : ∀ o, (W.setRow g2 cs).cell? ⟨g, o, none⟩ = W.cell? ⟨g, o, none⟩ := fun o => World.cell?_of_block (setRow_other W g2 g cs hne)
  exact ⟨(q _).trans h0, (q _).trans h1, (q _).trans h2, (q _).trans h3, (q _).trans h4, cs, h5.setRow cs, hn⟩
theorem store_whole {P : Program} {g n : Nat} {t : TypeId} {L : List Value} (hl : L.length = n) (h1 : ∀ v ∈ L, v.oneCell' = true) (W : World) (h : BlkN W g t n) :
    (storeCells ⟨g, 0, none⟩ L).run P W = .ok () (W.setRow g L.toArray) := by
  obtain ⟨cur, h, hn⟩ := h
  have := run_storeCells_from (P := P) g t L 0 cur W h (by omega) h1
  simpa using this
theorem info106l (C R B F : Int) (sl : Value) (p q : Nat → Bool) : (Try.prog.info? 106).map (·.size) = some (svl C R B F sl p q).length := by
  rw [svl_len]
  kernel_rfl
theorem sv_one (C R B F : Int) (A : Option Addr) (n c : Nat) (p q : Nat → Bool) : ∀ v ∈ svl C R B F (.slice A n c) p q, v.oneCell' = true := by
  intro v hv
  have : v ∈ sv C R B F (.slice A n c) p q := by simpa [svl] using hv
  simp only [sv, hcs, mk, Array.mem_append, List.mem_toArray, List.mem_cons, List.mem_map, List.not_mem_nil, or_false] at this
  rcases this with (h | ⟨_, _, rfl⟩) | ⟨_, _, rfl⟩
  · rcases h with rfl | rfl | rfl | rfl | rfl <;> simp [Value.oneCell']
  · simp [Value.oneCell']
  · simp [Value.oneCell']

attribute [local go_sem] mk_size fold_size

set_option maxRecDepth 100000 in
set_option maxHeartbeats 1000000 in
theorem newSearch_ok {C R B F : Int} {A : Option Addr} {cap : Nat} {cl : List Int} {D : Option Addr} {dap : Nat} {l : List Int} (w : World) (hok : Ok C R B F cl) (hr : Ints w w.heap.size A cl) (hl : Ints w w.heap.size D l) (hll : l.length ≤ 1000) (hpos : ∀ x ∈ l, 0 ≤ x) :
    Calls Try.prog 92 #[.agg #[.int .i64 C, .int .i64 R, .int .i64 B, .int .i64 F, .slice A cl.length cap], .slice D l.length dap] w fun e w' => e = .returned (.agg (sv C R B F (.slice A cl.length cap) (isIn cl) (isIn (colm C l)))) ∧ Below w.heap.size w w' := by
  have hin : ∀ x ∈ cl, 0 ≤ x ∧ x < 120 := fun x hx => by have := hok.rise.2 x hx; have := hok.c120; omega
  have hcl := hok.len
  have k1 := hok.c3
  have k4 := hok.c120
  go_enter Try.func92, Try.ntmps92
  go_wp2_with fail
  generalize hw1 : ((w.alloc (Obj.cells #[Value.int IntKind.i64 C, Value.int IntKind.i64 R, Value.int IntKind.i64 B, Value.int IntKind.i64 F, Value.slice A cl.length cap] 24)).alloc (Obj.cells Try.zeroCells106 106)) = w1
  have hb : Below w.heap.size w w1 := by subst hw1; exact (below_new _ _).alloc (by simp) _
  have hblk : Blk w1 w.heap.size 24 #[.int .i64 C, .int .i64 R, .int .i64 B, .int .i64 F, .slice A cl.length cap] := by subst hw1; exact (Blk.new _ _ _).alloc _
  have hblk2 : Blk w1 (w.heap.size + 1) 106 Try.zeroCells106 := by subst hw1; exact Blk.newAt (by simp)
  clear hw1
  obtain ⟨d0, d1, d2, d3, d4⟩ := hblk.five
  have hlt := hblk.lt
  have hlt2 := hblk2.lt
  have hR : ∀ W : World, Below w1.heap.size w1 W → Ints W W.heap.size A cl := fun W hW => ((hr.below hb).more (by omega)).behind hW
  have hL : ∀ W : World, Below w1.heap.size w1 W → Ints W W.heap.size D l := fun W hW => ((hl.below hb).more (by omega)).behind hW
  have hfold := fold_list C R B F (.slice A cl.length cap) (isIn cl) (isIn (colm C l))
  have hi := info106l C R B F (.slice A cl.length cap) (isIn cl) (isIn (colm C l))
  have h1 := sv_one C R B F A cl.length cap (isIn cl) (isIn (colm C l))
  have hlen := svl_len C R B F (.slice A cl.length cap) (isIn cl) (isIn (colm C l))
  have harr := svl_arr C R B F (.slice A cl.length cap) (isIn cl) (isIn (colm C l))
  generalize svl C R B F (.slice A cl.length cap) (isIn cl) (isIn (colm C l)) = L at hfold hi h1 hlen harr
  have HA := Lib.hid harr
  clear harr
  have hst := @store_whole Try.prog (w.heap.size + 1) 245 106 L hlen h1
  have hbn : BlkN w1 (w.heap.size + 1) 106 245 := ⟨_, hblk2, Try.zeroCells106_size⟩
  have hls : Hid (L.toArray.size = 245) := List.size_toArray.trans hlen
  clear hblk hblk2 hr hl hok h1 hi
  go_region_held3 (fun w' => w'.cell? ⟨w.heap.size, 0, none⟩ = some (.int .i64 C) ∧ w'.cell? ⟨w.heap.size, 1, none⟩ = some (.int .i64 R) ∧ w'.cell? ⟨w.heap.size, 2, none⟩ = some (.int .i64 B) ∧ w'.cell? ⟨w.heap.size, 3, none⟩ = some (.int .i64 F) ∧ w'.cell? ⟨w.heap.size, 4, none⟩ = some (.slice A cl.length cap) ∧ BlkN w' (w.heap.size + 1) 106 245) (first | exact keep6Row (by omega) hls.out K3 | exact K3 | exact K2 | exact ⟨d0, d1, d2, d3, d4, hbn⟩)
    (first
      | (go_at_call 68; refine (marked_any cl A cap _ (by omega) hin ?_).mono ?_; (first | exact hR _ (Below.refl _ _).drew | exact hR _ ((below_next (Below.refl _ _).drew (Nat.le_refl _) hb3))); rintro e w2 ⟨rfl, hb2⟩; have K2 := keep6 hb2 (by first | exact K3 | exact ⟨d0, d1, d2, d3, d4, hbn⟩))
      | (go_at_call 77; refine (columnsOf_any C R B F _ l D dap _ (by omega) k4 (by omega) hpos ?_).mono ?_; (first | exact hL _ (Below.refl _ _).drew | exact hL _ ((below_next (Below.refl _ _).drew (Nat.le_refl _) hb2))); rintro e w3 ⟨rfl, hb3⟩; have K3 := keep6 hb3 (by first | exact K2 | exact ⟨d0, d1, d2, d3, d4, hbn⟩)))
  go_wp2_with fail
  have hz2 := hb2.size
  have hz3 := hb3.size
  obtain ⟨_, _, _, _, _, c0, K5, _⟩ := K3
  refine bodyPost_ret (v := .agg (sv C R B F (.slice A cl.length cap) (isIn cl) (isIn (colm C l)))) (results_cell_row (g := w.heap.size + 1) rfl _ _ 106 _ (0, 0) _ rfl (by rw [← HA.out]; exact K5.setRow _) Try.underlying106 rfl (info106 _ _ _ _ _ _ _)) rfl ⟨rfl, ?_⟩
  exact below_setRow (below_next (below_next hb.drew (by simp; omega) hb2) (by simp at hz2; omega) hb3) (by omega) _

end Go.Proofs.Ytnjmkdgglpcfpaa

