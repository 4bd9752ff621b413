import Derived.Test.YtnjmkdgglpcfpaaA7
import Derived.Deep.MidRow
namespace Go.Proofs.Ytnjmkdgglpcfpaa
open Go.RowKit

/-- a house's cells -/
def hcs (C R B F : Int) (sl : Value) : Array Value := #[.int .i64 C, .int .i64 R, .int .i64 B, .int .i64 F, sl]
/-- a search's cells: the house, what is shut, what is wanted -/
def sv (C R B F : Int) (sl : Value) (p q : Nat → Bool) : Array Value := hcs C R B F sl ++ mk p ++ mk q
theorem sv_size (C R B F : Int) (sl : Value) (p q : Nat → Bool) : (sv C R B F sl p q).size = 245 := by
  simp [sv, hcs, mk_size]
theorem info106 (C R B F : Int) (sl : Value) (p q : Nat → Bool) : (Try.prog.info? 106).map (·.size) = some (sv C R B F sl p q).size := by
  rw [sv_size]
  kernel_rfl
theorem info93' : (Try.prog.info? 93).map (·.size) = some 120 := by kernel_rfl
theorem sv_house (C R B F : Int) (sl : Value) (p q : Nat → Bool) : (sv C R B F sl p q)[0]? = some (.int .i64 C) ∧ (sv C R B F sl p q)[1]? = some (.int .i64 R) ∧ (sv C R B F sl p q)[2]? = some (.int .i64 B) ∧ (sv C R B F sl p q)[3]? = some (.int .i64 F) ∧ (sv C R B F sl p q)[4]? = some sl := by
  simp [sv, hcs, Array.getElem?_append]
theorem sv_shut (C R B F : Int) (sl : Value) (p q : Nat → Bool) (i : Nat) (h : i < 120) : (sv C R B F sl p q)[5 + i]? = some (.bool (p i)) := by
  have h5 : (hcs C R B F sl).size = 5 := rfl
  have hm := mk_size p
  unfold sv
  rw [Array.getElem?_append, if_pos (by simp [h5, hm]; omega), Array.getElem?_append, if_neg (by rw [h5]; omega), h5, show 5 + i - 5 = i by omega, mk_get _ _ h]
theorem sv_wanted (C R B F : Int) (sl : Value) (p q : Nat → Bool) (i : Nat) (h : i < 120) : (sv C R B F sl p q)[125 + i]? = some (.bool (q i)) := by
  have h5 : (hcs C R B F sl).size = 5 := rfl
  have hm := mk_size p
  unfold sv
  rw [Array.getElem?_append, if_neg (by simp [h5, hm]), show 125 + i - (hcs C R B F sl ++ mk p).size = i by simp [h5, hm], mk_get _ _ h]

theorem keep5 {W w2 : World} {g : Nat} {a b c d e : Value} (hb : Below W.heap.size W w2)
    (h : W.cell? ⟨g, 0, none⟩ = some a ∧ W.cell? ⟨g, 1, none⟩ = some b ∧ W.cell? ⟨g, 2, none⟩ = some c ∧ W.cell? ⟨g, 3, none⟩ = some d ∧ W.cell? ⟨g, 4, none⟩ = some e) :
    w2.cell? ⟨g, 0, none⟩ = some a ∧ w2.cell? ⟨g, 1, none⟩ = some b ∧ w2.cell? ⟨g, 2, none⟩ = some c ∧ w2.cell? ⟨g, 3, none⟩ = some d ∧ w2.cell? ⟨g, 4, none⟩ = some e := by
  have hlt : g < W.heap.size := World.block_lt_of_cell? W _ h.1
  obtain ⟨q, _⟩ := bcell hb
  obtain ⟨h0, h1, h2, h3, h4⟩ := h
  exact ⟨(q _ _ hlt).trans h0, (q _ _ hlt).trans h1, (q _ _ hlt).trans h2, (q _ _ hlt).trans h3, (q _ _ hlt).trans h4⟩
section
variable {w : World} {g : Nat} {t : TypeId} {C R B F : Int} {sl : Value} {p q : Nat → Bool}
theorem Blk.svFive (h : Blk w g t (sv C R B F sl p q)) :
    w.cell? ⟨g, 0, none⟩ = some (.int .i64 C) ∧ w.cell? ⟨g, 1, none⟩ = some (.int .i64 R) ∧ w.cell? ⟨g, 2, none⟩ = some (.int .i64 B) ∧ w.cell? ⟨g, 3, none⟩ = some (.int .i64 F) ∧ w.cell? ⟨g, 4, none⟩ = some sl := by
  obtain ⟨h0, h1, h2, h3, h4⟩ := sv_house C R B F sl p q
  exact ⟨(h.cell 0).trans h0, (h.cell 1).trans h1, (h.cell 2).trans h2, (h.cell 3).trans h3, (h.cell 4).trans h4⟩
theorem Blk.svShut (h : Blk w g t (sv C R B F sl p q)) (i : Nat) (hi : i < 120) : w.cell? ⟨g, 5 + i, none⟩ = some (.bool (p i)) := (h.cell _).trans (sv_shut _ _ _ _ _ _ _ i hi)
theorem Blk.svWanted (h : Blk w g t (sv C R B F sl p q)) (i : Nat) (hi : i < 120) : w.cell? ⟨g, 125 + i, none⟩ = some (.bool (q i)) := (h.cell _).trans (sv_wanted _ _ _ _ _ _ _ i hi)
theorem Blk.svShutRow (h : Blk w g t (sv C R B F sl p q)) : w.rangeAt g 5 (mk p).toList := fun j v hv => by
  have hj : j < 120 := by have := (List.getElem?_eq_some_iff.1 hv).1; simpa [mk_size] using this
  rw [h.svShut j hj, ← mk_get p j hj, ← hv]
  simp
theorem Blk.svWantedRow (h : Blk w g t (sv C R B F sl p q)) : w.rangeAt g 125 (mk q).toList := fun j v hv => by
  have hj : j < 120 := by have := (List.getElem?_eq_some_iff.1 hv).1; simpa [mk_size] using this
  rw [h.svWanted j hj, ← mk_get q j hj, ← hv]
  simp
end
theorem info93l (p : Nat → Bool) : (Try.prog.info? 93).map (·.size) = some (mk p).toList.length := by
  rw [Array.length_toList]
  exact info93 p

set_option maxRecDepth 100000 in
set_option maxHeartbeats 400000 in
theorem sStands_any (C R B F : Int) (sl : Value) (p q : Nat → Bool) (c : Int) (w : World) (h1 : 1 ≤ C) (h2 : C ≤ 120) (h3 : 0 ≤ c) (h4 : c < C) (h7 : 0 ≤ B) (h8 : 0 ≤ F) (h9 : F < C - B) :
    Calls Try.prog 88 #[.agg (sv C R B F sl p q), .int .i64 c] w (RetInts w (opens C B F p c)) := by
  have hblk := Blk.new w 106 (sv C R B F sl p q)
  obtain ⟨d0, d1, d2, d3, d4⟩ := hblk.svFive
  have hrow := hblk.svShutRow
  go_enter Try.func88, Try.ntmps88
  go_wp2_with (first
    | (refine wpList_load_mid (by rfl) 93 _ (by rfl) _ 5 (by rfl) _ _ hrow Try.underlying93 rfl (info93l _) ?_)
    | (go_at_call 67; refine (openStands_any C R B F sl p c _ h1 h2 h3 h4 h7 h8 h9).mono ?_; rintro e w1 ⟨A, c', rfl, e1, e2, e3, e4⟩))
  go_ret
  exact ⟨A, c', rfl, e1, e2, e3, below_next (below_new _ _) (by simp) e4⟩

/-- what a function that makes a slice of ints or has an error hands back -/
def RetInts2 (w : World) (l : List Int) (er : Int) (e : Ending) (w' : World) : Prop :=
  ∃ A c, e = .returned (.tuple #[.slice A l.length c, .int .i64 er]) ∧ l.length ≤ c ∧ c ≤ maxLen ∧ Ints w' w'.heap.size A l ∧ Below w.heap.size w w'
theorem RetInts2.err {w w' : World} {er : Int} (hb : Below w.heap.size w w') : RetInts2 w [] er (.returned (.tuple #[.slice none 0 0, .int .i64 er])) w' :=
  ⟨Option.none, 0, rfl, Nat.le_refl _, by simp [maxLen], Ints.nil, hb⟩

set_option maxRecDepth 100000 in
set_option maxHeartbeats 400000 in
theorem stands_ok {C R B F : Int} {A : Option Addr} {cap : Nat} {cl : List Int} {c : Int} (w : World) (hok : Ok C R B F cl) (hr : Ints w w.heap.size A cl) (hc : 0 ≤ c ∧ c < C) :
    Calls Try.prog 22 #[.agg #[.int .i64 C, .int .i64 R, .int .i64 B, .int .i64 F, .slice A cl.length cap], .int .i64 c] w (RetInts2 w (opens C B F (isIn cl) c) 0) := by
  have hr1 := hr.alloc (Nat.le_refl _) (.cells #[.int .i64 C, .int .i64 R, .int .i64 B, .int .i64 F, .slice A cl.length cap] 24)
  have he : colErr C R B F cl c = 0 := by rw [colErr_ok c hok, if_pos hc]
  have HE := Lib.hid he
  clear he
  have hin : ∀ x ∈ cl, 0 ≤ x ∧ x < 120 := fun x hx => by have := hok.rise.2 x hx; have := hok.c120; omega
  have hcl := hok.len
  have k1 := hok.c3
  have k2 := hok.bf
  have k3 := hok.f0
  have k4 := hok.c120
  have k5 := hok.b0
  go_enter Try.func22, Try.ntmps22
  go_wp2_with (first
    | (go_at_call 62; refine (checkColumn_any _ _ _ _ _ _ _ _ _ (by omega) (by omega) (hr1.more (by simp))).mono ?_; rw [HE.out]; rintro e w1 ⟨rfl, hb1⟩; obtain ⟨q1, q2⟩ := bcell hb1; have hr2 := hr1.below (hb1.mono (by simp)); have hz1 := hb1.size; rw [World.size_alloc] at hz1))
  have hb : Below w.heap.size w w1 := below_next (below_new _ _) (by simp) hb1
  have hblk : Blk w1 w.heap.size 24 #[.int .i64 C, .int .i64 R, .int .i64 B, .int .i64 F, .slice A cl.length cap] := (Blk.new _ _ _).below hb1 (by simp)
  obtain ⟨d0, d1, d2, d3, d4⟩ := hblk.five
  have hlt := hblk.lt
  have hR : ∀ W : World, Below w1.heap.size w1 W → Ints W W.heap.size A cl := fun W hW => (hr2.more (by omega)).behind hW
  clear hb1 q1 q2
  go_region_held3 (fun w' => w'.cell? ⟨w.heap.size, 0, none⟩ = some (.int .i64 C) ∧ w'.cell? ⟨w.heap.size, 1, none⟩ = some (.int .i64 R) ∧ w'.cell? ⟨w.heap.size, 2, none⟩ = some (.int .i64 B) ∧ w'.cell? ⟨w.heap.size, 3, none⟩ = some (.int .i64 F) ∧ w'.cell? ⟨w.heap.size, 4, none⟩ = some (.slice A cl.length cap)) (first | exact K3 | exact K2 | go_keep)
    (first
      | (go_at_call 68; refine (marked_any cl A cap _ (by omega) hin ?_).mono ?_; (exact hR _ (Below.refl _ _).drew); rintro e w2 ⟨rfl, hb2⟩; have K2 := keep5 hb2 ⟨d0, d1, d2, d3, d4⟩)
      | (go_at_call 67; refine (openStands_any C R B F _ (isIn cl) c _ (by omega) (by omega) hc.1 hc.2 k5 k3 k2).mono ?_; rintro e w3 ⟨A', c', rfl, e1, e2, e3, hb3⟩; have K3 := keep5 hb3 K2))
  go_wp2
  go_ret2
  exact ⟨A', c', rfl, e1, e2, e3, below_next (below_next hb.drew (by simp; omega) hb2) (by have := hb2.size; simp at this; omega) hb3⟩

end Go.Proofs.Ytnjmkdgglpcfpaa
