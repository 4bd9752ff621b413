import Derived.Test.YtbhiphjifdnhmaaGreatDoorJ2
import Derived.Deep.QuietTactic
import Derived.BigQuiet
set_option linter.unusedSimpArgs false
set_option linter.unusedVariables false
/- The reference: in, degrees. -/
namespace Go.Proofs.YtbhiphjifdnhmaaGreatDoor
open Go.RowKit

theorem keep8L {W w2 : World} {p1 p2 p3 p4 p5 p6 p7 p8 : Addr} {v1 v2 v3 v4 v5 v6 v7 v8 : Value} (hb : Below W.heap.size W w2) (h : W.cell? p1 = some v1 ∧ W.cell? p2 = some v2 ∧ W.cell? p3 = some v3 ∧ W.cell? p4 = some v4 ∧ W.cell? p5 = some v5 ∧ W.cell? p6 = some v6 ∧ W.cell? p7 = some v7 ∧ W.cell? p8 = some v8) :
    w2.cell? p1 = some v1 ∧ w2.cell? p2 = some v2 ∧ w2.cell? p3 = some v3 ∧ w2.cell? p4 = some v4 ∧ w2.cell? p5 = some v5 ∧ w2.cell? p6 = some v6 ∧ w2.cell? p7 = some v7 ∧ w2.cell? p8 = some v8 :=
  ⟨keepL hb h.1, keepL hb h.2.1, keepL hb h.2.2.1, keepL hb h.2.2.2.1, keepL hb h.2.2.2.2.1, keepL hb h.2.2.2.2.2.1, keepL hb h.2.2.2.2.2.2.1, keepL hb h.2.2.2.2.2.2.2⟩
/-- the blocks of degrees under way -/
structure DW (W : World) (h : Nat) (k m lo hi : Int) (a b : Nat → Int) (c d : Int) : Prop where
  s : Blk W h 86 #[.int .i64 k, .int .i64 m, .int .i64 lo, .int .i64 hi]
  a : Blk W (h + 1) 26 (va a)
  b : Blk W (h + 1 + 1) 26 (va b)
  z : Blk W (h + 1 + 1 + 1) 140 #[.int .i64 0, .int .i64 0, .int .i64 0]
  v : Blk W (h + 1 + 1 + 1 + 1) 140 #[.int .i64 c, .int .i64 d, .int .i64 0]
section
variable {W W' : World} {h : Nat} {k m lo hi : Int} {a b : Nat → Int} {c d : Int}
theorem DW.lt (g : DW W h k m lo hi a b c d) : h + 1 + 1 + 1 + 1 < W.heap.size := g.v.lt
theorem DW.below (g : DW W h k m lo hi a b c d) (hb : Below W.heap.size W W') : DW W' h k m lo hi a b c d :=
  ⟨g.s.below hb g.s.lt, g.a.below hb g.a.lt, g.b.below hb g.b.lt, g.z.below hb g.z.lt, g.v.below hb g.v.lt⟩
theorem DW.drew (g : DW W h k m lo hi a b c d) : DW W.drew h k m lo hi a b c d := ⟨g.s, g.a, g.b, g.z, g.v⟩
theorem DW.setC (g : DW W h k m lo hi a b c d) (x : Int) : DW (W.setCell ⟨h + 1 + 1 + 1 + 1, 0, none⟩ (.int .i64 x)) h k m lo hi a b x d :=
  ⟨g.s.far (by show _ ≠ h + 1 + 1 + 1 + 1; omega) _, g.a.far (by show _ ≠ h + 1 + 1 + 1 + 1; omega) _, g.b.far (by show _ ≠ h + 1 + 1 + 1 + 1; omega) _, g.z.far (by show _ ≠ h + 1 + 1 + 1 + 1; omega) _, g.v.store 0 _⟩
theorem DW.setM (g : DW W h k m lo hi a b c d) (x : Int) : DW (W.setCell ⟨h + 1 + 1 + 1 + 1, 1, none⟩ (.int .i64 x)) h k m lo hi a b c x :=
  ⟨g.s.far (by show _ ≠ h + 1 + 1 + 1 + 1; omega) _, g.a.far (by show _ ≠ h + 1 + 1 + 1 + 1; omega) _, g.b.far (by show _ ≠ h + 1 + 1 + 1 + 1; omega) _, g.z.far (by show _ ≠ h + 1 + 1 + 1 + 1; omega) _, g.v.store 1 _⟩
end
theorem Blk.three {w : World} {g : Nat} {t : TypeId} {a b c : Value} (h : Blk w g t #[a, b, c]) : w.cell? ⟨g, 0, none⟩ = some a ∧ w.cell? ⟨g, 1, none⟩ = some b ∧ w.cell? ⟨g, 2, none⟩ = some c := ⟨h.cell 0, h.cell 1, h.cell 2⟩
theorem Blk.threeStore {w : World} {g : Nat} {t : TypeId} {a b c : Value} (h : Blk w g t #[a, b, c]) (x y z : Value) : Blk (((w.setCell ⟨g, 0, none⟩ x).setCell ⟨g, 1, none⟩ y).setCell ⟨g, 2, none⟩ z) g t #[x, y, z] := ((h.store 0 x).store 1 y).store 2 z
/-- degrees in a cell are returned -/
theorem resG {fn : Func} {p : Tmp} (h : fn.results = #[.cell p 140]) (tmps : Array Value) (w : World) {g : Nat} {T : TypeId} {x y z : Value} (hB : Blk w g T #[x, y, z])
    (hp : tmps.getD p undef = .pointer (some ⟨g, 0, none⟩)) : (results fn tmps).run Tryz.prog w = .ok (.agg #[x, y, z]) w :=
  results_cell_row h tmps w g T _ (0, 0) _ hp hB Tryz.underlying140 rfl (by kernel_rfl)
theorem dCan_down (f : Nat → Bool) {i : Nat} (h : i < 12) : dCan f (12 - i) = if f i = true ∧ dCan f (12 - (i + 1)) = 0 then (i : Int) + 1 else dCan f (12 - (i + 1)) := by
  rw [show 12 - i = (12 - (i + 1)) + 1 by omega]
  show (if f (11 - (12 - (i + 1))) = true ∧ _ then 12 - ((12 - (i + 1) : Nat) : Int) else _) = _
  rw [show 11 - (12 - (i + 1)) = i by omega, show 12 - ((12 - (i + 1) : Nat) : Int) = (i : Int) + 1 by omega]
theorem dMust_down (f : Nat → Bool) {i : Nat} (h : i < 12) : dMust f (12 - i) = if f i = true then (i : Int) + 1 else dMust f (12 - (i + 1)) := by
  rw [show 12 - i = (12 - (i + 1)) + 1 by omega]
  show (if f (11 - (12 - (i + 1))) = true then 12 - ((12 - (i + 1) : Nat) : Int) else _) = _
  rw [show 11 - (12 - (i + 1)) = i by omega, show 12 - ((12 - (i + 1) : Nat) : Int) = (i : Int) + 1 by omega]
set_option maxRecDepth 100000 in
set_option maxHeartbeats 4000000 in
theorem refDegrees_any (k m lo hi : Int) (hk : k = 0 ∨ k = 1 ∨ k = 2) (a b : Nat → Int) (ok1 : ∀ i, i < 24 → -3000 ≤ a i ∧ a i ≤ 3000) (ok2 : ∀ i, i < 24 → -3000 ≤ b i ∧ b i ≤ 3000) (w : World) :
    Calls Tryz.prog 133 #[.agg (sc k m lo hi), .agg (va a), .agg (va b)] w fun e w' => e = .returned (.agg #[.int .i64 (dCan (canF k m lo hi a b) 12), .int .i64 (dMust (mustF k m lo hi a b) 12), .int .i64 0]) ∧ Below w.heap.size w w' := by
  obtain ⟨W, hW⟩ : ∃ W, W = ((((w.alloc (.cells #[.int .i64 k, .int .i64 m, .int .i64 lo, .int .i64 hi] 86)).alloc (.cells (va a) 26)).alloc (.cells (va b) 26)).alloc (.cells #[.int .i64 0, .int .i64 0, .int .i64 0] 140)).alloc (.cells #[.int .i64 0, .int .i64 13, .int .i64 0] 140) := ⟨_, rfl⟩
  have k0 : DW W w.heap.size k m lo hi a b 0 13 := by
    rw [hW]
    exact ⟨((((Blk.new _ _ _).alloc _).alloc _).alloc _).alloc _, (((Blk.newAt (by simp)).alloc _).alloc _).alloc _, ((Blk.newAt (by simp)).alloc _).alloc _, (Blk.newAt (by simp)).alloc _, Blk.newAt (by simp)⟩
  have hb0 : Below w.heap.size w W := by rw [hW]; exact ((((below_new _ _).alloc (by simp) _).alloc (by simp; omega) _).alloc (by simp; omega) _).alloc (by simp; omega) _
  have HK := Lib.hid hk
  clear hk
  obtain ⟨f, hf⟩ : ∃ f, f = canF k m lo hi a b := ⟨_, rfl⟩
  obtain ⟨g, hg⟩ : ∃ g, g = mustF k m lo hi a b := ⟨_, rfl⟩
  rw [← hf, ← hg]
  have HF := Lib.hid hf
  have HG := Lib.hid hg
  clear hf hg
  unfold sc
  go_enter Tryz.func133, Tryz.ntmps133
  go_wp2_with fail
  rw [← hW]
  clear hW
  go_loopw [8, 9, 10] (fun t8 t9 t10 wr => ∃ j : Nat, j ≤ 12 ∧ t8 = .int .i64 (j : Int) ∧ DW wr w.heap.size k m lo hi a b (dCan f (12 - j)) (dMust g (12 - j)) ∧ Below w.heap.size w wr) (fun t8 _ _ _ => (intOf t8).toNat)
  case atStart => exact ⟨12, by omega, rfl, k0, hb0⟩
  case round =>
    obtain ⟨j, hj, rfl, k1, hb1⟩ := hrel
    clear k0 hb0
    by_cases hj0 : j = 0
    · subst hj0
      obtain ⟨v0, v1, v2⟩ := k1.v.three
      obtain ⟨u0, u1, u2⟩ := k1.z.three
      have y0 := k1.z.frozen 0
      have y1 := k1.z.frozen 1
      have y2 := k1.z.frozen 2
      have hlt := k1.lt
      go_wp2
      refine bodyPost_ret (resG rfl _ _ (k1.z.threeStore _ _ _) rfl) rfl ⟨rfl, ((hb1.setCell (by show _ ≤ w.heap.size + 1 + 1 + 1; omega) _).setCell (by show _ ≤ w.heap.size + 1 + 1 + 1; omega) _).setCell (by show _ ≤ w.heap.size + 1 + 1 + 1; omega) _⟩
    · obtain ⟨i, rfl⟩ : ∃ i, j = i + 1 := ⟨j - 1, by omega⟩
      have hi12 : i < 12 := by omega
      obtain ⟨c0, c1, c2, c3⟩ := k1.s.fourC
      obtain ⟨d0, d1⟩ := k1.a.spans i hi12
      obtain ⟨e0, e1⟩ := k1.b.spans i hi12
      obtain ⟨C, hC⟩ : ∃ C, C = f i := ⟨_, rfl⟩
      obtain ⟨M, hM⟩ : ∃ M, M = g i := ⟨_, rfl⟩
      have HC : Hid (∀ W, Calls Tryz.prog 154 #[.agg #[.int .i64 k, .int .i64 m, .int .i64 lo, .int .i64 hi], .agg #[.int .i64 (a (2 * i)), .int .i64 (a (2 * i + 1))], .agg #[.int .i64 (b (2 * i)), .int .i64 (b (2 * i + 1))]] W fun e w' => e = .returned (.bool C) ∧ Below W.heap.size W w') := by
        rw [hC, HF.out]
        exact fun W => refCan_any k m lo hi _ _ _ _ HK.out (ok1 _ (by omega)) (ok1 _ (by omega)) (ok2 _ (by omega)) (ok2 _ (by omega)) W
      have HM : Hid (∀ W, Calls Tryz.prog 155 #[.agg #[.int .i64 k, .int .i64 m, .int .i64 lo, .int .i64 hi], .agg #[.int .i64 (a (2 * i)), .int .i64 (a (2 * i + 1))], .agg #[.int .i64 (b (2 * i)), .int .i64 (b (2 * i + 1))]] W fun e w' => e = .returned (.bool M) ∧ Below W.heap.size W w') := by
        rw [hM, HG.out]
        exact fun W => refMust_any k m lo hi _ _ _ _ HK.out (ok1 _ (by omega)) (ok1 _ (by omega)) (ok2 _ (by omega)) (ok2 _ (by omega)) W
      have hs1 := dCan_down f hi12
      have hs2 := dMust_down g hi12
      rw [← hC] at hs1
      rw [← hM] at hs2
      clear hC hM
      obtain ⟨X, hX⟩ : ∃ X, X = dCan f (12 - (i + 1)) := ⟨_, rfl⟩
      obtain ⟨Y, hY⟩ : ∃ Y, Y = dMust g (12 - (i + 1)) := ⟨_, rfl⟩
      rw [← hX] at hs1 k1
      rw [← hY] at hs2 k1
      clear hX hY
      have HS1 := Lib.hid hs1
      have HS2 := Lib.hid hs2
      clear hs1 hs2
      rw [show (((i + 1 : Nat)) : Int) = (i : Int) + 1 by omega]
      have q0 : (i : Int) + 1 - 1 = (i : Int) := by omega
      have q1 : IntKind.i64.wrap ((i : Int) + 1 - 1) = (i : Int) := by rw [q0]; exact IntWalk.i64_in _ (by omega)
      have q2 : 1 ≤ (i : Int) + 1 := by omega
      have q3 : IntKind.i64.wrap (i : Int) = (i : Int) := IntWalk.i64_in _ (by omega)
      have q4 : (0 : Int) ≤ (i : Int) := by omega
      have q5 : (i : Int) < 12 := by omega
      have hlt := k1.lt
      go_wp2_with fail
      go_region_held3 (fun w' => w'.cell? ⟨w.heap.size, 0, none⟩ = some (.int .i64 k) ∧ w'.cell? ⟨w.heap.size, 1, none⟩ = some (.int .i64 m) ∧ w'.cell? ⟨w.heap.size, 2, none⟩ = some (.int .i64 lo) ∧ w'.cell? ⟨w.heap.size, 3, none⟩ = some (.int .i64 hi) ∧ w'.cell? ⟨w.heap.size + 1, i * 2, none⟩ = some (.int .i64 (a (2 * i))) ∧ w'.cell? ⟨w.heap.size + 1, i * 2 + 1, none⟩ = some (.int .i64 (a (2 * i + 1))) ∧ w'.cell? ⟨w.heap.size + 1 + 1, i * 2, none⟩ = some (.int .i64 (b (2 * i))) ∧ w'.cell? ⟨w.heap.size + 1 + 1, i * 2 + 1, none⟩ = some (.int .i64 (b (2 * i + 1)))) (first | exact K3 | exact ⟨c0, c1, c2, c3, d0, d1, e0, e1⟩)
        ((go_at_call 154; refine (HC.out _).mono ?_; rintro e w3 ⟨rfl, hb3⟩; have K3 := keep8L (W := wr.drew) hb3 ⟨c0, c1, c2, c3, d0, d1, e0, e1⟩))
      have k3 := k1.drew.below hb3
      have hb4 := below_next hb1.drew (by show _ ≤ wr.heap.size; omega) hb3
      clear k1 hb1 hb3 c0 c1 c2 c3 d0 d1 e0 e1 K3 HC
      obtain ⟨c0, c1, c2, c3⟩ := k3.s.fourC
      obtain ⟨d0, d1⟩ := k3.a.spans i hi12
      obtain ⟨e0, e1⟩ := k3.b.spans i hi12
      have hlt3 := k3.lt
      go_wp2_with fail
      go_region_held3 (fun w' => w'.cell? ⟨w.heap.size, 0, none⟩ = some (.int .i64 k) ∧ w'.cell? ⟨w.heap.size, 1, none⟩ = some (.int .i64 m) ∧ w'.cell? ⟨w.heap.size, 2, none⟩ = some (.int .i64 lo) ∧ w'.cell? ⟨w.heap.size, 3, none⟩ = some (.int .i64 hi) ∧ w'.cell? ⟨w.heap.size + 1, i * 2, none⟩ = some (.int .i64 (a (2 * i))) ∧ w'.cell? ⟨w.heap.size + 1, i * 2 + 1, none⟩ = some (.int .i64 (a (2 * i + 1))) ∧ w'.cell? ⟨w.heap.size + 1 + 1, i * 2, none⟩ = some (.int .i64 (b (2 * i))) ∧ w'.cell? ⟨w.heap.size + 1 + 1, i * 2 + 1, none⟩ = some (.int .i64 (b (2 * i + 1)))) (first | exact K5 | exact ⟨c0, c1, c2, c3, d0, d1, e0, e1⟩)
        ((go_at_call 155; refine (HM.out _).mono ?_; rintro e w5 ⟨rfl, hb5⟩; have K5 := keep8L (W := w3.drew) hb5 ⟨c0, c1, c2, c3, d0, d1, e0, e1⟩))
      have k5 := k3.drew.below hb5
      have hb6 := below_next hb4.drew (by show _ ≤ w3.heap.size; omega) hb5
      clear k3 hb4 hb5 c0 c1 c2 c3 d0 d1 e0 e1 K5 HM
      have hlt5 := k5.lt
      obtain ⟨v0, v1, v2⟩ := k5.v.three
      have y0 := k5.v.frozen 0
      have y1 := k5.v.frozen 1
      cases C
      · have HX := Lib.hid (show dCan f (12 - i) = X by rw [HS1.out]; simp)
        cases M
        · have HY := Lib.hid (show dMust g (12 - i) = Y by rw [HS2.out]; simp)
          go_wp2_with go_skip
          go_roundw
          case rel => exact ⟨i, by omega, by go_num, by rw [HX.out, HY.out]; exact k5, hb6⟩
          case measure => simp [intOf]
        · have HY := Lib.hid (show dMust g (12 - i) = (i : Int) + 1 by rw [HS2.out]; simp)
          go_wp2_with go_skip
          go_roundw
          case rel => exact ⟨i, by omega, by go_num, by rw [HX.out, HY.out]; exact k5.setM _, hb6.setCell (by show _ ≤ w.heap.size + 1 + 1 + 1 + 1; omega) _⟩
          case measure => simp [intOf]
      · by_cases hx : X = 0
        · have HX := Lib.hid (show dCan f (12 - i) = (i : Int) + 1 by rw [HS1.out]; simp [hx])
          subst hx
          cases M
          · have HY := Lib.hid (show dMust g (12 - i) = Y by rw [HS2.out]; simp)
            go_wp2_with go_skip
            go_roundw
            case rel => exact ⟨i, by omega, by go_num, by rw [HX.out, HY.out]; exact k5.setC _, hb6.setCell (by show _ ≤ w.heap.size + 1 + 1 + 1 + 1; omega) _⟩
            case measure => simp [intOf]
          · have HY := Lib.hid (show dMust g (12 - i) = (i : Int) + 1 by rw [HS2.out]; simp)
            go_wp2_with go_skip
            go_roundw
            case rel => exact ⟨i, by omega, by go_num, by rw [HX.out, HY.out]; exact (k5.setC _).setM _, (hb6.setCell (by show _ ≤ w.heap.size + 1 + 1 + 1 + 1; omega) _).setCell (by show _ ≤ w.heap.size + 1 + 1 + 1 + 1; omega) _⟩
            case measure => simp [intOf]
        · have HX := Lib.hid (show dCan f (12 - i) = X by rw [HS1.out]; simp [hx])
          have hx0 : (X == 0) = false := by simp [hx]
          clear hx
          cases M
          · have HY := Lib.hid (show dMust g (12 - i) = Y by rw [HS2.out]; simp)
            go_wp2_with go_skip
            go_roundw
            case rel => exact ⟨i, by omega, by go_num, by rw [HX.out, HY.out]; exact k5, hb6⟩
            case measure => simp [intOf]
          · have HY := Lib.hid (show dMust g (12 - i) = (i : Int) + 1 by rw [HS2.out]; simp)
            go_wp2_with go_skip
            go_roundw
            case rel => exact ⟨i, by omega, by go_num, by rw [HX.out, HY.out]; exact k5.setM _, hb6.setCell (by show _ ≤ w.heap.size + 1 + 1 + 1 + 1; omega) _⟩
            case measure => simp [intOf]
end Go.Proofs.YtbhiphjifdnhmaaGreatDoor
