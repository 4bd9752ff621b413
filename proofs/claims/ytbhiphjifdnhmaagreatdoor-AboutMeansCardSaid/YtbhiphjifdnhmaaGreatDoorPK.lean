import Derived.Test.YtbhiphjifdnhmaaGreatDoorPD
import Derived.Test.YtbhiphjifdnhmaaGreatDoorPF
import Derived.Test.YtbhiphjifdnhmaaGreatDoorPI
import Derived.Test.YtbhiphjifdnhmaaGreatDoorPJ
import Derived.Test.YtbhiphjifdnhmaaGreatDoorPA
set_option linter.unusedSimpArgs false
set_option linter.unusedVariables false
/- The reference: means. -/
namespace Go.Proofs.YtbhiphjifdnhmaaGreatDoor
open Go.RowKit Go.Maps
theorem ldMd {ops : Array Oper} {rest : List Oper} {o : Oper} {a : Act} {w : World} {Q : Exit → Act → World → Prop} (t : Tmp) (hgd : o.guard = none) (ho : o.op = .load 75 (.tmp t))
  {g : Nat} {T : TypeId} {v : Nat → Int} {e : Int} (hB : Blk w g T (mnA v e)) (hx : a.eval (.tmp t) = .pointer (some ⟨g, 0, none⟩)) (h : wpList Tryz.prog ops Q rest (a.put o.dst (.agg (mnA v e))) w) : wpList Tryz.prog ops Q (o :: rest) a w :=
 wpList_load_row hgd 75 _ ho g hx T _ (0, 0) _ hB Tryz.underlying75 rfl (info75 _ _) h
theorem bld75v (v : Nat → Int) (w : World) : (Instr.build 75 #[(0, .agg (va v))]).run Tryz.prog w = .ok (.agg (mnA v 0)) w := by kernel_rfl
theorem bld75ve (v : Nat → Int) (e : Int) (w : World) : (Instr.build 75 #[(0, .agg (va v)), (1, .int .i64 e)]).run Tryz.prog w = .ok (.agg (mnA v e)) w := by kernel_rfl
theorem new60d (w : World) (d : Df) : Blk ((w.alloc (.cells #[.string ⟨#[]⟩, .int .i64 0, .int .i64 0, .string ⟨#[]⟩, .string ⟨#[]⟩, .int .i64 0, .int .i64 0, .int .i64 0, .int .i64 0, .int .i64 0, .int .i64 0, .int .i64 0, .int .i64 0, .int .i64 0, .int .i64 0, .int .i64 0, .int .i64 0, .int .i64 0, .int .i64 0, .int .i64 0, .int .i64 0, .int .i64 0, .int .i64 0, .int .i64 0, .int .i64 0, .int .i64 0, .int .i64 0, .int .i64 0, .int .i64 0] 60)).setRow w.heap.size (dfA d)) w.heap.size 60 (dfA d) := by
 have k : Blk (w.alloc (.cells #[.string ⟨#[]⟩, .int .i64 0, .int .i64 0, .string ⟨#[]⟩, .string ⟨#[]⟩, .int .i64 0, .int .i64 0, .int .i64 0, .int .i64 0, .int .i64 0, .int .i64 0, .int .i64 0, .int .i64 0, .int .i64 0, .int .i64 0, .int .i64 0, .int .i64 0, .int .i64 0, .int .i64 0, .int .i64 0, .int .i64 0, .int .i64 0, .int .i64 0, .int .i64 0, .int .i64 0, .int .i64 0, .int .i64 0, .int .i64 0, .int .i64 0] 60)) w.heap.size 60 (dfA df0) := by rw [z60]; exact Blk.new _ _ _
 exact k.setRow _
theorem below60d (w : World) (d : Df) : Below w.heap.size w ((w.alloc (.cells #[.string ⟨#[]⟩, .int .i64 0, .int .i64 0, .string ⟨#[]⟩, .string ⟨#[]⟩, .int .i64 0, .int .i64 0, .int .i64 0, .int .i64 0, .int .i64 0, .int .i64 0, .int .i64 0, .int .i64 0, .int .i64 0, .int .i64 0, .int .i64 0, .int .i64 0, .int .i64 0, .int .i64 0, .int .i64 0, .int .i64 0, .int .i64 0, .int .i64 0, .int .i64 0, .int .i64 0, .int .i64 0, .int .i64 0, .int .i64 0, .int .i64 0] 60)).setRow w.heap.size (dfA d)) := below_setRow (below_new _ _) (Nat.le_refl _) _
theorem Defs.row {w : World} {B g o : Nat} {l : List Df} {i : Nat} {d : Df} (h : Defs w B (some ⟨g, o, none⟩) l) (hd : l[i]? = some d) : w.rangeAt g (o + i * 29) (dfL d) := by
 obtain ⟨g', o', e, _, hc⟩ := h i d hd
 cases e
 exact hc
theorem new60z (w : World) : Blk (w.alloc (.cells #[.string ⟨#[]⟩, .int .i64 0, .int .i64 0, .string ⟨#[]⟩, .string ⟨#[]⟩, .int .i64 0, .int .i64 0, .int .i64 0, .int .i64 0, .int .i64 0, .int .i64 0, .int .i64 0, .int .i64 0, .int .i64 0, .int .i64 0, .int .i64 0, .int .i64 0, .int .i64 0, .int .i64 0, .int .i64 0, .int .i64 0, .int .i64 0, .int .i64 0, .int .i64 0, .int .i64 0, .int .i64 0, .int .i64 0, .int .i64 0, .int .i64 0] 60)) w.heap.size 60 (dfA df0) := by rw [z60]; exact Blk.new _ _ _
set_option maxRecDepth 100000 in
set_option maxHeartbeats 4000000 in
theorem means_one (A : Option Addr) (cap : Nat) (l : List Df) (n : ByteArray) (known : Int) (w : World) (hl : l.length ≤ 1000) (hD : Defs w w.heap.size A l) (d : Df) (hbk : bookF l known n.data.toList = some d)
  (g : ByteArray → (Nat → Int) × Int) (hg0 : ∀ x, (g x).2 ≠ 0 → (g x).1 = zeroV) (hk : d.kind = 1)
  (hrec : ∀ x ∈ dfParts d, ∀ w', Defs w' w'.heap.size A l → Calls Tryz.prog 106 #[.slice A l.length cap, .string x, .int .i64 known] w' (RetMd w' (g x).1 (g x).2)) :
  Calls Tryz.prog 106 #[.slice A l.length cap, .string n, .int .i64 known] w (RetMd w (madeM d g).1 (madeM d g).2) := by
 rw [newO_is] at hbk
 cases hq : newO l n known l.length with
 | none => rw [hq] at hbk; cases hbk
 | some i =>
  rw [hq] at hbk
  have hd : l[i]? = some d := hbk
  have hi := (newO_lt l n known l.length i hq).2
  have hi0 : ¬ (i : Int) < 0 := by omega
  have hi1 : (i : Int) < (l.length : Int) := by omega
  have hi2 : (0 : Int) ≤ (i : Int) := by omega
  have hm0 : max (0 : Int) (i : Int) = (i : Int) := by omega
  obtain ⟨ag, ao, hA, hag, hcx⟩ := hD i d hd
  subst hA
  have hb0 := below_new w (.cells #[.int .i64 0, .int .i64 0, .int .i64 0, .int .i64 0, .int .i64 0, .int .i64 0, .int .i64 0, .int .i64 0, .int .i64 0, .int .i64 0, .int .i64 0, .int .i64 0, .int .i64 0, .int .i64 0, .int .i64 0, .int .i64 0, .int .i64 0, .int .i64 0, .int .i64 0, .int .i64 0, .int .i64 0, .int .i64 0, .int .i64 0, .int .i64 0, .int .i64 0] 75)
  have k0 := new75z w
  have hD0 := hD.behind hb0
  have HN := newest_any (some ⟨ag, ao, none⟩) cap l n known _ hl hD0
  rw [hq, show encI (some i) = (i : Int) from rfl] at HN
  have HN := Lib.hid HN
  have HG0 := Lib.hid hg0
  have HREC := Lib.hid hrec
  have HD := Lib.hid hd
  clear hbk hq hd hcx hg0 hrec
  have hM : madeM d g = (d.days, 0) := by simp [madeM, hk]
  rw [hM]
  have hsz := va_size d.days
  go_enter Tryz.func106, Tryz.ntmps106
  go_wp2_with (first
   | (go_at_call 103; refine HN.out.mono ?_; rintro e w1 ⟨rfl, hb1⟩; have kZ := new60z w1; have hr1 := (hD0.behind hb1).row HD.out; have hB := (below_next hb0 hb0.size hb1).trans ((below60d w1 d).mono (below_next hb0 hb0.size hb1).size); have k1 := (k0.below hb1 k0.lt).below (below60d w1 d) (k0.below hb1 k0.lt).lt; have kX := new60d w1 d; obtain ⟨_, _, x2, x3, x4⟩ := kX.df; rw [hk] at x2; have hD1 := (hD0.behind hb1).behind (below60d w1 d))
   | (refine ldD 17 rfl rfl hr1 rfl ?_)
   | (refine stD 7 18 rfl rfl kZ rfl rfl ?_)
   | (refine ldDays 22 rfl rfl kX rfl ?_)
   | (refine stMd 6 24 rfl rfl k1 rfl (v := d.days) (e := 0) (by kernel_rfl) ?_))
  exact bodyPost_ret (resMd rfl _ _ (k1.setRow _) rfl) rfl ⟨rfl, below_setRow hB (by omega) _⟩
set_option maxRecDepth 100000 in
set_option maxHeartbeats 4000000 in
theorem means_two_bad (A : Option Addr) (cap : Nat) (l : List Df) (n : ByteArray) (known : Int) (w : World) (hl : l.length ≤ 1000) (hD : Defs w w.heap.size A l) (d : Df) (hbk : bookF l known n.data.toList = some d)
  (g : ByteArray → (Nat → Int) × Int) (hg0 : ∀ x, (g x).2 ≠ 0 → (g x).1 = zeroV) (hk : d.kind = 2 ∧ (g d.of).2 ≠ 0)
  (hrec : ∀ x ∈ dfParts d, ∀ w', Defs w' w'.heap.size A l → Calls Tryz.prog 106 #[.slice A l.length cap, .string x, .int .i64 known] w' (RetMd w' (g x).1 (g x).2)) :
  Calls Tryz.prog 106 #[.slice A l.length cap, .string n, .int .i64 known] w (RetMd w (madeM d g).1 (madeM d g).2) := by
 rw [newO_is] at hbk
 cases hq : newO l n known l.length with
 | none => rw [hq] at hbk; cases hbk
 | some i =>
  rw [hq] at hbk
  have hd : l[i]? = some d := hbk
  have hi := (newO_lt l n known l.length i hq).2
  have hi0 : ¬ (i : Int) < 0 := by omega
  have hi1 : (i : Int) < (l.length : Int) := by omega
  have hi2 : (0 : Int) ≤ (i : Int) := by omega
  have hm0 : max (0 : Int) (i : Int) = (i : Int) := by omega
  obtain ⟨ag, ao, hA, hag, hcx⟩ := hD i d hd
  subst hA
  have hb0 := below_new w (.cells #[.int .i64 0, .int .i64 0, .int .i64 0, .int .i64 0, .int .i64 0, .int .i64 0, .int .i64 0, .int .i64 0, .int .i64 0, .int .i64 0, .int .i64 0, .int .i64 0, .int .i64 0, .int .i64 0, .int .i64 0, .int .i64 0, .int .i64 0, .int .i64 0, .int .i64 0, .int .i64 0, .int .i64 0, .int .i64 0, .int .i64 0, .int .i64 0, .int .i64 0] 75)
  have k0 := new75z w
  have hD0 := hD.behind hb0
  have HN := newest_any (some ⟨ag, ao, none⟩) cap l n known _ hl hD0
  rw [hq, show encI (some i) = (i : Int) from rfl] at HN
  have HN := Lib.hid HN
  have HG0 := Lib.hid hg0
  have HREC := Lib.hid hrec
  have HD := Lib.hid hd
  clear hbk hq hd hcx hg0 hrec
  obtain ⟨hk, h1⟩ := hk
  obtain ⟨X1, hX1⟩ : ∃ X, X = (g d.of).1 := ⟨_, rfl⟩
  obtain ⟨E1, hE1⟩ : ∃ E, E = (g d.of).2 := ⟨_, rfl⟩
  have HX1 := Lib.hid hX1
  have HE1 := Lib.hid hE1
  rw [← hE1] at h1
  have hM : madeM d g = (zeroV, E1) := by unfold madeM; rw [if_pos hk, if_neg (by rw [← hE1]; exact h1), hE1]
  have hZ : X1 = zeroV := by rw [hX1]; exact HG0.out _ (by rw [← hE1]; exact h1)
  have hne : (E1 != 0) = true := bne_iff_ne.2 h1
  rw [hM]
  subst hZ
  clear hX1 hE1 h1 hM
  go_enter Tryz.func106, Tryz.ntmps106
  go_wp2_with (first
   | (go_at_call 103; refine HN.out.mono ?_; rintro e w1 ⟨rfl, hb1⟩; have kZ := new60z w1; have hr1 := (hD0.behind hb1).row HD.out; have hB := (below_next hb0 hb0.size hb1).trans ((below60d w1 d).mono (below_next hb0 hb0.size hb1).size); have k1 := (k0.below hb1 k0.lt).below (below60d w1 d) (k0.below hb1 k0.lt).lt; have kX := new60d w1 d; obtain ⟨_, _, x2, x3, x4⟩ := kX.df; rw [hk] at x2; have hD1 := (hD0.behind hb1).behind (below60d w1 d))
   | (refine ldD 17 rfl rfl hr1 rfl ?_)
   | (refine stD 7 18 rfl rfl kZ rfl rfl ?_)
   | (go_at_call 106; refine (HREC.out d.of (by simp [dfParts, hk]) _ hD1).mono ?_; rw [← HX1.out, ← HE1.out]; rintro e w3 ⟨rfl, hbw3⟩; have kzw3 := new75z w3; have kyw3 := new75 w3 zeroV E1; have hcyw3 := (kyw3.cell 24).trans (mnA_e zeroV E1); have hBw := (below_next hB hB.size hbw3).trans ((below75 w3 zeroV E1).mono (below_next hB hB.size hbw3).size); replace hB := hBw; clear hBw; replace k1 := (k1.below hbw3 k1.lt).below (below75 w3 zeroV E1) (k1.below hbw3 k1.lt).lt; replace kX := (kX.below hbw3 kX.lt).below (below75 w3 zeroV E1) (kX.below hbw3 kX.lt).lt; obtain ⟨_, _, z2, z3, z4⟩ := kX.df; rw [hk] at z2; replace hD1 := (hD1.behind hbw3).behind (below75 w3 zeroV E1))
   | (refine stMd 8 29 rfl rfl kzw3 rfl rfl ?_)
   | (refine ldMd 8 rfl rfl kyw3 rfl ?_)
   | (refine stMd 6 33 rfl rfl k1 rfl rfl ?_))
  exact bodyPost_ret (resMd rfl _ _ (k1.setRow _) rfl) rfl ⟨rfl, below_setRow hB (by omega) _⟩
set_option maxRecDepth 100000 in
set_option maxHeartbeats 4000000 in
theorem means_two_ok (A : Option Addr) (cap : Nat) (l : List Df) (n : ByteArray) (known : Int) (w : World) (hl : l.length ≤ 1000) (hD : Defs w w.heap.size A l) (d : Df) (hbk : bookF l known n.data.toList = some d)
  (g : ByteArray → (Nat → Int) × Int) (hg0 : ∀ x, (g x).2 ≠ 0 → (g x).1 = zeroV) (hk : d.kind = 2 ∧ (g d.of).2 = 0)
  (hrec : ∀ x ∈ dfParts d, ∀ w', Defs w' w'.heap.size A l → Calls Tryz.prog 106 #[.slice A l.length cap, .string x, .int .i64 known] w' (RetMd w' (g x).1 (g x).2)) :
  Calls Tryz.prog 106 #[.slice A l.length cap, .string n, .int .i64 known] w (RetMd w (madeM d g).1 (madeM d g).2) := by
 rw [newO_is] at hbk
 cases hq : newO l n known l.length with
 | none => rw [hq] at hbk; cases hbk
 | some i =>
  rw [hq] at hbk
  have hd : l[i]? = some d := hbk
  have hi := (newO_lt l n known l.length i hq).2
  have hi0 : ¬ (i : Int) < 0 := by omega
  have hi1 : (i : Int) < (l.length : Int) := by omega
  have hi2 : (0 : Int) ≤ (i : Int) := by omega
  have hm0 : max (0 : Int) (i : Int) = (i : Int) := by omega
  obtain ⟨ag, ao, hA, hag, hcx⟩ := hD i d hd
  subst hA
  have hb0 := below_new w (.cells #[.int .i64 0, .int .i64 0, .int .i64 0, .int .i64 0, .int .i64 0, .int .i64 0, .int .i64 0, .int .i64 0, .int .i64 0, .int .i64 0, .int .i64 0, .int .i64 0, .int .i64 0, .int .i64 0, .int .i64 0, .int .i64 0, .int .i64 0, .int .i64 0, .int .i64 0, .int .i64 0, .int .i64 0, .int .i64 0, .int .i64 0, .int .i64 0, .int .i64 0] 75)
  have k0 := new75z w
  have hD0 := hD.behind hb0
  have HN := newest_any (some ⟨ag, ao, none⟩) cap l n known _ hl hD0
  rw [hq, show encI (some i) = (i : Int) from rfl] at HN
  have HN := Lib.hid HN
  have HG0 := Lib.hid hg0
  have HREC := Lib.hid hrec
  have HD := Lib.hid hd
  clear hbk hq hd hcx hg0 hrec
  obtain ⟨hk, h1⟩ := hk
  obtain ⟨X1, hX1⟩ : ∃ X, X = (g d.of).1 := ⟨_, rfl⟩
  obtain ⟨E1, hE1⟩ : ∃ E, E = (g d.of).2 := ⟨_, rfl⟩
  have HX1 := Lib.hid hX1
  have HE1 := Lib.hid hE1
  rw [← hE1] at h1
  have hM : madeM d g = (joinR plusM X1 d.days, joinE plusM X1 d.days) := by unfold madeM; rw [if_pos hk, if_pos (by rw [← hE1]; exact h1), hX1]
  subst h1
  rw [hM]
  clear hX1 hE1 hM
  go_enter Tryz.func106, Tryz.ntmps106
  go_wp2_with (first
   | (go_at_call 103; refine HN.out.mono ?_; rintro e w1 ⟨rfl, hb1⟩; have kZ := new60z w1; have hr1 := (hD0.behind hb1).row HD.out; have hB := (below_next hb0 hb0.size hb1).trans ((below60d w1 d).mono (below_next hb0 hb0.size hb1).size); have k1 := (k0.below hb1 k0.lt).below (below60d w1 d) (k0.below hb1 k0.lt).lt; have kX := new60d w1 d; obtain ⟨_, _, x2, x3, x4⟩ := kX.df; rw [hk] at x2; have hD1 := (hD0.behind hb1).behind (below60d w1 d))
   | (refine ldD 17 rfl rfl hr1 rfl ?_)
   | (refine stD 7 18 rfl rfl kZ rfl rfl ?_)
   | (go_at_call 106; refine (HREC.out d.of (by simp [dfParts, hk]) _ hD1).mono ?_; rw [← HX1.out, ← HE1.out]; rintro e w3 ⟨rfl, hbw3⟩; have kzw3 := new75z w3; have kyw3 := new75 w3 X1 0; have hcyw3 := (kyw3.cell 24).trans (mnA_e X1 0); have hBw := (below_next hB hB.size hbw3).trans ((below75 w3 X1 0).mono (below_next hB hB.size hbw3).size); replace hB := hBw; clear hBw; replace k1 := (k1.below hbw3 k1.lt).below (below75 w3 X1 0) (k1.below hbw3 k1.lt).lt; replace kX := (kX.below hbw3 kX.lt).below (below75 w3 X1 0) (kX.below hbw3 kX.lt).lt; obtain ⟨_, _, z2, z3, z4⟩ := kX.df; rw [hk] at z2; replace hD1 := (hD1.behind hbw3).behind (below75 w3 X1 0))
   | (refine stMd 8 29 rfl rfl kzw3 rfl rfl ?_)
   | (refine ldDayG 38 (by rfl) rfl (mn_at kyw3) rfl ?_)
   | (refine ldDays 40 rfl rfl kX rfl ?_)
   | (refine ldDays 39 rfl rfl kX rfl ?_)
   | (refine ldDayG 37 (by rfl) rfl (mn_at kyw3) rfl ?_)
   | (go_at_call 44; refine (refPlus_any _ _ _).mono ?_; rintro e w4 ⟨rfl, hb4⟩; replace hB := below_next hB hB.size hb4; replace k1 := k1.below hb4 k1.lt)
   | (refine stMd 6 41 rfl rfl k1 rfl rfl ?_))
  exact bodyPost_ret (resMd rfl _ _ (k1.setRow _) rfl) rfl ⟨rfl, below_setRow hB (by omega) _⟩
end Go.Proofs.YtbhiphjifdnhmaaGreatDoor
namespace Go.Proofs.YtbhiphjifdnhmaaGreatDoor
open Go.RowKit Go.Maps
set_option maxRecDepth 100000 in
set_option maxHeartbeats 4000000 in
theorem means_of_bad3 (A : Option Addr) (cap : Nat) (l : List Df) (n : ByteArray) (known : Int) (w : World) (hl : l.length ≤ 1000) (hD : Defs w w.heap.size A l) (d : Df) (hbk : bookF l known n.data.toList = some d)
  (g : ByteArray → (Nat → Int) × Int) (hg0 : ∀ x, (g x).2 ≠ 0 → (g x).1 = zeroV) (hk : d.kind = 3 ∧ (g d.of).2 ≠ 0)
  (hrec : ∀ x ∈ dfParts d, ∀ w', Defs w' w'.heap.size A l → Calls Tryz.prog 106 #[.slice A l.length cap, .string x, .int .i64 known] w' (RetMd w' (g x).1 (g x).2)) :
  Calls Tryz.prog 106 #[.slice A l.length cap, .string n, .int .i64 known] w (RetMd w (madeM d g).1 (madeM d g).2) := by
 rw [newO_is] at hbk
 cases hq : newO l n known l.length with
 | none => rw [hq] at hbk; cases hbk
 | some i =>
  rw [hq] at hbk
  have hd : l[i]? = some d := hbk
  have hi := (newO_lt l n known l.length i hq).2
  have hi0 : ¬ (i : Int) < 0 := by omega
  have hi1 : (i : Int) < (l.length : Int) := by omega
  have hi2 : (0 : Int) ≤ (i : Int) := by omega
  have hm0 : max (0 : Int) (i : Int) = (i : Int) := by omega
  obtain ⟨ag, ao, hA, hag, hcx⟩ := hD i d hd
  subst hA
  have hb0 := below_new w (.cells #[.int .i64 0, .int .i64 0, .int .i64 0, .int .i64 0, .int .i64 0, .int .i64 0, .int .i64 0, .int .i64 0, .int .i64 0, .int .i64 0, .int .i64 0, .int .i64 0, .int .i64 0, .int .i64 0, .int .i64 0, .int .i64 0, .int .i64 0, .int .i64 0, .int .i64 0, .int .i64 0, .int .i64 0, .int .i64 0, .int .i64 0, .int .i64 0, .int .i64 0] 75)
  have k0 := new75z w
  have hD0 := hD.behind hb0
  have HN := newest_any (some ⟨ag, ao, none⟩) cap l n known _ hl hD0
  rw [hq, show encI (some i) = (i : Int) from rfl] at HN
  have HN := Lib.hid HN
  have HG0 := Lib.hid hg0
  have HREC := Lib.hid hrec
  have HD := Lib.hid hd
  clear hbk hq hd hcx hg0 hrec
  obtain ⟨hk, h1⟩ := hk
  have hm1 : d.of ∈ dfParts d := by simp [dfParts, hk]
  have hm2 : d.wth ∈ dfParts d := by simp [dfParts, hk]
  obtain ⟨X1, hX1⟩ : ∃ X, X = (g d.of).1 := ⟨_, rfl⟩
  obtain ⟨E1, hE1⟩ : ∃ E, E = (g d.of).2 := ⟨_, rfl⟩
  have HX1 := Lib.hid hX1
  have HE1 := Lib.hid hE1
  rw [← hE1] at h1
  have hM : madeM d g = (zeroV, E1) := by unfold madeM; rw [if_neg (by omega : ¬ d.kind = 2), if_pos (by omega : d.kind = 3 ∨ d.kind = 4), if_neg (by rw [← hE1]; exact h1), hE1]
  have hZ : X1 = zeroV := by rw [hX1]; exact HG0.out _ (by rw [← hE1]; exact h1)
  have hne : (E1 != 0) = true := bne_iff_ne.2 h1
  rw [hM]
  subst hZ
  clear hX1 hE1 h1 hM
  go_enter Tryz.func106, Tryz.ntmps106
  go_wp2_with (first
   | (go_at_call 103; refine HN.out.mono ?_; rintro e w1 ⟨rfl, hb1⟩; have kZ := new60z w1; have hr1 := (hD0.behind hb1).row HD.out; have hB := (below_next hb0 hb0.size hb1).trans ((below60d w1 d).mono (below_next hb0 hb0.size hb1).size); have k1 := (k0.below hb1 k0.lt).below (below60d w1 d) (k0.below hb1 k0.lt).lt; have kX := new60d w1 d; obtain ⟨_, _, x2, x3, x4⟩ := kX.df; rw [hk] at x2; have hD1 := (hD0.behind hb1).behind (below60d w1 d))
   | (refine ldD 17 rfl rfl hr1 rfl ?_)
   | (refine stD 7 18 rfl rfl kZ rfl rfl ?_)
   | (go_at_call 106; (with_reducible refine (HREC.out d.of hm1 _ hD1).mono ?_); rw [← HX1.out, ← HE1.out]; rintro e w3 ⟨rfl, hbw3⟩; have kzw3 := new75z w3; have kyw3 := new75 w3 zeroV E1; have hcyw3 := (kyw3.cell 24).trans (mnA_e zeroV E1); have hBw := (below_next hB hB.size hbw3).trans ((below75 w3 zeroV E1).mono (below_next hB hB.size hbw3).size); replace hB := hBw; clear hBw; replace k1 := (k1.below hbw3 k1.lt).below (below75 w3 zeroV E1) (k1.below hbw3 k1.lt).lt; replace kX := (kX.below hbw3 kX.lt).below (below75 w3 zeroV E1) (kX.below hbw3 kX.lt).lt; obtain ⟨_, _, z2, z3, z4⟩ := kX.df; rw [hk] at z2; replace hD1 := (hD1.behind hbw3).behind (below75 w3 zeroV E1))
   | (refine stMd 8 29 rfl rfl kzw3 rfl rfl ?_)
   | (refine ldMd 8 rfl rfl kyw3 rfl ?_)
   | (refine stMd 6 33 rfl rfl k1 rfl rfl ?_))
  exact bodyPost_ret (resMd rfl _ _ (k1.setRow _) rfl) rfl ⟨rfl, below_setRow hB (by omega) _⟩
set_option maxRecDepth 100000 in
set_option maxHeartbeats 4000000 in
theorem means_with_bad3 (A : Option Addr) (cap : Nat) (l : List Df) (n : ByteArray) (known : Int) (w : World) (hl : l.length ≤ 1000) (hD : Defs w w.heap.size A l) (d : Df) (hbk : bookF l known n.data.toList = some d)
  (g : ByteArray → (Nat → Int) × Int) (hg0 : ∀ x, (g x).2 ≠ 0 → (g x).1 = zeroV) (hk : d.kind = 3 ∧ (g d.of).2 = 0 ∧ (g d.wth).2 ≠ 0)
  (hrec : ∀ x ∈ dfParts d, ∀ w', Defs w' w'.heap.size A l → Calls Tryz.prog 106 #[.slice A l.length cap, .string x, .int .i64 known] w' (RetMd w' (g x).1 (g x).2)) :
  Calls Tryz.prog 106 #[.slice A l.length cap, .string n, .int .i64 known] w (RetMd w (madeM d g).1 (madeM d g).2) := by
 rw [newO_is] at hbk
 cases hq : newO l n known l.length with
 | none => rw [hq] at hbk; cases hbk
 | some i =>
  rw [hq] at hbk
  have hd : l[i]? = some d := hbk
  have hi := (newO_lt l n known l.length i hq).2
  have hi0 : ¬ (i : Int) < 0 := by omega
  have hi1 : (i : Int) < (l.length : Int) := by omega
  have hi2 : (0 : Int) ≤ (i : Int) := by omega
  have hm0 : max (0 : Int) (i : Int) = (i : Int) := by omega
  obtain ⟨ag, ao, hA, hag, hcx⟩ := hD i d hd
  subst hA
  have hb0 := below_new w (.cells #[.int .i64 0, .int .i64 0, .int .i64 0, .int .i64 0, .int .i64 0, .int .i64 0, .int .i64 0, .int .i64 0, .int .i64 0, .int .i64 0, .int .i64 0, .int .i64 0, .int .i64 0, .int .i64 0, .int .i64 0, .int .i64 0, .int .i64 0, .int .i64 0, .int .i64 0, .int .i64 0, .int .i64 0, .int .i64 0, .int .i64 0, .int .i64 0, .int .i64 0] 75)
  have k0 := new75z w
  have hD0 := hD.behind hb0
  have HN := newest_any (some ⟨ag, ao, none⟩) cap l n known _ hl hD0
  rw [hq, show encI (some i) = (i : Int) from rfl] at HN
  have HN := Lib.hid HN
  have HG0 := Lib.hid hg0
  have HREC := Lib.hid hrec
  have HD := Lib.hid hd
  clear hbk hq hd hcx hg0 hrec
  obtain ⟨hk, h1, h2⟩ := hk
  have hm1 : d.of ∈ dfParts d := by simp [dfParts, hk]
  have hm2 : d.wth ∈ dfParts d := by simp [dfParts, hk]
  obtain ⟨X1, hX1⟩ : ∃ X, X = (g d.of).1 := ⟨_, rfl⟩
  obtain ⟨E1, hE1⟩ : ∃ E, E = (g d.of).2 := ⟨_, rfl⟩
  have HX1 := Lib.hid hX1
  have HE1 := Lib.hid hE1
  obtain ⟨X2, hX2⟩ : ∃ X, X = (g d.wth).1 := ⟨_, rfl⟩
  obtain ⟨E2, hE2⟩ : ∃ E, E = (g d.wth).2 := ⟨_, rfl⟩
  have HX2 := Lib.hid hX2
  have HE2 := Lib.hid hE2
  rw [← hE1] at h1
  rw [← hE2] at h2
  have hM : madeM d g = (zeroV, E2) := by unfold madeM; rw [if_neg (by omega : ¬ d.kind = 2), if_pos (by omega : d.kind = 3 ∨ d.kind = 4), if_pos (by rw [← hE1]; exact h1), if_neg (by rw [← hE2]; exact h2), hE2]
  have hZ : X2 = zeroV := by rw [hX2]; exact HG0.out _ (by rw [← hE2]; exact h2)
  have hne : (E2 != 0) = true := bne_iff_ne.2 h2
  rw [hM]
  subst hZ
  subst h1
  clear hX1 hE1 hX2 hE2 h2 hM
  go_enter Tryz.func106, Tryz.ntmps106
  go_wp2_with (first
   | (go_at_call 103; refine HN.out.mono ?_; rintro e w1 ⟨rfl, hb1⟩; have kZ := new60z w1; have hr1 := (hD0.behind hb1).row HD.out; have hB := (below_next hb0 hb0.size hb1).trans ((below60d w1 d).mono (below_next hb0 hb0.size hb1).size); have k1 := (k0.below hb1 k0.lt).below (below60d w1 d) (k0.below hb1 k0.lt).lt; have kX := new60d w1 d; obtain ⟨_, _, x2, x3, x4⟩ := kX.df; rw [hk] at x2; have hD1 := (hD0.behind hb1).behind (below60d w1 d))
   | (refine ldD 17 rfl rfl hr1 rfl ?_)
   | (refine stD 7 18 rfl rfl kZ rfl rfl ?_)
   | (go_at_call 106; (with_reducible refine (HREC.out d.of hm1 _ hD1).mono ?_); rw [← HX1.out, ← HE1.out]; rintro e w3 ⟨rfl, hbw3⟩; have kzw3 := new75z w3; have kyw3 := new75 w3 X1 0; have hcyw3 := (kyw3.cell 24).trans (mnA_e X1 0); have hBw := (below_next hB hB.size hbw3).trans ((below75 w3 X1 0).mono (below_next hB hB.size hbw3).size); replace hB := hBw; clear hBw; replace k1 := (k1.below hbw3 k1.lt).below (below75 w3 X1 0) (k1.below hbw3 k1.lt).lt; replace kX := (kX.below hbw3 kX.lt).below (below75 w3 X1 0) (kX.below hbw3 kX.lt).lt; obtain ⟨_, _, z2, z3, z4⟩ := kX.df; rw [hk] at z2; replace hD1 := (hD1.behind hbw3).behind (below75 w3 X1 0))
   | (go_at_call 106; (with_reducible refine (HREC.out d.wth hm2 _ hD1).mono ?_); rw [← HX2.out, ← HE2.out]; rintro e w5 ⟨rfl, hbw5⟩; have kzw5 := new75z w5; have kyw5 := new75 w5 zeroV E2; have hcyw5 := (kyw5.cell 24).trans (mnA_e zeroV E2); have hBw := (below_next hB hB.size hbw5).trans ((below75 w5 zeroV E2).mono (below_next hB hB.size hbw5).size); replace hB := hBw; clear hBw; replace k1 := (k1.below hbw5 k1.lt).below (below75 w5 zeroV E2) (k1.below hbw5 k1.lt).lt; replace kX := (kX.below hbw5 kX.lt).below (below75 w5 zeroV E2) (kX.below hbw5 kX.lt).lt; obtain ⟨_, _, z2, z3, z4⟩ := kX.df; rw [hk] at z2; replace hD1 := (hD1.behind hbw5).behind (below75 w5 zeroV E2); replace kyw3 := (kyw3.below hbw5 kyw3.lt).below (below75 w5 zeroV E2) (kyw3.below hbw5 kyw3.lt).lt)
   | (refine stMd 8 29 rfl rfl kzw3 rfl rfl ?_)
   | (refine stMd 9 46 rfl rfl kzw5 rfl rfl ?_)
   | (refine ldMd 9 rfl rfl kyw5 rfl ?_)
   | (refine stMd 6 50 rfl rfl k1 rfl rfl ?_))
  exact bodyPost_ret (resMd rfl _ _ (k1.setRow _) rfl) rfl ⟨rfl, below_setRow hB (by omega) _⟩
set_option maxRecDepth 100000 in
set_option maxHeartbeats 4000000 in
theorem means_of_bad4 (A : Option Addr) (cap : Nat) (l : List Df) (n : ByteArray) (known : Int) (w : World) (hl : l.length ≤ 1000) (hD : Defs w w.heap.size A l) (d : Df) (hbk : bookF l known n.data.toList = some d)
  (g : ByteArray → (Nat → Int) × Int) (hg0 : ∀ x, (g x).2 ≠ 0 → (g x).1 = zeroV) (hk : d.kind = 4 ∧ (g d.of).2 ≠ 0)
  (hrec : ∀ x ∈ dfParts d, ∀ w', Defs w' w'.heap.size A l → Calls Tryz.prog 106 #[.slice A l.length cap, .string x, .int .i64 known] w' (RetMd w' (g x).1 (g x).2)) :
  Calls Tryz.prog 106 #[.slice A l.length cap, .string n, .int .i64 known] w (RetMd w (madeM d g).1 (madeM d g).2) := by
 rw [newO_is] at hbk
 cases hq : newO l n known l.length with
 | none => rw [hq] at hbk; cases hbk
 | some i =>
  rw [hq] at hbk
  have hd : l[i]? = some d := hbk
  have hi := (newO_lt l n known l.length i hq).2
  have hi0 : ¬ (i : Int) < 0 := by omega
  have hi1 : (i : Int) < (l.length : Int) := by omega
  have hi2 : (0 : Int) ≤ (i : Int) := by omega
  have hm0 : max (0 : Int) (i : Int) = (i : Int) := by omega
  obtain ⟨ag, ao, hA, hag, hcx⟩ := hD i d hd
  subst hA
  have hb0 := below_new w (.cells #[.int .i64 0, .int .i64 0, .int .i64 0, .int .i64 0, .int .i64 0, .int .i64 0, .int .i64 0, .int .i64 0, .int .i64 0, .int .i64 0, .int .i64 0, .int .i64 0, .int .i64 0, .int .i64 0, .int .i64 0, .int .i64 0, .int .i64 0, .int .i64 0, .int .i64 0, .int .i64 0, .int .i64 0, .int .i64 0, .int .i64 0, .int .i64 0, .int .i64 0] 75)
  have k0 := new75z w
  have hD0 := hD.behind hb0
  have HN := newest_any (some ⟨ag, ao, none⟩) cap l n known _ hl hD0
  rw [hq, show encI (some i) = (i : Int) from rfl] at HN
  have HN := Lib.hid HN
  have HG0 := Lib.hid hg0
  have HREC := Lib.hid hrec
  have HD := Lib.hid hd
  clear hbk hq hd hcx hg0 hrec
  obtain ⟨hk, h1⟩ := hk
  have hm1 : d.of ∈ dfParts d := by simp [dfParts, hk]
  have hm2 : d.wth ∈ dfParts d := by simp [dfParts, hk]
  obtain ⟨X1, hX1⟩ : ∃ X, X = (g d.of).1 := ⟨_, rfl⟩
  obtain ⟨E1, hE1⟩ : ∃ E, E = (g d.of).2 := ⟨_, rfl⟩
  have HX1 := Lib.hid hX1
  have HE1 := Lib.hid hE1
  rw [← hE1] at h1
  have hM : madeM d g = (zeroV, E1) := by unfold madeM; rw [if_neg (by omega : ¬ d.kind = 2), if_pos (by omega : d.kind = 3 ∨ d.kind = 4), if_neg (by rw [← hE1]; exact h1), hE1]
  have hZ : X1 = zeroV := by rw [hX1]; exact HG0.out _ (by rw [← hE1]; exact h1)
  have hne : (E1 != 0) = true := bne_iff_ne.2 h1
  rw [hM]
  subst hZ
  clear hX1 hE1 h1 hM
  go_enter Tryz.func106, Tryz.ntmps106
  go_wp2_with (first
   | (go_at_call 103; refine HN.out.mono ?_; rintro e w1 ⟨rfl, hb1⟩; have kZ := new60z w1; have hr1 := (hD0.behind hb1).row HD.out; have hB := (below_next hb0 hb0.size hb1).trans ((below60d w1 d).mono (below_next hb0 hb0.size hb1).size); have k1 := (k0.below hb1 k0.lt).below (below60d w1 d) (k0.below hb1 k0.lt).lt; have kX := new60d w1 d; obtain ⟨_, _, x2, x3, x4⟩ := kX.df; rw [hk] at x2; have hD1 := (hD0.behind hb1).behind (below60d w1 d))
   | (refine ldD 17 rfl rfl hr1 rfl ?_)
   | (refine stD 7 18 rfl rfl kZ rfl rfl ?_)
   | (go_at_call 106; (with_reducible refine (HREC.out d.of hm1 _ hD1).mono ?_); rw [← HX1.out, ← HE1.out]; rintro e w3 ⟨rfl, hbw3⟩; have kzw3 := new75z w3; have kyw3 := new75 w3 zeroV E1; have hcyw3 := (kyw3.cell 24).trans (mnA_e zeroV E1); have hBw := (below_next hB hB.size hbw3).trans ((below75 w3 zeroV E1).mono (below_next hB hB.size hbw3).size); replace hB := hBw; clear hBw; replace k1 := (k1.below hbw3 k1.lt).below (below75 w3 zeroV E1) (k1.below hbw3 k1.lt).lt; replace kX := (kX.below hbw3 kX.lt).below (below75 w3 zeroV E1) (kX.below hbw3 kX.lt).lt; obtain ⟨_, _, z2, z3, z4⟩ := kX.df; rw [hk] at z2; replace hD1 := (hD1.behind hbw3).behind (below75 w3 zeroV E1))
   | (refine stMd 8 29 rfl rfl kzw3 rfl rfl ?_)
   | (refine ldMd 8 rfl rfl kyw3 rfl ?_)
   | (refine stMd 6 33 rfl rfl k1 rfl rfl ?_))
  exact bodyPost_ret (resMd rfl _ _ (k1.setRow _) rfl) rfl ⟨rfl, below_setRow hB (by omega) _⟩
set_option maxRecDepth 100000 in
set_option maxHeartbeats 4000000 in
theorem means_with_bad4 (A : Option Addr) (cap : Nat) (l : List Df) (n : ByteArray) (known : Int) (w : World) (hl : l.length ≤ 1000) (hD : Defs w w.heap.size A l) (d : Df) (hbk : bookF l known n.data.toList = some d)
  (g : ByteArray → (Nat → Int) × Int) (hg0 : ∀ x, (g x).2 ≠ 0 → (g x).1 = zeroV) (hk : d.kind = 4 ∧ (g d.of).2 = 0 ∧ (g d.wth).2 ≠ 0)
  (hrec : ∀ x ∈ dfParts d, ∀ w', Defs w' w'.heap.size A l → Calls Tryz.prog 106 #[.slice A l.length cap, .string x, .int .i64 known] w' (RetMd w' (g x).1 (g x).2)) :
  Calls Tryz.prog 106 #[.slice A l.length cap, .string n, .int .i64 known] w (RetMd w (madeM d g).1 (madeM d g).2) := by
 rw [newO_is] at hbk
 cases hq : newO l n known l.length with
 | none => rw [hq] at hbk; cases hbk
 | some i =>
  rw [hq] at hbk
  have hd : l[i]? = some d := hbk
  have hi := (newO_lt l n known l.length i hq).2
  have hi0 : ¬ (i : Int) < 0 := by omega
  have hi1 : (i : Int) < (l.length : Int) := by omega
  have hi2 : (0 : Int) ≤ (i : Int) := by omega
  have hm0 : max (0 : Int) (i : Int) = (i : Int) := by omega
  obtain ⟨ag, ao, hA, hag, hcx⟩ := hD i d hd
  subst hA
  have hb0 := below_new w (.cells #[.int .i64 0, .int .i64 0, .int .i64 0, .int .i64 0, .int .i64 0, .int .i64 0, .int .i64 0, .int .i64 0, .int .i64 0, .int .i64 0, .int .i64 0, .int .i64 0, .int .i64 0, .int .i64 0, .int .i64 0, .int .i64 0, .int .i64 0, .int .i64 0, .int .i64 0, .int .i64 0, .int .i64 0, .int .i64 0, .int .i64 0, .int .i64 0, .int .i64 0] 75)
  have k0 := new75z w
  have hD0 := hD.behind hb0
  have HN := newest_any (some ⟨ag, ao, none⟩) cap l n known _ hl hD0
  rw [hq, show encI (some i) = (i : Int) from rfl] at HN
  have HN := Lib.hid HN
  have HG0 := Lib.hid hg0
  have HREC := Lib.hid hrec
  have HD := Lib.hid hd
  clear hbk hq hd hcx hg0 hrec
  obtain ⟨hk, h1, h2⟩ := hk
  have hm1 : d.of ∈ dfParts d := by simp [dfParts, hk]
  have hm2 : d.wth ∈ dfParts d := by simp [dfParts, hk]
  obtain ⟨X1, hX1⟩ : ∃ X, X = (g d.of).1 := ⟨_, rfl⟩
  obtain ⟨E1, hE1⟩ : ∃ E, E = (g d.of).2 := ⟨_, rfl⟩
  have HX1 := Lib.hid hX1
  have HE1 := Lib.hid hE1
  obtain ⟨X2, hX2⟩ : ∃ X, X = (g d.wth).1 := ⟨_, rfl⟩
  obtain ⟨E2, hE2⟩ : ∃ E, E = (g d.wth).2 := ⟨_, rfl⟩
  have HX2 := Lib.hid hX2
  have HE2 := Lib.hid hE2
  rw [← hE1] at h1
  rw [← hE2] at h2
  have hM : madeM d g = (zeroV, E2) := by unfold madeM; rw [if_neg (by omega : ¬ d.kind = 2), if_pos (by omega : d.kind = 3 ∨ d.kind = 4), if_pos (by rw [← hE1]; exact h1), if_neg (by rw [← hE2]; exact h2), hE2]
  have hZ : X2 = zeroV := by rw [hX2]; exact HG0.out _ (by rw [← hE2]; exact h2)
  have hne : (E2 != 0) = true := bne_iff_ne.2 h2
  rw [hM]
  subst hZ
  subst h1
  clear hX1 hE1 hX2 hE2 h2 hM
  go_enter Tryz.func106, Tryz.ntmps106
  go_wp2_with (first
   | (go_at_call 103; refine HN.out.mono ?_; rintro e w1 ⟨rfl, hb1⟩; have kZ := new60z w1; have hr1 := (hD0.behind hb1).row HD.out; have hB := (below_next hb0 hb0.size hb1).trans ((below60d w1 d).mono (below_next hb0 hb0.size hb1).size); have k1 := (k0.below hb1 k0.lt).below (below60d w1 d) (k0.below hb1 k0.lt).lt; have kX := new60d w1 d; obtain ⟨_, _, x2, x3, x4⟩ := kX.df; rw [hk] at x2; have hD1 := (hD0.behind hb1).behind (below60d w1 d))
   | (refine ldD 17 rfl rfl hr1 rfl ?_)
   | (refine stD 7 18 rfl rfl kZ rfl rfl ?_)
   | (go_at_call 106; (with_reducible refine (HREC.out d.of hm1 _ hD1).mono ?_); rw [← HX1.out, ← HE1.out]; rintro e w3 ⟨rfl, hbw3⟩; have kzw3 := new75z w3; have kyw3 := new75 w3 X1 0; have hcyw3 := (kyw3.cell 24).trans (mnA_e X1 0); have hBw := (below_next hB hB.size hbw3).trans ((below75 w3 X1 0).mono (below_next hB hB.size hbw3).size); replace hB := hBw; clear hBw; replace k1 := (k1.below hbw3 k1.lt).below (below75 w3 X1 0) (k1.below hbw3 k1.lt).lt; replace kX := (kX.below hbw3 kX.lt).below (below75 w3 X1 0) (kX.below hbw3 kX.lt).lt; obtain ⟨_, _, z2, z3, z4⟩ := kX.df; rw [hk] at z2; replace hD1 := (hD1.behind hbw3).behind (below75 w3 X1 0))
   | (go_at_call 106; (with_reducible refine (HREC.out d.wth hm2 _ hD1).mono ?_); rw [← HX2.out, ← HE2.out]; rintro e w5 ⟨rfl, hbw5⟩; have kzw5 := new75z w5; have kyw5 := new75 w5 zeroV E2; have hcyw5 := (kyw5.cell 24).trans (mnA_e zeroV E2); have hBw := (below_next hB hB.size hbw5).trans ((below75 w5 zeroV E2).mono (below_next hB hB.size hbw5).size); replace hB := hBw; clear hBw; replace k1 := (k1.below hbw5 k1.lt).below (below75 w5 zeroV E2) (k1.below hbw5 k1.lt).lt; replace kX := (kX.below hbw5 kX.lt).below (below75 w5 zeroV E2) (kX.below hbw5 kX.lt).lt; obtain ⟨_, _, z2, z3, z4⟩ := kX.df; rw [hk] at z2; replace hD1 := (hD1.behind hbw5).behind (below75 w5 zeroV E2); replace kyw3 := (kyw3.below hbw5 kyw3.lt).below (below75 w5 zeroV E2) (kyw3.below hbw5 kyw3.lt).lt)
   | (refine stMd 8 29 rfl rfl kzw3 rfl rfl ?_)
   | (refine stMd 9 46 rfl rfl kzw5 rfl rfl ?_)
   | (refine ldMd 9 rfl rfl kyw5 rfl ?_)
   | (refine stMd 6 50 rfl rfl k1 rfl rfl ?_))
  exact bodyPost_ret (resMd rfl _ _ (k1.setRow _) rfl) rfl ⟨rfl, below_setRow hB (by omega) _⟩
set_option maxRecDepth 100000 in
set_option maxHeartbeats 4000000 in
theorem means_ok4 (A : Option Addr) (cap : Nat) (l : List Df) (n : ByteArray) (known : Int) (w : World) (hl : l.length ≤ 1000) (hD : Defs w w.heap.size A l) (d : Df) (hbk : bookF l known n.data.toList = some d)
  (g : ByteArray → (Nat → Int) × Int) (hg0 : ∀ x, (g x).2 ≠ 0 → (g x).1 = zeroV) (hk : d.kind = 4 ∧ (g d.of).2 = 0 ∧ (g d.wth).2 = 0)
  (hrec : ∀ x ∈ dfParts d, ∀ w', Defs w' w'.heap.size A l → Calls Tryz.prog 106 #[.slice A l.length cap, .string x, .int .i64 known] w' (RetMd w' (g x).1 (g x).2)) :
  Calls Tryz.prog 106 #[.slice A l.length cap, .string n, .int .i64 known] w (RetMd w (madeM d g).1 (madeM d g).2) := by
 rw [newO_is] at hbk
 cases hq : newO l n known l.length with
 | none => rw [hq] at hbk; cases hbk
 | some i =>
  rw [hq] at hbk
  have hd : l[i]? = some d := hbk
  have hi := (newO_lt l n known l.length i hq).2
  have hi0 : ¬ (i : Int) < 0 := by omega
  have hi1 : (i : Int) < (l.length : Int) := by omega
  have hi2 : (0 : Int) ≤ (i : Int) := by omega
  have hm0 : max (0 : Int) (i : Int) = (i : Int) := by omega
  obtain ⟨ag, ao, hA, hag, hcx⟩ := hD i d hd
  subst hA
  have hb0 := below_new w (.cells #[.int .i64 0, .int .i64 0, .int .i64 0, .int .i64 0, .int .i64 0, .int .i64 0, .int .i64 0, .int .i64 0, .int .i64 0, .int .i64 0, .int .i64 0, .int .i64 0, .int .i64 0, .int .i64 0, .int .i64 0, .int .i64 0, .int .i64 0, .int .i64 0, .int .i64 0, .int .i64 0, .int .i64 0, .int .i64 0, .int .i64 0, .int .i64 0, .int .i64 0] 75)
  have k0 := new75z w
  have hD0 := hD.behind hb0
  have HN := newest_any (some ⟨ag, ao, none⟩) cap l n known _ hl hD0
  rw [hq, show encI (some i) = (i : Int) from rfl] at HN
  have HN := Lib.hid HN
  have HG0 := Lib.hid hg0
  have HREC := Lib.hid hrec
  have HD := Lib.hid hd
  clear hbk hq hd hcx hg0 hrec
  obtain ⟨hk, h1, h2⟩ := hk
  have hm1 : d.of ∈ dfParts d := by simp [dfParts, hk]
  have hm2 : d.wth ∈ dfParts d := by simp [dfParts, hk]
  obtain ⟨X1, hX1⟩ : ∃ X, X = (g d.of).1 := ⟨_, rfl⟩
  obtain ⟨E1, hE1⟩ : ∃ E, E = (g d.of).2 := ⟨_, rfl⟩
  have HX1 := Lib.hid hX1
  have HE1 := Lib.hid hE1
  obtain ⟨X2, hX2⟩ : ∃ X, X = (g d.wth).1 := ⟨_, rfl⟩
  obtain ⟨E2, hE2⟩ : ∃ E, E = (g d.wth).2 := ⟨_, rfl⟩
  have HX2 := Lib.hid hX2
  have HE2 := Lib.hid hE2
  rw [← hE1] at h1
  rw [← hE2] at h2
  have hM : madeM d g = (joinR hullM X1 X2, joinE hullM X1 X2) := by unfold madeM; rw [if_neg (by omega : ¬ d.kind = 2), if_pos (by omega : d.kind = 3 ∨ d.kind = 4), if_pos (by rw [← hE1]; exact h1), if_pos (by rw [← hE2]; exact h2), if_neg (by omega : ¬ d.kind = 3), hX1, hX2]
  rw [hM]
  subst h1
  subst h2
  clear hX1 hE1 hX2 hE2 hM
  go_enter Tryz.func106, Tryz.ntmps106
  go_wp2_with (first
   | (go_at_call 103; refine HN.out.mono ?_; rintro e w1 ⟨rfl, hb1⟩; have kZ := new60z w1; have hr1 := (hD0.behind hb1).row HD.out; have hB := (below_next hb0 hb0.size hb1).trans ((below60d w1 d).mono (below_next hb0 hb0.size hb1).size); have k1 := (k0.below hb1 k0.lt).below (below60d w1 d) (k0.below hb1 k0.lt).lt; have kX := new60d w1 d; obtain ⟨_, _, x2, x3, x4⟩ := kX.df; rw [hk] at x2; have hD1 := (hD0.behind hb1).behind (below60d w1 d))
   | (refine ldD 17 rfl rfl hr1 rfl ?_)
   | (refine stD 7 18 rfl rfl kZ rfl rfl ?_)
   | (go_at_call 106; (with_reducible refine (HREC.out d.of hm1 _ hD1).mono ?_); rw [← HX1.out, ← HE1.out]; rintro e w3 ⟨rfl, hbw3⟩; have kzw3 := new75z w3; have kyw3 := new75 w3 X1 0; have hcyw3 := (kyw3.cell 24).trans (mnA_e X1 0); have hBw := (below_next hB hB.size hbw3).trans ((below75 w3 X1 0).mono (below_next hB hB.size hbw3).size); replace hB := hBw; clear hBw; replace k1 := (k1.below hbw3 k1.lt).below (below75 w3 X1 0) (k1.below hbw3 k1.lt).lt; replace kX := (kX.below hbw3 kX.lt).below (below75 w3 X1 0) (kX.below hbw3 kX.lt).lt; obtain ⟨_, _, z2, z3, z4⟩ := kX.df; rw [hk] at z2; replace hD1 := (hD1.behind hbw3).behind (below75 w3 X1 0))
   | (go_at_call 106; (with_reducible refine (HREC.out d.wth hm2 _ hD1).mono ?_); rw [← HX2.out, ← HE2.out]; rintro e w5 ⟨rfl, hbw5⟩; have kzw5 := new75z w5; have kyw5 := new75 w5 X2 0; have hcyw5 := (kyw5.cell 24).trans (mnA_e X2 0); have hBw := (below_next hB hB.size hbw5).trans ((below75 w5 X2 0).mono (below_next hB hB.size hbw5).size); replace hB := hBw; clear hBw; replace k1 := (k1.below hbw5 k1.lt).below (below75 w5 X2 0) (k1.below hbw5 k1.lt).lt; replace kX := (kX.below hbw5 kX.lt).below (below75 w5 X2 0) (kX.below hbw5 kX.lt).lt; obtain ⟨_, _, z2, z3, z4⟩ := kX.df; rw [hk] at z2; replace hD1 := (hD1.behind hbw5).behind (below75 w5 X2 0); replace kyw3 := (kyw3.below hbw5 kyw3.lt).below (below75 w5 X2 0) (kyw3.below hbw5 kyw3.lt).lt)
   | (refine stMd 8 29 rfl rfl kzw3 rfl rfl ?_)
   | (refine stMd 9 46 rfl rfl kzw5 rfl rfl ?_)
   | (refine ldDayG 54 (by rfl) rfl (mn_at kyw3) rfl ?_)
   | (refine ldDayG 56 (by rfl) rfl (mn_at kyw5) rfl ?_)
   | (go_at_call 47; refine (refHull_any _ _ _).mono ?_; rintro e w7 ⟨rfl, hb7⟩; replace hB := below_next hB hB.size hb7; replace k1 := k1.below hb7 k1.lt)
   | (refine stMd 6 58 rfl rfl k1 rfl rfl ?_))
  exact bodyPost_ret (resMd rfl _ _ (k1.setRow _) rfl) rfl ⟨rfl, below_setRow hB (by omega) _⟩
end Go.Proofs.YtbhiphjifdnhmaaGreatDoor
namespace Go.Proofs.YtbhiphjifdnhmaaGreatDoor
open Go.RowKit Go.Maps
theorem wpl_build75VE {ops : Array Oper} {rest : List Oper} {o : Oper} {a : Act} {w : World} {Q : Exit → Act → World → Prop} (x y : Operand) (hgd : o.guard = none) (ho : o.op = .build 75 #[(0, x), (1, y)]) (v : Nat → Int) (e : Int) (hx : a.eval x = .agg (va v)) (hy : a.eval y = .int .i64 e)
  (h : wpList Tryz.prog ops Q rest (a.put o.dst (.agg (mnA v e))) w) : wpList Tryz.prog ops Q (o :: rest) a w :=
 wpList_plain hgd fun _ hK => by
  unfold Oper.wp
  simp [execOp, ho, hx, hy, bld75ve, Result.andThen]
  exact hK _ _ h
set_option maxRecDepth 100000 in
set_option maxHeartbeats 4000000 in
theorem means_ok3 (A : Option Addr) (cap : Nat) (l : List Df) (n : ByteArray) (known : Int) (w : World) (hl : l.length ≤ 1000) (hD : Defs w w.heap.size A l) (d : Df) (hbk : bookF l known n.data.toList = some d)
  (g : ByteArray → (Nat → Int) × Int) (hg0 : ∀ x, (g x).2 ≠ 0 → (g x).1 = zeroV) (hk : d.kind = 3 ∧ (g d.of).2 = 0 ∧ (g d.wth).2 = 0)
  (hrec : ∀ x ∈ dfParts d, ∀ w', Defs w' w'.heap.size A l → Calls Tryz.prog 106 #[.slice A l.length cap, .string x, .int .i64 known] w' (RetMd w' (g x).1 (g x).2)) :
  Calls Tryz.prog 106 #[.slice A l.length cap, .string n, .int .i64 known] w (RetMd w (madeM d g).1 (madeM d g).2) := by
 rw [newO_is] at hbk
 cases hq : newO l n known l.length with
 | none => rw [hq] at hbk; cases hbk
 | some i =>
  rw [hq] at hbk
  have hd : l[i]? = some d := hbk
  have hi := (newO_lt l n known l.length i hq).2
  have hi0 : ¬ (i : Int) < 0 := by omega
  have hi1 : (i : Int) < (l.length : Int) := by omega
  have hi2 : (0 : Int) ≤ (i : Int) := by omega
  have hm0 : max (0 : Int) (i : Int) = (i : Int) := by omega
  obtain ⟨ag, ao, hA, hag, hcx⟩ := hD i d hd
  subst hA
  have hb0 := below_new w (.cells #[.int .i64 0, .int .i64 0, .int .i64 0, .int .i64 0, .int .i64 0, .int .i64 0, .int .i64 0, .int .i64 0, .int .i64 0, .int .i64 0, .int .i64 0, .int .i64 0, .int .i64 0, .int .i64 0, .int .i64 0, .int .i64 0, .int .i64 0, .int .i64 0, .int .i64 0, .int .i64 0, .int .i64 0, .int .i64 0, .int .i64 0, .int .i64 0, .int .i64 0] 75)
  have k0 := new75z w
  have hD0 := hD.behind hb0
  have HN := newest_any (some ⟨ag, ao, none⟩) cap l n known _ hl hD0
  rw [hq, show encI (some i) = (i : Int) from rfl] at HN
  have HN := Lib.hid HN
  have HG0 := Lib.hid hg0
  have HREC := Lib.hid hrec
  have HD := Lib.hid hd
  clear hbk hq hd hcx hg0 hrec
  obtain ⟨hk, h1, h2⟩ := hk
  have hm1 : d.of ∈ dfParts d := by simp [dfParts, hk]
  have hm2 : d.wth ∈ dfParts d := by simp [dfParts, hk]
  obtain ⟨X1, hX1⟩ : ∃ X, X = (g d.of).1 := ⟨_, rfl⟩
  obtain ⟨E1, hE1⟩ : ∃ E, E = (g d.of).2 := ⟨_, rfl⟩
  have HX1 := Lib.hid hX1
  have HE1 := Lib.hid hE1
  obtain ⟨X2, hX2⟩ : ∃ X, X = (g d.wth).1 := ⟨_, rfl⟩
  obtain ⟨E2, hE2⟩ : ∃ E, E = (g d.wth).2 := ⟨_, rfl⟩
  have HX2 := Lib.hid hX2
  have HE2 := Lib.hid hE2
  rw [← hE1] at h1
  rw [← hE2] at h2
  have hM : madeM d g = (bothR X1 X2, bothE X1 X2) := by unfold madeM; rw [if_neg (by omega : ¬ d.kind = 2), if_pos (by omega : d.kind = 3 ∨ d.kind = 4), if_pos (by rw [← hE1]; exact h1), if_pos (by rw [← hE2]; exact h2), if_pos hk, hX1, hX2]
  rw [hM]
  subst h1
  subst h2
  clear hX1 hE1 hX2 hE2 hM
  obtain ⟨V, hV⟩ : ∃ V, V = bothR X1 X2 := ⟨_, rfl⟩
  obtain ⟨E, hE⟩ : ∃ E, E = bothE X1 X2 := ⟨_, rfl⟩
  obtain ⟨K, hK⟩ : ∃ K, K = bothK X1 X2 := ⟨_, rfl⟩
  have HBO : Hid (∀ W, Calls Tryz.prog 46 #[.agg (va X1), .agg (va X2)] W (RetJo W V K E)) := Lib.hid (fun W => by rw [hV, hE, hK]; exact refBoth_any X1 X2 W)
  rw [← hV, ← hE]
  clear hV hE hK
  have hsz := va_size V
  go_enter Tryz.func106, Tryz.ntmps106
  go_wp2_with (first
   | (go_at_call 103; refine HN.out.mono ?_; rintro e w1 ⟨rfl, hb1⟩; have kZ := new60z w1; have hr1 := (hD0.behind hb1).row HD.out; have hB := (below_next hb0 hb0.size hb1).trans ((below60d w1 d).mono (below_next hb0 hb0.size hb1).size); have k1 := (k0.below hb1 k0.lt).below (below60d w1 d) (k0.below hb1 k0.lt).lt; have kX := new60d w1 d; obtain ⟨_, _, x2, x3, x4⟩ := kX.df; rw [hk] at x2; have hD1 := (hD0.behind hb1).behind (below60d w1 d))
   | (refine ldD 17 rfl rfl hr1 rfl ?_)
   | (refine stD 7 18 rfl rfl kZ rfl rfl ?_)
   | (go_at_call 106; (with_reducible refine (HREC.out d.of hm1 _ hD1).mono ?_); rw [← HX1.out, ← HE1.out]; rintro e w3 ⟨rfl, hbw3⟩; have kzw3 := new75z w3; have kyw3 := new75 w3 X1 0; have hcyw3 := (kyw3.cell 24).trans (mnA_e X1 0); have hBw := (below_next hB hB.size hbw3).trans ((below75 w3 X1 0).mono (below_next hB hB.size hbw3).size); replace hB := hBw; clear hBw; replace k1 := (k1.below hbw3 k1.lt).below (below75 w3 X1 0) (k1.below hbw3 k1.lt).lt; replace kX := (kX.below hbw3 kX.lt).below (below75 w3 X1 0) (kX.below hbw3 kX.lt).lt; obtain ⟨_, _, z2, z3, z4⟩ := kX.df; rw [hk] at z2; replace hD1 := (hD1.behind hbw3).behind (below75 w3 X1 0))
   | (go_at_call 106; (with_reducible refine (HREC.out d.wth hm2 _ hD1).mono ?_); rw [← HX2.out, ← HE2.out]; rintro e w5 ⟨rfl, hbw5⟩; have kzw5 := new75z w5; have kyw5 := new75 w5 X2 0; have hcyw5 := (kyw5.cell 24).trans (mnA_e X2 0); have hBw := (below_next hB hB.size hbw5).trans ((below75 w5 X2 0).mono (below_next hB hB.size hbw5).size); replace hB := hBw; clear hBw; replace k1 := (k1.below hbw5 k1.lt).below (below75 w5 X2 0) (k1.below hbw5 k1.lt).lt; replace kX := (kX.below hbw5 kX.lt).below (below75 w5 X2 0) (kX.below hbw5 kX.lt).lt; obtain ⟨_, _, z2, z3, z4⟩ := kX.df; rw [hk] at z2; replace hD1 := (hD1.behind hbw5).behind (below75 w5 X2 0); replace kyw3 := (kyw3.below hbw5 kyw3.lt).below (below75 w5 X2 0) (kyw3.below hbw5 kyw3.lt).lt)
   | (refine stMd 8 29 rfl rfl kzw3 rfl rfl ?_)
   | (refine stMd 9 46 rfl rfl kzw5 rfl rfl ?_)
   | (refine ldDayG 59 (by rfl) rfl (mn_at kyw3) rfl ?_)
   | (refine ldDayG 61 (by rfl) rfl (mn_at kyw5) rfl ?_)
   | (go_at_call 46; refine (HBO.out _).mono ?_; rintro e w7 ⟨rfl, hb7⟩; have kjz := new81z w7; have kj := new81 w7 V K E; have cj := (kj.cell 25).trans (joA_e V K E); have hB7 := (below_next hB hB.size hb7).trans ((below81 w7 V K E).mono (below_next hB hB.size hb7).size); replace hB := hB7; clear hB7; replace k1 := (k1.below hb7 k1.lt).below (below81 w7 V K E) (k1.below hb7 k1.lt).lt)
   | (refine stJo 10 63 rfl rfl kjz rfl rfl ?_)
   | (refine ldDayG 64 (by rfl) rfl (jo_at kj) rfl ?_)
   | (refine wpl_build75VE (.tmp 65) (.tmp 67) rfl rfl V E rfl rfl ?_)
   | (refine stMd 6 68 rfl rfl k1 rfl rfl ?_))
  exact bodyPost_ret (resMd rfl _ _ (k1.setRow _) rfl) rfl ⟨rfl, below_setRow hB (by omega) _⟩
end Go.Proofs.YtbhiphjifdnhmaaGreatDoor
namespace Go.Proofs.YtbhiphjifdnhmaaGreatDoor
open Go.RowKit Go.Maps
theorem means_step (A : Option Addr) (cap : Nat) (l : List Df) (n : ByteArray) (known : Int) (w : World) (hl : l.length ≤ 1000) (hD : Defs w w.heap.size A l) (d : Df) (hbk : bookF l known n.data.toList = some d)
  (g : ByteArray → (Nat → Int) × Int) (hg0 : ∀ x, (g x).2 ≠ 0 → (g x).1 = zeroV) (hk : KindOk d)
  (hrec : ∀ x ∈ dfParts d, ∀ w', Defs w' w'.heap.size A l → Calls Tryz.prog 106 #[.slice A l.length cap, .string x, .int .i64 known] w' (RetMd w' (g x).1 (g x).2)) :
  Calls Tryz.prog 106 #[.slice A l.length cap, .string n, .int .i64 known] w (RetMd w (madeM d g).1 (madeM d g).2) := by
 rcases hk with hk | hk | hk | hk
 ·exact means_one A cap l n known w hl hD d hbk g hg0 hk hrec
 ·by_cases h : (g d.of).2 = 0
  ·exact means_two_ok A cap l n known w hl hD d hbk g hg0 ⟨hk, h⟩ hrec
  ·exact means_two_bad A cap l n known w hl hD d hbk g hg0 ⟨hk, h⟩ hrec
 ·by_cases h : (g d.of).2 = 0
  ·by_cases h2 : (g d.wth).2 = 0
   ·exact means_ok3 A cap l n known w hl hD d hbk g hg0 ⟨hk, h, h2⟩ hrec
   ·exact means_with_bad3 A cap l n known w hl hD d hbk g hg0 ⟨hk, h, h2⟩ hrec
  ·exact means_of_bad3 A cap l n known w hl hD d hbk g hg0 ⟨hk, h⟩ hrec
 ·by_cases h : (g d.of).2 = 0
  ·by_cases h2 : (g d.wth).2 = 0
   ·exact means_ok4 A cap l n known w hl hD d hbk g hg0 ⟨hk, h, h2⟩ hrec
   ·exact means_with_bad4 A cap l n known w hl hD d hbk g hg0 ⟨hk, h, h2⟩ hrec
  ·exact means_of_bad4 A cap l n known w hl hD d hbk g hg0 ⟨hk, h⟩ hrec
theorem means_all (A : Option Addr) (cap : Nat) (l : List Df) (known : Int) (hl : l.length ≤ 1000) {L : List ByteArray} (hT : Topo (prt (bookF l known)) L) (N : Nat) :
  (∀ x ∈ L, ∃ d, bookF l known x.data.toList = some d ∧ KindOk d) → L.length < N → ∀ x ∈ L, ∀ w, Defs w w.heap.size A l →
   Calls Tryz.prog 106 #[.slice A l.length cap, .string x, .int .i64 known] w (RetMd w (mval (bookF l known) N x).1 (mval (bookF l known) N x).2) := by
 induction hT with
 | nil =>
  intro _ _ x hx
  cases hx
 | @snoc L x hT hx hp ih =>
  intro hk hN y hy w hD
  have hN' : L.length < N := by
   rw [List.length_append] at hN
   simp at hN
   omega
  have ih' := ih (fun z hz => hk z (List.mem_append_left _ hz)) hN'
  rcases List.mem_append.1 hy with hy' | hy'
  ·exact ih' y hy' w hD
  ·rw [List.mem_singleton] at hy'
   subst hy'
   obtain ⟨d, hd, hkd⟩ := hk y hy
   have e := mval_made hT hp hN'
   rw [hd, Option.getD_some] at e
   rw [e]
   refine means_step A cap l y known w hl hD d hd (mval _ N) (mval_no _ N) hkd fun z hz w' hD' => ih' z (hp z ?_) w' hD'
   unfold prt partsL
   rw [hd]
   exact hz
end Go.Proofs.YtbhiphjifdnhmaaGreatDoor
