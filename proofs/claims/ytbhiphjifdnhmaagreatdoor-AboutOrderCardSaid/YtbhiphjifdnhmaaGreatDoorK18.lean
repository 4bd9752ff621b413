import Derived.Test.YtbhiphjifdnhmaaGreatDoorK15
import Derived.Test.YtbhiphjifdnhmaaGreatDoorV0
import Derived.Shelf.Sort.Plain
import Derived.Ground.Names2Prog
import Derived.Shelf.Slices.CompactI
import Derived.Shelf.Slices.In.SortNone
import Derived.Sort.OwnSortedInts
import Derived.Lib.OwnBridge
import Derived.Lib.RowBridge
set_option linter.unusedSimpArgs false
set_option linter.unusedVariables false
/- checkKnown and checkName, where there is no error; Means and Needs. -/
namespace Go.Proofs.YtbhiphjifdnhmaaGreatDoor
open Go.RowKit Go.Maps

/-- definitions without an error, at a slice -/
structure CalOk (A : Option Addr) (cap : Nat) (l : List Df) : Prop where
  len : l.length ≤ 30
  lenCap : l.length ≤ cap
  capMax : cap ≤ maxLen
  form : ∀ d ∈ l, ∀ w, Calls Tryz.prog 84 #[.agg (dfA d)] w fun e w' => e = .returned (.bool true) ∧ Below w.heap.size w w'
  twice : NoTwice l
  names : ∀ d ∈ l, d.name.size ≤ maxLen
theorem Defs.behind {w w' : World} {A : Option Addr} {l : List Df} (h : Defs w w.heap.size A l) (hb : Below w.heap.size w w') : Defs w' w'.heap.size A l := (h.below hb).more hb.size
set_option maxRecDepth 100000 in
set_option maxHeartbeats 1000000 in
theorem checkKnown_ok {A : Option Addr} {cap : Nat} {l : List Df} (h : CalOk A cap l) (known : Int) (w : World) (hD : Defs w w.heap.size A l) (hk : dayB known = true) :
    Calls Tryz.prog 98 #[.slice A l.length cap, .int .i64 known] w fun e w' => e = .returned (.int .i64 0) ∧ Below w.heap.size w w' := by
  have HK := Lib.hid hk
  clear hk
  go_enter Tryz.func98, Tryz.ntmps98
  go_wp2_with (first
    | (go_at_call 33; refine (calendar_ok A cap l _ h.len h.lenCap h.capMax hD h.form h.twice).mono ?_; rintro e w1 ⟨rfl, hb1⟩)
    | (go_at_call 122; refine (isDay_any _ _).mono ?_; rw [HK.out]; rintro e w2 ⟨rfl, rfl⟩))
  go_ret
  exact ⟨rfl, hb1⟩
set_option maxRecDepth 100000 in
set_option maxHeartbeats 1000000 in
theorem checkName_ok {A : Option Addr} {cap : Nat} {l : List Df} (h : CalOk A cap l) (n : ByteArray) (hn : n.size ≤ maxLen) (known : Int) (w : World) (hD : Defs w w.heap.size A l) (hb : nameB n = true) (hk : dayB known = true) :
    Calls Tryz.prog 85 #[.slice A l.length cap, .string n, .int .i64 known] w fun e w' => e = .returned (.int .i64 0) ∧ Below w.heap.size w w' := by
  have HB := Lib.hid hb
  clear hb
  go_enter Tryz.func85, Tryz.ntmps85
  go_wp2_with (first
    | (go_at_call 98; refine (checkKnown_ok h known _ hD hk).mono ?_; rintro e w1 ⟨rfl, hb1⟩)
    | (go_at_call 121; refine (isName_any _ hn _).mono ?_; rw [HB.out]; rintro e w2 ⟨rfl, rfl⟩))
  go_ret
  exact ⟨rfl, hb1⟩
theorem mn_days {w : World} {g : Nat} {T : TypeId} {v : Nat → Int} {e : Int} (h : Blk w g T (mnA v e)) : w.rangeAt g 0 (va v).toList := fun j u hu => by
  have hj : j < 24 := by have := (List.getElem?_eq_some_iff.1 hu).1; simpa [va_size] using this
  have e := h.cell (0 + j)
  rw [Nat.zero_add] at e ⊢
  rw [Array.getElem?_toList] at hu
  rw [e, mnA, Array.getElem?_push_lt (by rw [va_size]; exact hj)]
  rw [Array.getElem?_eq_getElem (by rw [va_size]; exact hj)] at hu
  exact hu
theorem mn_err {w : World} {g : Nat} {T : TypeId} {v : Nat → Int} {e : Int} (h : Blk w g T (mnA v e)) : w.cell? ⟨g, 24, none⟩ = some (.int .i64 e) := by
  have q := h.cell 24
  rw [q, mnA]
  have : (va v).size = 24 := va_size v
  rw [← this, Array.getElem?_push_size]
theorem days_lenV (v : Nat → Int) : (Tryz.prog.info? 26).map (·.size) = some (va v).toList.length := by
  rw [Array.length_toList]
  exact info26 v
/-- what meaning says of a name, as known on a day -/
def MeanIs (l : List Df) (n : ByteArray) (known : Int) (v : Nat → Int) (e : Int) : Prop :=
  ∀ (m k : Nat) (w : World), k ≤ 1000 → MapIs w Tryz.prog 9 m k (bookV (bookF l known)) → Calls Tryz.prog 87 #[.map (some m), .string n] w fun r w' => r = .returned (.agg (mnA v e)) ∧ Below w.heap.size w w'
set_option maxRecDepth 100000 in
set_option maxHeartbeats 2000000 in
theorem means_ok {A : Option Addr} {cap : Nat} {l : List Df} (h : CalOk A cap l) (n : ByteArray) (hn : n.size ≤ maxLen) (known : Int) (w : World) (hD : Defs w w.heap.size A l) (hb : nameB n = true) (hk : dayB known = true) (v : Nat → Int) (er : Int) (hM : MeanIs l n known v er) :
    Calls Tryz.prog 34 #[.slice A l.length cap, .string n, .int .i64 known] w (RetV w v er) := by
  have HM : Hid (MeanIs l n known v er) := hM
  have k0 : Blk (w.alloc (.cells #[.int .i64 0, .int .i64 0, .int .i64 0, .int .i64 0, .int .i64 0, .int .i64 0, .int .i64 0, .int .i64 0, .int .i64 0, .int .i64 0, .int .i64 0, .int .i64 0, .int .i64 0, .int .i64 0, .int .i64 0, .int .i64 0, .int .i64 0, .int .i64 0, .int .i64 0, .int .i64 0, .int .i64 0, .int .i64 0, .int .i64 0, .int .i64 0] 26)) w.heap.size 26 (va zeroV) := by rw [z24]; exact Blk.new _ _ _
  have hb0 := below_new w (.cells #[.int .i64 0, .int .i64 0, .int .i64 0, .int .i64 0, .int .i64 0, .int .i64 0, .int .i64 0, .int .i64 0, .int .i64 0, .int .i64 0, .int .i64 0, .int .i64 0, .int .i64 0, .int .i64 0, .int .i64 0, .int .i64 0, .int .i64 0, .int .i64 0, .int .i64 0, .int .i64 0, .int .i64 0, .int .i64 0, .int .i64 0, .int .i64 0] 26)
  have hD0 := hD.behind hb0
  have k0l := k0.lt
  clear hM
  go_enter Tryz.func34, Tryz.ntmps34
  go_wp2_with (first
    | (go_at_call 85; refine (checkName_ok h n hn known _ hD0 hb hk).mono ?_; rintro e w1 ⟨rfl, hb1⟩; have hD1 := hD0.behind hb1)
    | (go_at_call 86; refine (bookOf_any A cap l known w1 (by have := h.len; omega) hD1 h.names).mono ?_; rintro e w2 ⟨m, k, rfl, hk2, hmw, hm2, hb2⟩)
    | (go_at_call 87; refine (HM.out m k _ hk2 hm2).mono ?_; rintro e w3 ⟨rfl, hb3⟩; have kM : Blk (w3.alloc (.cells #[.int .i64 0, .int .i64 0, .int .i64 0, .int .i64 0, .int .i64 0, .int .i64 0, .int .i64 0, .int .i64 0, .int .i64 0, .int .i64 0, .int .i64 0, .int .i64 0, .int .i64 0, .int .i64 0, .int .i64 0, .int .i64 0, .int .i64 0, .int .i64 0, .int .i64 0, .int .i64 0, .int .i64 0, .int .i64 0, .int .i64 0, .int .i64 0, .int .i64 0] 128)) w3.heap.size 128 (mnA zeroV 0) := by rw [zmn]; exact Blk.new _ _ _)
    | (refine stM 9 22 rfl rfl kM rfl (v := v) (e := er) rfl ?_))
  obtain ⟨W5, hW5⟩ : ∃ W5, W5 = (w3.alloc (.cells #[.int .i64 0, .int .i64 0, .int .i64 0, .int .i64 0, .int .i64 0, .int .i64 0, .int .i64 0, .int .i64 0, .int .i64 0, .int .i64 0, .int .i64 0, .int .i64 0, .int .i64 0, .int .i64 0, .int .i64 0, .int .i64 0, .int .i64 0, .int .i64 0, .int .i64 0, .int .i64 0, .int .i64 0, .int .i64 0, .int .i64 0, .int .i64 0, .int .i64 0] 128)).setRow w3.heap.size (mnA v er) := ⟨_, rfl⟩
  rw [← hW5]
  have kM5 : Blk W5 w3.heap.size 128 (mnA v er) := by rw [hW5]; exact kM.setRow _
  have hb5 : Below w3.heap.size w3 W5 := by rw [hW5]; exact below_setRow (below_new _ _) (Nat.le_refl _) _
  have hb3' : Below w.heap.size w w3 := below_next (below_next (below_next hb0 (by simp) hb1) (by have := hb1.size; simp at this; omega) hb2) (by have q := hb1.size; have := hb2.size; simp at q; omega) hb3
  have k6 : Blk W5 w.heap.size 26 (va zeroV) := ((((k0.below hb1 k0l).below hb2 (by have q := hb1.size; simp at q; omega)).below hb3 (by have q := hb1.size; have := hb2.size; simp at q; omega)).below hb5 (by have q := hb1.size; have := hb2.size; have := hb3.size; simp at q; omega))
  have hne : w.heap.size ≠ w3.heap.size := by have q := hb1.size; simp at q; have := hb2.size; have := hb3.size; omega
  have hle : w.heap.size ≤ w3.heap.size := hb3'.size
  clear hW5 kM
  have hr5 : W5.rangeAt w3.heap.size 0 (va v).toList := mn_days kM5
  have hc5 : W5.cell? ⟨w3.heap.size, 24, none⟩ = some (.int .i64 er) := mn_err kM5
  simp only [Act.put]
  refine wp_region_held_drew (S := fun w' => w'.rangeAt w3.heap.size 0 (va v).toList ∧ w'.cell? ⟨w3.heap.size, 24, none⟩ = some (.int .i64 er)) (by kernel_rfl) ⟨hr5, hc5⟩ (fun hHeld => ?_)
  (refine wpAnyH_take (i := 0) (v := ?_) rfl (by kernel_rfl) (by kernel_rfl) (by kernel_rfl) (fun _ _ _ h => h) (Or.inl ⟨by rfl, ?_⟩) (by assumption) ?_; rotate_left; (· intro w5 hS5; (try dsimp only at hS5); go_simp <;> with_reducible rfl); (try simp only [List.getElem_toArray, List.getElem_cons_zero, List.getElem_cons_succ, Act.put, List.setIfInBounds_toArray, List.set_cons_zero, List.set_cons_succ]))
  (refine wpAnyH_take (i := 1) (v := .agg (va v).toList.toArray) rfl (by kernel_rfl) (by kernel_rfl) (by kernel_rfl) (fun _ _ _ h => h) (yieldsIf_load_mid (by rfl) 26 _ rfl w3.heap.size 0 rfl (va v).toList _ (fun w5 hS5 => hS5.1) Tryz.underlying26 rfl (days_lenV v)) (by assumption) ?_; (try simp only [List.getElem_toArray, List.getElem_cons_zero, List.getElem_cons_succ, Act.put, List.setIfInBounds_toArray, List.set_cons_zero, List.set_cons_succ]))
  simp only [Array.toArray_toList]
  (refine wpAnyH_take (i := 2) (v := ?_) rfl (by kernel_rfl) (by kernel_rfl) (by kernel_rfl) (fun _ _ _ h => h) (Or.inl ⟨by rfl, ?_⟩) (by assumption) ?_; rotate_left; (· intro w5 hS5; (try dsimp only at hS5); go_simp <;> with_reducible rfl); (try simp only [List.getElem_toArray, List.getElem_cons_zero, List.getElem_cons_succ, Act.put, List.setIfInBounds_toArray, List.set_cons_zero, List.set_cons_succ]))
  (refine wpAnyH_take (i := 3) (v := ?_) rfl (by kernel_rfl) (by kernel_rfl) (by kernel_rfl) (fun _ _ _ h => h) (Or.inl ⟨by rfl, ?_⟩) (by assumption) ?_; rotate_left; (· intro w5 hS5; (try dsimp only at hS5); go_simp <;> with_reducible rfl); (try simp only [List.getElem_toArray, List.getElem_cons_zero, List.getElem_cons_succ, Act.put, List.setIfInBounds_toArray, List.set_cons_zero, List.set_cons_succ]))
  (refine wpAnyH_ready (rs := [4]) (by kernel_rfl) (by simp) ?_; refine AllReadyH.cons rfl (fun K hK => ?_) AllReadyH.nil)
  rw [if_pos (by rfl)]
  refine wp_store_row 26 _ _ rfl w.heap.size (va v) rfl rfl 26 _ (show Blk W5.drew w.heap.size 26 (va zeroV) from k6) (info26 _) (by rw [va_size, va_size]) (va_one _) ?_
  refine hK.out _ _ ⟨mn_days (kM5.farRow (w := W5.drew) hne.symm _), mn_err (kM5.farRow (w := W5.drew) hne.symm _)⟩ (fun hHeld => ?_)
  clear hK K
  (try simp only [List.getElem_toArray, List.getElem_cons_zero, List.getElem_cons_succ, Act.put, List.setIfInBounds_toArray, List.set_cons_zero, List.set_cons_succ])
  (refine wpAnyH_take (i := 5) (v := ?_) rfl (by kernel_rfl) (by kernel_rfl) (by kernel_rfl) (fun _ _ _ h => h) (Or.inl ⟨by rfl, ?_⟩) (by assumption) ?_; rotate_left; (· intro w5 hS5; (try dsimp only at hS5); go_simp <;> with_reducible rfl); (try simp only [List.getElem_toArray, List.getElem_cons_zero, List.getElem_cons_succ, Act.put, List.setIfInBounds_toArray, List.set_cons_zero, List.set_cons_succ]))
  refine wpAnyH_done (by kernel_rfl) ?_ _
  clear hHeld
  go_wp2_with fail
  exact bodyPost_ret (resV2 rfl _ _ (Blk.setRow (w := W5.drew) k6 _) rfl rfl) rfl ⟨rfl, below_setRow (below_next hb3' hle hb5).drew (Nat.le_refl _) _⟩
end Go.Proofs.YtbhiphjifdnhmaaGreatDoor

/- slices.Sort and slices.Compact on numbers; appends of numbers. -/
namespace Go.Proofs
open Go.Shelf
def Tryz.lays189_ren : Go.Shelf.Ren := ⟨fun | 189 => 89 | 125 => 132 | 257 => 131 | 128 => 152 | 129 => 153 | 294 => 143 | 295 => 144 | 296 => 145 | 297 => 146 | 298 => 147 | 299 => 148 | 216 => 149 | 300 => 150 | 301 => 151 | 328 => 160 | 329 => 161 | 330 => 162 | 331 => 163 | 332 => 164 | 215 => 140 | 343 => 174 | n => n, fun | 28 => 69 | 3 => 3 | 46 => 166 | 0 => 0 | 51 => 185 | 53 => 187 | 4 => 4 | 183 => 177 | 182 => 176 | 131 => 182 | 5 => 5 | 9 => 9 | 218 => 194 | 222 => 198 | 228 => 206 | 229 => 207 | n => n, fun | n => n⟩
theorem Tryz.lays189 : Go.Proofs.Lays.n189 Tryz.prog Tryz.lays189_ren := {
  mixed := by kernel_rfl
  f125 := Tryz.func132.trans (congrArg some (by kernel_rfl))
  f128 := Tryz.func152.trans (congrArg some (by kernel_rfl))
  f129 := Tryz.func153.trans (congrArg some (by kernel_rfl))
  f189 := Tryz.func89.trans (congrArg some (by kernel_rfl))
  f215 := Tryz.func140.trans (congrArg some (by kernel_rfl))
  f216 := Tryz.func149.trans (congrArg some (by kernel_rfl))
  f257 := Tryz.func131.trans (congrArg some (by kernel_rfl))
  f294 := Tryz.func143.trans (congrArg some (by kernel_rfl))
  f295 := Tryz.func144.trans (congrArg some (by kernel_rfl))
  f296 := Tryz.func145.trans (congrArg some (by kernel_rfl))
  f297 := Tryz.func146.trans (congrArg some (by kernel_rfl))
  f298 := Tryz.func147.trans (congrArg some (by kernel_rfl))
  f299 := Tryz.func148.trans (congrArg some (by kernel_rfl))
  f300 := Tryz.func150.trans (congrArg some (by kernel_rfl))
  f301 := Tryz.func151.trans (congrArg some (by kernel_rfl))
  f328 := Tryz.func160.trans (congrArg some (by kernel_rfl))
  f329 := Tryz.func161.trans (congrArg some (by kernel_rfl))
  f330 := Tryz.func162.trans (congrArg some (by kernel_rfl))
  f331 := Tryz.func163.trans (congrArg some (by kernel_rfl))
  f332 := Tryz.func164.trans (congrArg some (by kernel_rfl))
  f343 := Tryz.func174.trans (congrArg some (by kernel_rfl))
  t0 := Tryz.underlying0
  a0 := Tryz.isAgg0
  z0 := Tryz.sizeOf0
  v0 := Tryz.zeroValue0
  t3 := Tryz.underlying3
  a3 := Tryz.isAgg3
  z3 := Tryz.sizeOf3
  v3 := Tryz.zeroValue3
  t4 := Tryz.underlying4
  a4 := Tryz.isAgg4
  z4 := Tryz.sizeOf4
  v4 := Tryz.zeroValue4
  t5 := Tryz.underlying5
  a5 := Tryz.isAgg5
  z5 := Tryz.sizeOf5
  v5 := Tryz.zeroValue5
  t9 := Tryz.underlying9
  a9 := Tryz.isAgg9
  z9 := Tryz.sizeOf9
  v9 := Tryz.zeroValue9
  t28 := Tryz.underlying69
  a28 := Tryz.isAgg69
  z28 := Tryz.sizeOf69
  v28 := Tryz.zeroValue69
  t46 := Tryz.underlying166
  a46 := Tryz.isAgg166
  z46 := Tryz.sizeOf166
  v46 := Tryz.zeroValue166
  t51 := Tryz.underlying185
  a51 := Tryz.isAgg185
  z51 := Tryz.sizeOf185
  v51 := Tryz.zeroValue185
  t53 := Tryz.underlying187
  a53 := Tryz.isAgg187
  z53 := Tryz.sizeOf187
  v53 := Tryz.zeroValue187
  t131 := Tryz.underlying182
  a131 := Tryz.isAgg182
  z131 := Tryz.sizeOf182
  v131 := Tryz.zeroValue182
  t182 := Tryz.underlying176
  a182 := Tryz.isAgg176
  z182 := Tryz.sizeOf176
  v182 := Tryz.zeroValue176
  t183 := Tryz.underlying177
  a183 := Tryz.isAgg177
  z183 := Tryz.sizeOf177
  v183 := Tryz.zeroValue177
  t218 := Tryz.underlying194
  a218 := Tryz.isAgg194
  z218 := Tryz.sizeOf194
  v218 := Tryz.zeroValue194
  t222 := Tryz.underlying198
  a222 := Tryz.isAgg198
  z222 := Tryz.sizeOf198
  v222 := Tryz.zeroValue198
  t228 := Tryz.underlying206
  a228 := Tryz.isAgg206
  z228 := Tryz.sizeOf206
  v228 := Tryz.zeroValue206
  t229 := Tryz.underlying207
  a229 := Tryz.isAgg207
  z229 := Tryz.sizeOf207
  v229 := Tryz.zeroValue207 }
open Go.Sort Go.RowKit in
theorem Tryz.slices_Sort_int (blk off cap : Nat) (zs : List Int) (w : World) (hH : Holds (Value.int .i64) w blk off zs.toArray) (hblk : blk < w.heap.size) (hsz : zs.length < 4611686018427387904) :
    Calls Tryz.prog 89 #[.slice (some ⟨blk, off, none⟩) zs.length cap] w fun e w' =>
      e = .returned (.tuple #[]) ∧ ∃ n os, w' = grow (putRow (Value.int .i64) (Sort.ahead w n) blk off (zs.mergeSort fun x y => decide (x ≤ y)).toArray) os := Any.slices_Sort_int Tryz.lays189 blk off cap zs w hH hblk hsz
def Tryz.laysNm220_ren : Go.Shelf.Ren := ⟨fun | 20 => 90 | n => n, fun | 22 => 69 | 3 => 3 | 4 => 4 | 0 => 0 | n => n, fun | n => n⟩
theorem Tryz.laysNm220 : Go.Proofs.Lays2.n20 Tryz.prog Tryz.laysNm220_ren := {
  mixed := by kernel_rfl
  f20 := Tryz.func90.trans (congrArg some (by kernel_rfl))
  t0 := Tryz.underlying0
  a0 := Tryz.isAgg0
  z0 := Tryz.sizeOf0
  v0 := Tryz.zeroValue0
  t3 := Tryz.underlying3
  a3 := Tryz.isAgg3
  z3 := Tryz.sizeOf3
  v3 := Tryz.zeroValue3
  t4 := Tryz.underlying4
  a4 := Tryz.isAgg4
  z4 := Tryz.sizeOf4
  v4 := Tryz.zeroValue4
  t22 := Tryz.underlying69
  a22 := Tryz.isAgg69
  z22 := Tryz.sizeOf69
  v22 := Tryz.zeroValue69
  i3 := by kernel_rfl }
open Go.RowKit Go.Lib Go.Sort in
theorem Tryz.slices_Compact_int (blk off cap : Nat) (zs : List Int) (w : World) (hH : Holds (Value.int .i64) w blk off zs.toArray) (hsz : zs.length ≤ 9223372036854775807) (hcap : zs.length ≤ cap) :
    Calls Tryz.prog 90 #[.slice (some ⟨blk, off, none⟩) zs.length cap] w fun e w' => e = .returned (.slice (some ⟨blk, off, none⟩) (Lib.compact zs).length cap) ∧ ∃ q, w' = putRow (Value.int .i64) (Sort.ahead w q) blk off (Lib.compact zs ++ List.replicate (zs.length - (Lib.compact zs).length) 0).toArray := Any.slices_Compact_int Tryz.laysNm220 blk off cap zs w hH hsz hcap
open Go.RowKit Go.Lib Go.Sort in
theorem Tryz.slices_Compact_int_empty (a : Option Addr) (cap : Nat) (w : World) :
    Calls Tryz.prog 90 #[.slice a 0 cap] w fun e w' => e = .returned (.slice a 0 cap) ∧ w' = w := Any.slices_Compact_int_empty Tryz.laysNm220 a cap w
open Go.RowKit Go.Sort in
theorem Tryz.slices_Sort_int_none (p : Option Addr) (cap : Nat) (w : World) :
    Calls Tryz.prog 89 #[.slice p 0 cap] w fun e w' => e = .returned (.tuple #[]) ∧ w' = w := Any.slices_Sort_int_none Tryz.lays189 p cap w
end Go.Proofs
namespace Go.Proofs.YtbhiphjifdnhmaaGreatDoor
open Go.RowKit Go.Sort

def srt (zs : List Int) : List Int := zs.mergeSort fun x y => decide (x ≤ y)
theorem srt_len (zs : List Int) : (srt zs).length = zs.length := List.length_mergeSort zs
theorem sort_own (base : Nat) (A : Option Addr) (c : Nat) (zs : List Int) (W : World) (hbase : base ≤ W.heap.size) (hlen : zs.length ≤ 1000000) (hown : W.ownsRow base 3 1 (.slice A zs.length c) zs.length (zs.map (Value.int .i64))) :
    Calls Tryz.prog 89 #[.slice A zs.length c] W fun e w' => e = .returned (.tuple #[]) ∧ w'.ownsRow base 3 1 (.slice A zs.length c) (srt zs).length ((srt zs).map (Value.int .i64)) ∧ Below base W w' := by
  by_cases hn : zs = []
  · subst hn
    refine (Tryz.slices_Sort_int_none A c W).mono ?_
    rintro e w' ⟨rfl, rfl⟩
    have e0 : srt [] = [] := by simp [srt]
    rw [e0]
    exact ⟨rfl, hown, Below.refl _ _⟩
  · rcases hown.2 with ⟨_, h0⟩ | ⟨g, cap, cur, hv, hb, hg, h1, h2, h3, h4⟩
    · exact absurd (List.eq_nil_of_length_eq_zero h0) hn
    · cases hv
      have hH := holds_of_blockI (ss := zs) hg (by simpa using h4)
      refine (Tryz.slices_Sort_int g 0 c zs W hH (Array.getElem?_eq_some_iff.1 hg).1 (by omega)).mono ?_
      rintro e w' ⟨rfl, n, os, rfl⟩
      have hl : (srt zs).length = zs.length := srt_len zs
      have := ownsRow_sortedI (n := n) (os := os) (ts := srt zs) hl hb hg h1 h2 h3
      exact ⟨rfl, by rw [hl]; exact this, (Below.refl _ _).grown (grownBy_sortedI _) hbase (fun j hj => by cases hj; exact hb)⟩
/-- what is left of a list whose neighbours are no longer the same -/
def cmpt (zs : List Int) : List Int := Lib.compact zs
theorem cmpt_len (zs : List Int) : (cmpt zs).length ≤ zs.length := Go.Lib.compact_length_le zs
theorem own_cut {w : World} {base : Nat} {A : Option Addr} {c : Nat} {l m : List Int} (h : w.ownsRow base 3 1 (.slice A (l ++ m).length c) (l ++ m).length ((l ++ m).map (Value.int .i64))) : w.ownsRow base 3 1 (.slice A l.length c) l.length (l.map (Value.int .i64)) := by
  rcases h.2 with ⟨hv, h0⟩ | ⟨g, cap, cur, hv, hb, hg, h1, h2, h3, h4⟩
  · have hl : l = [] := List.eq_nil_of_length_eq_zero (by simp at h0; simp [h0])
    rw [h0] at hv
    cases hv
    subst hl
    exact ⟨rfl, .inl ⟨rfl, rfl⟩⟩
  · cases hv
    refine ⟨by simp, .inr ⟨g, _, cur, rfl, hb, hg, by simp at h1; omega, h2, h3, ?_⟩⟩
    have h5 := congrArg (List.take l.length) h4
    rw [List.take_take, List.map_append] at h5
    simp only [Nat.mul_one] at h5 ⊢
    rw [Nat.min_eq_left (by simp)] at h5
    rw [h5, List.take_append_of_le_length (by simp)]
    rw [List.take_of_length_le (by simp)]
theorem grow_nil (w : World) : grow w #[] = w := by
  cases w
  simp [grow]
theorem compact_own (base : Nat) (A : Option Addr) (c : Nat) (zs : List Int) (W : World) (hbase : base ≤ W.heap.size) (hlen : zs.length ≤ 1000000) (hown : W.ownsRow base 3 1 (.slice A zs.length c) zs.length (zs.map (Value.int .i64))) :
    Calls Tryz.prog 90 #[.slice A zs.length c] W fun e w' => e = .returned (.slice A (cmpt zs).length c) ∧ w'.ownsRow base 3 1 (.slice A (cmpt zs).length c) (cmpt zs).length ((cmpt zs).map (Value.int .i64)) ∧ W.grownBy w' (Value.slice A zs.length c).ownBlock := by
  by_cases hn : zs = []
  · subst hn
    refine (Tryz.slices_Compact_int_empty A c W).mono ?_
    rintro e w' ⟨rfl, rfl⟩
    exact ⟨rfl, hown, World.grownBy.refl _ _⟩
  · rcases hown.2 with ⟨_, h0⟩ | ⟨g, cap, cur, hv, hb, hg, h1, h2, h3, h4⟩
    · exact absurd (List.eq_nil_of_length_eq_zero h0) hn
    · cases hv
      have hH := holds_of_blockI (ss := zs) hg (by simpa using h4)
      refine (Tryz.slices_Compact_int g 0 c zs W hH (by omega) h1).mono ?_
      rintro e w' ⟨rfl, q, rfl⟩
      have hl : (cmpt zs ++ List.replicate (zs.length - (cmpt zs).length) 0).length = zs.length := by
        have := cmpt_len zs
        simp
        omega
      obtain ⟨zz, hzz⟩ : ∃ zz, List.replicate (zs.length - (cmpt zs).length) (0 : Int) = zz := ⟨_, rfl⟩
      rw [hzz] at hl
      have ho := ownsRow_sortedI (n := q) (os := #[]) (ts := cmpt zs ++ zz) hl hb hg h1 h2 h3
      have hgr : W.grownBy (grow (putRow (Value.int .i64) (Sort.ahead W q) g 0 (cmpt zs ++ zz).toArray) #[]) (some g) := grownBy_sortedI _
      rw [grow_nil] at ho hgr
      rw [← hl] at ho
      have he : putRow (Value.int .i64) (Sort.ahead W q) g 0 (Lib.compact zs ++ List.replicate (zs.length - (Lib.compact zs).length) 0).toArray = putRow (Value.int .i64) (Sort.ahead W q) g 0 (cmpt zs ++ zz).toArray := by rw [← hzz]; rfl
      rw [he]
      exact ⟨rfl, own_cut ho, hgr⟩
theorem int_info : (Tryz.prog.info? 3).map (fun i => (i.zero.map (·.cells.size), i.size, i.bytes)) = some (some 1, 1, 8) := by kernel_rfl
theorem int_parts : ∃ i z, Tryz.prog.info? 3 = some i ∧ i.zero = some z ∧ z.cells.size = 1 ∧ i.size = 1 ∧ i.bytes = 8 := by
  have h := int_info
  cases hq : Tryz.prog.info? 3 with
  | none => simp [hq] at h
  | some i =>
    simp only [hq, Option.map_some, Option.some.injEq, Prod.mk.injEq] at h
    obtain ⟨h0, h1, h2⟩ := h
    cases hz : i.zero with
    | none => simp [hz] at h0
    | some z => exact ⟨i, z, rfl, hz, by simpa [hz] using h0, h1, h2⟩
/-- 'l = append(l, n)' -/
theorem wpl_appN {ops : Array Oper} {rest : List Oper} {o : Oper} {a : Act} {Q : Exit → Act → World → Prop} {w : World} (hgd : o.guard = none) (s x : Operand)
    (ho : o.op = .call { callee := .builtin .append, args := #[s, x], argTypes := #[69, 69] }) (base : Nat) (v : Value) (l : List Int) (d : Int)
    (hs : a.eval s = v) (hown : w.ownsRow base 3 1 v l.length (l.map (Value.int .i64))) (g : Nat) (hx : a.eval x = .slice (some ⟨g, 0, none⟩) 1 1) (hg : w.cell? ⟨g, 0, none⟩ = some (.int .i64 d)) (hl : l.length ≤ 1000000) (hbase : base ≤ w.heap.size)
    (h : ∀ g' c' w', w'.ownsRow base 3 1 (.slice (some ⟨g', 0, none⟩) (l ++ [d]).length c') (l ++ [d]).length ((l ++ [d]).map (Value.int .i64)) → Below base w w' → w.grownBy w' v.ownBlock → wpList Tryz.prog ops Q rest (a.put o.dst (.slice (some ⟨g', 0, none⟩) (l ++ [d]).length c')) w') :
    wpList Tryz.prog ops Q (o :: rest) a w :=
  wpList_plain hgd fun K hK => by
    obtain ⟨i, z, hi, hz, hzs, h1, h2⟩ := int_parts
    obtain ⟨v', w', hr, q1, q2, _, q4⟩ := run_append_own_at (P := Tryz.prog) w base 69 o.type 3 i z 1 8 Tryz.underlying69 hi hz h1 h2 hzs (by decide) v l.length (l.map (Value.int .i64)) hown ⟨g, 0, none⟩ 1 1 [.int .i64 d] rfl (fun j u hj => by
        match j with
        | 0 => simpa [Addr.add] using hj ▸ hg
        | j + 1 => simp at hj) (by simp [Value.oneCell']) (by simp only [maxLen]; omega) (by omega) hbase
    have q1' : w'.ownsRow base 3 1 v' (l ++ [d]).length ((l ++ [d]).map (Value.int .i64)) := by rw [List.map_append, List.length_append]; exact q1
    obtain ⟨g', c', rfl, _⟩ := own_shape q1' (by simp)
    unfold Oper.wp execOp
    simp only [ho, resolve, invoke, builtin, Sem.run_bind, Sem.run_pure, Result.andThen_ok, List.map_toArray, List.map_cons, List.map_nil, hs, hx, hr]
    exact hK _ _ (h g' c' w' q1' ((Below.refl _ _).grown q2 hbase fun k hk => (hown.lt k hk).1) q2)
end Go.Proofs.YtbhiphjifdnhmaaGreatDoor

/- Needs, of a name that is defined. -/
namespace Go.Proofs.YtbhiphjifdnhmaaGreatDoor
open Go.RowKit Go.Maps

/-- on what a name rests, as known on a day -/
def NeedsIs (l : List Df) (n : ByteArray) (known : Int) (L : List ByteArray) : Prop :=
  ∀ (m k : Nat) (w : World), k ≤ 1000 → MapIs w Tryz.prog 9 m k (bookV (bookF l known)) → Calls Tryz.prog 88 #[.map (some m), .string n] w (RetStrs w L)
set_option maxRecDepth 100000 in
set_option maxHeartbeats 2000000 in
theorem needs_ok {A : Option Addr} {cap : Nat} {l : List Df} (h : CalOk A cap l) (n : ByteArray) (hn : n.size ≤ maxLen) (known : Int) (w : World) (hD : Defs w w.heap.size A l) (hb : nameB n = true) (hk : dayB known = true) (L : List ByteArray) (hN : NeedsIs l n known L) (hd : (bookF l known n.data.toList).isSome = true) :
    Calls Tryz.prog 35 #[.slice A l.length cap, .string n, .int .i64 known] w (RetStrsE w L) := by
  have HN : Hid (NeedsIs l n known L) := hN
  have HD := Lib.hid hd
  obtain ⟨d, hde⟩ : ∃ d, d = (bookF l known n.data.toList).getD df0 := ⟨_, rfl⟩
  have HE := Lib.hid hde
  have kZ : ∀ W : World, Blk (W.alloc (.cells #[.string ⟨#[]⟩, .int .i64 0, .int .i64 0, .string ⟨#[]⟩, .string ⟨#[]⟩, .int .i64 0, .int .i64 0, .int .i64 0, .int .i64 0, .int .i64 0, .int .i64 0, .int .i64 0, .int .i64 0, .int .i64 0, .int .i64 0, .int .i64 0, .int .i64 0, .int .i64 0, .int .i64 0, .int .i64 0, .int .i64 0, .int .i64 0, .int .i64 0, .int .i64 0, .int .i64 0, .int .i64 0, .int .i64 0, .int .i64 0, .int .i64 0] 60)) W.heap.size 60 (dfA df0) := fun W => by rw [z60]; exact Blk.new _ _ _
  have hlk : ∀ (m k : Nat) (W : World), MapIs W Tryz.prog 9 m k (bookV (bookF l known)) → (Instr.lookup 130 (.map (some m)) (.string n) true).run Tryz.prog W = .ok (.tuple #[.agg (dfA d), .bool true]) W := fun m k W hm => by
    have := hm.look_ok keyT Tryz.underlying130 (zero60 W) (key_any n hn)
    rwa [bookV_get, ← HE.out, show (bookV (bookF l known) n.data.toList).isSome = true by simpa [bookV] using HD.out] at this
  have HL := Lib.hid hlk
  clear hN hd hde hlk
  go_enter Tryz.func35, Tryz.ntmps35
  go_wp2_with (first
    | (go_at_call 85; refine (checkName_ok h n hn known _ hD hb hk).mono ?_; rintro e w1 ⟨rfl, hb1⟩; have hD1 := hD.behind hb1)
    | (go_at_call 86; refine (bookOf_any A cap l known w1 (by have := h.len; omega) hD1 h.names).mono ?_; rintro e w2 ⟨m, k, rfl, hk2, hmw, hm2, hb2⟩; have hl2 := HL.out m k w2 hm2; have kZ2 := kZ w2; have hm3 := hm2.below (below_setRow (below_new w2 (.cells #[.string ⟨#[]⟩, .int .i64 0, .int .i64 0, .string ⟨#[]⟩, .string ⟨#[]⟩, .int .i64 0, .int .i64 0, .int .i64 0, .int .i64 0, .int .i64 0, .int .i64 0, .int .i64 0, .int .i64 0, .int .i64 0, .int .i64 0, .int .i64 0, .int .i64 0, .int .i64 0, .int .i64 0, .int .i64 0, .int .i64 0, .int .i64 0, .int .i64 0, .int .i64 0, .int .i64 0, .int .i64 0, .int .i64 0, .int .i64 0, .int .i64 0] 60)) (Nat.le_refl _) (dfA d)) hm2.lt)
    | (refine stD 10 26 rfl rfl kZ2 rfl rfl ?_)
    | (go_at_call 88; refine (HN.out m k _ hk2 hm3).mono ?_; rintro e w3 ⟨A3, c3, rfl, ho3, hb3⟩))
  go_ret2
  have hb4 : Below w.heap.size w _ := below_next (below_next hb1 hb1.size hb2) (by have := hb1.size; have := hb2.size; omega) (below_setRow (below_new w2 (.cells #[.string ⟨#[]⟩, .int .i64 0, .int .i64 0, .string ⟨#[]⟩, .string ⟨#[]⟩, .int .i64 0, .int .i64 0, .int .i64 0, .int .i64 0, .int .i64 0, .int .i64 0, .int .i64 0, .int .i64 0, .int .i64 0, .int .i64 0, .int .i64 0, .int .i64 0, .int .i64 0, .int .i64 0, .int .i64 0, .int .i64 0, .int .i64 0, .int .i64 0, .int .i64 0, .int .i64 0, .int .i64 0, .int .i64 0, .int .i64 0, .int .i64 0] 60)) (Nat.le_refl _) (dfA d))
  exact ⟨A3, c3, rfl, ho3.mono hb4.size, below_next hb4 hb4.size hb3⟩
end Go.Proofs.YtbhiphjifdnhmaaGreatDoor

