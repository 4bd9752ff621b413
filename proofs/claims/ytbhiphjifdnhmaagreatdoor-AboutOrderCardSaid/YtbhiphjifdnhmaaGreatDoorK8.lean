import Derived.Shelf.SlGeneric
import Derived.Shelf.SlIter.Nil
import Derived.Shelf.SortM.Plain
import Derived.Shelf.SortM.SortNone
import Derived.Ground.GgzProg
import Derived.Ground.SlgmProg
import Derived.Sort.KeysCollected
import Derived.Test.YtbhiphjifdnhmaaGreatDoorK4
set_option linter.unusedSimpArgs false
set_option linter.unusedVariables false
/- slices.Sorted of maps.Keys of a map with texts for keys: the keys, sorted. -/
namespace Go.Proofs
open Go.Shelf
def Tryz.keys130_ren : Go.Shelf.Ren := ⟨fun | 7 => 130 | 10 => 142 | n => n, fun | 23 => 162 | 26 => 9 | 3 => 4 | 28 => 146 | 0 => 0 | 27 => 145 | 33 => 151 | 4 => 4 | n => n, fun | n => n⟩
theorem Tryz.keys130 : Go.Proofs.SlLaysZ.n7 Tryz.prog Tryz.keys130_ren := {
  mixed := by kernel_rfl
  f7 := ⟨Tryz.f130.name, by decide, Tryz.func130.trans (congrArg some (by kernel_rfl))⟩
  f10 := ⟨Tryz.f142.name, by decide, Tryz.func142.trans (congrArg some (by kernel_rfl))⟩
  t0 := Tryz.underlying0
  a0 := Tryz.isAgg0
  z0 := Tryz.sizeOf0
  v0 := Tryz.zeroValue0
  t4 := Tryz.underlying4
  a4 := Tryz.isAgg4
  z4 := Tryz.sizeOf4
  v4 := Tryz.zeroValue4
  t23 := Tryz.underlying162
  a23 := Tryz.isAgg162
  z23 := Tryz.sizeOf162
  v23 := Tryz.zeroValue162
  t26 := Tryz.underlying9
  a26 := Tryz.isAgg9
  z26 := Tryz.sizeOf9
  v26 := Tryz.zeroValue9
  t27 := Tryz.underlying145
  a27 := Tryz.isAgg145
  z27 := Tryz.sizeOf145
  v27 := Tryz.zeroValue145
  t28 := Tryz.underlying146
  a28 := Tryz.isAgg146
  z28 := Tryz.sizeOf146
  v28 := Tryz.zeroValue146
  t33 := Tryz.underlying151
  a33 := Tryz.isAgg151
  z33 := Tryz.sizeOf151
  v33 := Tryz.zeroValue151 }
def Tryz.keys100_ren : Go.Shelf.Ren := ⟨fun | 7 => 100 | 10 => 138 | n => n, fun | 23 => 130 | 26 => 9 | 3 => 60 | 28 => 146 | 0 => 0 | 27 => 145 | 33 => 151 | 4 => 4 | n => n, fun | n => n⟩
theorem Tryz.keys100 : Go.Proofs.SlLaysZ.n7 Tryz.prog Tryz.keys100_ren := {
  mixed := by kernel_rfl
  f7 := ⟨Tryz.f100.name, by decide, Tryz.func100.trans (congrArg some (by kernel_rfl))⟩
  f10 := ⟨Tryz.f138.name, by decide, Tryz.func138.trans (congrArg some (by kernel_rfl))⟩
  t0 := Tryz.underlying0
  a0 := Tryz.isAgg0
  z0 := Tryz.sizeOf0
  v0 := Tryz.zeroValue0
  t4 := Tryz.underlying4
  a4 := Tryz.isAgg4
  z4 := Tryz.sizeOf4
  v4 := Tryz.zeroValue4
  t23 := Tryz.underlying130
  a23 := Tryz.isAgg130
  z23 := Tryz.sizeOf130
  v23 := Tryz.zeroValue130
  t26 := Tryz.underlying9
  a26 := Tryz.isAgg9
  z26 := Tryz.sizeOf9
  v26 := Tryz.zeroValue9
  t27 := Tryz.underlying145
  a27 := Tryz.isAgg145
  z27 := Tryz.sizeOf145
  v27 := Tryz.zeroValue145
  t28 := Tryz.underlying146
  a28 := Tryz.isAgg146
  z28 := Tryz.sizeOf146
  v28 := Tryz.zeroValue146
  t33 := Tryz.underlying151
  a33 := Tryz.isAgg151
  z33 := Tryz.sizeOf151
  v33 := Tryz.zeroValue151 }
def Tryz.sorted99_ren : Go.Shelf.Ren := ⟨fun | 6 => 99 | 8 => 136 | 9 => 137 | 11 => 156 | 13 => 132 | 12 => 157 | 23 => 152 | 24 => 153 | 14 => 165 | 15 => 166 | 16 => 167 | 17 => 168 | 18 => 169 | 19 => 170 | 20 => 171 | 21 => 172 | 22 => 173 | 25 => 175 | 26 => 161 | 27 => 162 | 28 => 176 | 29 => 177 | 30 => 178 | 31 => 179 | n => n, fun | 26 => 9 | 28 => 146 | 24 => 64 | 0 => 0 | 3 => 3 | 37 => 166 | 48 => 185 | 50 => 187 | 4 => 4 | 40 => 177 | 39 => 176 | 45 => 182 | 5 => 5 | 9 => 9 | 51 => 194 | 55 => 198 | 57 => 206 | 58 => 207 | 33 => 151 | n => n, fun | n => n⟩
theorem Tryz.sorted99 : Go.Proofs.SlLaysZ.n6 Tryz.prog Tryz.sorted99_ren := {
  mixed := by kernel_rfl
  f6 := ⟨Tryz.f99.name, by decide, Tryz.func99.trans (congrArg some (by kernel_rfl))⟩
  f8 := ⟨Tryz.f136.name, by decide, Tryz.func136.trans (congrArg some (by kernel_rfl))⟩
  f11 := ⟨Tryz.f156.name, by decide, Tryz.func156.trans (congrArg some (by kernel_rfl))⟩
  t0 := Tryz.underlying0
  a0 := Tryz.isAgg0
  z0 := Tryz.sizeOf0
  v0 := Tryz.zeroValue0
  t24 := Tryz.underlying64
  a24 := Tryz.isAgg64
  z24 := Tryz.sizeOf64
  v24 := Tryz.zeroValue64
  t26 := Tryz.underlying9
  a26 := Tryz.isAgg9
  z26 := Tryz.sizeOf9
  v26 := Tryz.zeroValue9
  t28 := Tryz.underlying146
  a28 := Tryz.isAgg146
  z28 := Tryz.sizeOf146
  v28 := Tryz.zeroValue146
  i26 := by kernel_rfl }
def Tryz.sort137_ren : Go.Shelf.Ren := ⟨fun | 6 => 137 | 8 => 132 | 9 => 157 | 19 => 152 | 20 => 153 | 21 => 165 | 22 => 166 | 23 => 167 | 24 => 168 | 25 => 169 | 26 => 170 | 27 => 171 | 28 => 172 | 29 => 173 | 36 => 175 | 31 => 161 | 32 => 162 | 37 => 176 | 38 => 177 | 39 => 178 | 41 => 179 | n => n, fun | 27 => 64 | 29 => 9 | 3 => 3 | 32 => 166 | 26 => 64 | 0 => 0 | 44 => 185 | 46 => 187 | 4 => 4 | 36 => 177 | 35 => 176 | 41 => 182 | 5 => 5 | 9 => 9 | 53 => 194 | 57 => 198 | 63 => 206 | 64 => 207 | n => n, fun | n => n⟩
theorem Tryz.sort137 : Go.Proofs.SlLaysM.n6 Tryz.prog Tryz.sort137_ren := {
  mixed := by kernel_rfl
  f6 := ⟨Tryz.f137.name, by decide, Tryz.func137.trans (congrArg some (by kernel_rfl))⟩
  f8 := Tryz.func132.trans (congrArg some (by kernel_rfl))
  f9 := ⟨Tryz.f157.name, by decide, Tryz.func157.trans (congrArg some (by kernel_rfl))⟩
  f19 := Tryz.func152.trans (congrArg some (by kernel_rfl))
  f20 := Tryz.func153.trans (congrArg some (by kernel_rfl))
  f21 := ⟨Tryz.f165.name, by decide, Tryz.func165.trans (congrArg some (by kernel_rfl))⟩
  f22 := ⟨Tryz.f166.name, by decide, Tryz.func166.trans (congrArg some (by kernel_rfl))⟩
  f23 := ⟨Tryz.f167.name, by decide, Tryz.func167.trans (congrArg some (by kernel_rfl))⟩
  f24 := ⟨Tryz.f168.name, by decide, Tryz.func168.trans (congrArg some (by kernel_rfl))⟩
  f25 := ⟨Tryz.f169.name, by decide, Tryz.func169.trans (congrArg some (by kernel_rfl))⟩
  f26 := ⟨Tryz.f170.name, by decide, Tryz.func170.trans (congrArg some (by kernel_rfl))⟩
  f27 := ⟨Tryz.f171.name, by decide, Tryz.func171.trans (congrArg some (by kernel_rfl))⟩
  f28 := ⟨Tryz.f172.name, by decide, Tryz.func172.trans (congrArg some (by kernel_rfl))⟩
  f29 := ⟨Tryz.f173.name, by decide, Tryz.func173.trans (congrArg some (by kernel_rfl))⟩
  f31 := Tryz.func161.trans (congrArg some (by kernel_rfl))
  f32 := Tryz.func162.trans (congrArg some (by kernel_rfl))
  f36 := ⟨Tryz.f175.name, by decide, Tryz.func175.trans (congrArg some (by kernel_rfl))⟩
  f37 := ⟨Tryz.f176.name, by decide, Tryz.func176.trans (congrArg some (by kernel_rfl))⟩
  f38 := ⟨Tryz.f177.name, by decide, Tryz.func177.trans (congrArg some (by kernel_rfl))⟩
  f39 := ⟨Tryz.f178.name, by decide, Tryz.func178.trans (congrArg some (by kernel_rfl))⟩
  f41 := ⟨Tryz.f179.name, by decide, Tryz.func179.trans (congrArg some (by kernel_rfl))⟩
  t0 := Tryz.underlying0
  a0 := Tryz.isAgg0
  z0 := Tryz.sizeOf0
  v0 := Tryz.zeroValue0
  t3 := Tryz.underlying3
  a3 := Tryz.isAgg3
  z3 := Tryz.sizeOf3
  v3 := Tryz.zeroValue3
  t4 := Tryz.underlying4
  a4 := Tryz.isAgg4
  z4 := Tryz.sizeOf4
  v4 := Tryz.zeroValue4
  t5 := Tryz.underlying5
  a5 := Tryz.isAgg5
  z5 := Tryz.sizeOf5
  v5 := Tryz.zeroValue5
  t9 := Tryz.underlying9
  a9 := Tryz.isAgg9
  z9 := Tryz.sizeOf9
  v9 := Tryz.zeroValue9
  t26 := Tryz.underlying64
  a26 := Tryz.isAgg64
  z26 := Tryz.sizeOf64
  v26 := Tryz.zeroValue64
  t27 := Tryz.underlying64
  a27 := Tryz.isAgg64
  z27 := Tryz.sizeOf64
  v27 := Tryz.zeroValue64
  t29 := Tryz.underlying9
  a29 := Tryz.isAgg9
  z29 := Tryz.sizeOf9
  v29 := Tryz.zeroValue9
  t32 := Tryz.underlying166
  a32 := Tryz.isAgg166
  z32 := Tryz.sizeOf166
  v32 := Tryz.zeroValue166
  t35 := Tryz.underlying176
  a35 := Tryz.isAgg176
  z35 := Tryz.sizeOf176
  v35 := Tryz.zeroValue176
  t36 := Tryz.underlying177
  a36 := Tryz.isAgg177
  z36 := Tryz.sizeOf177
  v36 := Tryz.zeroValue177
  t41 := Tryz.underlying182
  a41 := Tryz.isAgg182
  z41 := Tryz.sizeOf182
  v41 := Tryz.zeroValue182
  t44 := Tryz.underlying185
  a44 := Tryz.isAgg185
  z44 := Tryz.sizeOf185
  v44 := Tryz.zeroValue185
  t46 := Tryz.underlying187
  a46 := Tryz.isAgg187
  z46 := Tryz.sizeOf187
  v46 := Tryz.zeroValue187
  t53 := Tryz.underlying194
  a53 := Tryz.isAgg194
  z53 := Tryz.sizeOf194
  v53 := Tryz.zeroValue194
  t57 := Tryz.underlying198
  a57 := Tryz.isAgg198
  z57 := Tryz.sizeOf198
  v57 := Tryz.zeroValue198
  t63 := Tryz.underlying206
  a63 := Tryz.isAgg206
  z63 := Tryz.sizeOf206
  v63 := Tryz.zeroValue206
  t64 := Tryz.underlying207
  a64 := Tryz.isAgg207
  z64 := Tryz.sizeOf207
  v64 := Tryz.zeroValue207 }
end Go.Proofs
namespace Go.Proofs
open Go.RowKit Go.Maps Go.Sort Go.Shelf
theorem Tryz.sorts99 (m : Nat) : AnyZ.SortsIn Tryz.prog Tryz.sorted99_ren Fence.wide m :=
  ⟨fun blk off cap ss W hH hblk hsz => callsIn_wide.2 (AnyM.slices_Sort_string Tryz.sort137 blk off cap ss W hH hblk hsz),
   fun p cap W => callsIn_wide.2 (AnyM.slices_Sort_string_none Tryz.sort137 p cap W)⟩
theorem Tryz.maps_Keys_100 (mb : Option Nat) (W : World) : CallsIn Fence.wide 5 Tryz.prog 100 #[.map mb] W fun e w' => e = .returned (.func (.func 138) #[] #[.pointer (some ⟨W.heap.size, 0, none⟩)]) ∧ w' = W.alloc (.cells #[.map mb] 130) :=
  AnyZ.keys_in Tryz.keys100 Fence.wide 5 trivial rfl mb W
set_option maxHeartbeats 1000000 in
theorem Tryz.slices_Sorted_keys_99_100 {H : Type} (b nn : Nat) (D0 : DataW H) (R : Value → Option (DataW H × List MemPlace)) (w : World) (hown : w.ownsMap Tryz.prog 9 R b nn D0) (hmax : Maps.size D0 ≤ maxLen) (hbytes : Maps.size D0 * 16 ≤ 140737488355328) :
    CallsIn Fence.wide 5 Tryz.prog 99 #[.func (.func 138) #[] #[.pointer (some ⟨w.heap.size, 0, none⟩)]] (w.alloc (.cells #[.map (some b)] 130)) fun e w' => ∃ (v : Value) (ss : List (List UInt8)), e = .returned v ∧ ss.Perm (strKeys D0) ∧
      w'.ownsRow (w.alloc (.cells #[.map (some b)] 130)).heap.size 9 1 v ss.length ((ss.mergeSort (fun x y => decide (x ≤ y))).map encStr) ∧ (v = .slice none 0 0 ↔ ss = []) ∧ Below (w.alloc (.cells #[.map (some b)] 130)).heap.size (w.alloc (.cells #[.map (some b)] 130)) w' := by
  have hbl := hown.lt
  have hseq : SeqGives Fence.wide 2 Tryz.prog 138 #[.pointer (some ⟨w.heap.size, 0, none⟩)] encStr (fun ss => ss.Perm (strKeys D0)) (Maps.size D0) (w.alloc (.cells #[.map (some b)] 130)) :=
    AnyZ.keys_gives (ρ := Tryz.keys100_ren) { Tryz.keys100 with } Fence.wide _ trivial rfl (by omega) w.heap.size b nn D0 _ (by simp) (by simp) (by
      obtain ⟨es, clock, hb, Ft, hs, hD⟩ := hown
      exact ⟨es, clock, (Below.heap_alloc _ _ b hbl).trans hb, Ft, hs, hD⟩)
  exact AnyZ.sorted_in Tryz.sorted99 Fence.wide 5 trivial trivial trivial trivial rfl (by omega) (Tryz.sorts99 _) (enters_of Tryz.func137 (by kernel_rfl) rfl) 138 #[.pointer (some ⟨w.heap.size, 0, none⟩)] trivial (enters_of Tryz.func138 (by kernel_rfl) rfl) _ _ hmax hbytes _ hseq
theorem Tryz.maps_Keys_130 (mb : Option Nat) (W : World) : CallsIn Fence.wide 5 Tryz.prog 130 #[.map mb] W fun e w' => e = .returned (.func (.func 142) #[] #[.pointer (some ⟨W.heap.size, 0, none⟩)]) ∧ w' = W.alloc (.cells #[.map mb] 162) :=
  AnyZ.keys_in Tryz.keys130 Fence.wide 5 trivial rfl mb W
set_option maxHeartbeats 1000000 in
theorem Tryz.slices_Sorted_keys_99_130 {H : Type} (b nn : Nat) (D0 : DataW H) (R : Value → Option (DataW H × List MemPlace)) (w : World) (hown : w.ownsMap Tryz.prog 9 R b nn D0) (hmax : Maps.size D0 ≤ maxLen) (hbytes : Maps.size D0 * 16 ≤ 140737488355328) :
    CallsIn Fence.wide 5 Tryz.prog 99 #[.func (.func 142) #[] #[.pointer (some ⟨w.heap.size, 0, none⟩)]] (w.alloc (.cells #[.map (some b)] 162)) fun e w' => ∃ (v : Value) (ss : List (List UInt8)), e = .returned v ∧ ss.Perm (strKeys D0) ∧
      w'.ownsRow (w.alloc (.cells #[.map (some b)] 162)).heap.size 9 1 v ss.length ((ss.mergeSort (fun x y => decide (x ≤ y))).map encStr) ∧ (v = .slice none 0 0 ↔ ss = []) ∧ Below (w.alloc (.cells #[.map (some b)] 162)).heap.size (w.alloc (.cells #[.map (some b)] 162)) w' := by
  have hbl := hown.lt
  have hseq : SeqGives Fence.wide 2 Tryz.prog 142 #[.pointer (some ⟨w.heap.size, 0, none⟩)] encStr (fun ss => ss.Perm (strKeys D0)) (Maps.size D0) (w.alloc (.cells #[.map (some b)] 162)) :=
    AnyZ.keys_gives (ρ := Tryz.keys130_ren) { Tryz.keys130 with } Fence.wide _ trivial rfl (by omega) w.heap.size b nn D0 _ (by simp) (by simp) (by
      obtain ⟨es, clock, hb, Ft, hs, hD⟩ := hown
      exact ⟨es, clock, (Below.heap_alloc _ _ b hbl).trans hb, Ft, hs, hD⟩)
  exact AnyZ.sorted_in Tryz.sorted99 Fence.wide 5 trivial trivial trivial trivial rfl (by omega) (Tryz.sorts99 _) (enters_of Tryz.func137 (by kernel_rfl) rfl) 142 #[.pointer (some ⟨w.heap.size, 0, none⟩)] trivial (enters_of Tryz.func142 (by kernel_rfl) rfl) _ _ hmax hbytes _ hseq
end Go.Proofs
namespace Go.Proofs.YtbhiphjifdnhmaaGreatDoor
open Go.RowKit Go.Maps

theorem strKeys_mem {D : DataW Value} {w : World} {b n : Nat} (h : w.ownsMap Tryz.prog 9 heldR b n D) (x : List UInt8) : x ∈ strKeys D ↔ Maps.has D (.string x) = true := by
  obtain ⟨es, rfl, hko⟩ := h.keysOf
  rw [has_eq, List.any_eq_true]
  show x ∈ es.map (fun p => strOf p.1) ↔ _
  rw [List.mem_map]
  constructor
  · rintro ⟨p, hp, rfl⟩
    obtain ⟨v, hv⟩ := hko p hp
    obtain ⟨y, _, hy, _⟩ := Maps.keyOf_str Tryz.underlying9 hv
    exact ⟨p, hp, by rw [hy]; simp [Lit.sameKey, strOf]⟩
  · rintro ⟨p, hp, hs⟩
    obtain ⟨v, hv⟩ := hko p hp
    obtain ⟨y, _, hy, _⟩ := Maps.keyOf_str Tryz.underlying9 hv
    rw [hy] at hs
    exact ⟨p, hp, by rw [hy]; simpa [Lit.sameKey, strOf] using hs⟩
theorem strKeys_nodup {D : DataW Value} {w : World} {b n : Nat} (h : w.ownsMap Tryz.prog 9 heldR b n D) : (strKeys D).Nodup := by
  obtain ⟨es, hD, hpw, _⟩ := h.entries keyT
  obtain ⟨es', hD', hko⟩ := h.keysOf
  obtain rfl : es = es' := by rw [hD] at hD'; simpa using hD'
  subst hD
  refine List.pairwise_map.2 (hpw.imp_of_mem fun {p q} hp hq hne e => hne ?_)
  obtain ⟨v, hv⟩ := hko p hp
  obtain ⟨a, _, ha, _⟩ := Maps.keyOf_str Tryz.underlying9 hv
  obtain ⟨u, hu⟩ := hko q hq
  obtain ⟨b, _, hb, _⟩ := Maps.keyOf_str Tryz.underlying9 hu
  rw [ha, hb] at e ⊢
  exact congrArg _ e
/-- the keys of a map, sorted -/
def KeysL (f : List UInt8 → Option Value) (L : List ByteArray) : Prop :=
  L.Pairwise (fun x y => x.data.toList < y.data.toList) ∧ ∀ s, (f s).isSome = true ↔ ∃ x ∈ L, x.data.toList = s
theorem bytes_eq {x y : ByteArray} (h : x.data.toList = y.data.toList) : x = y := by
  cases x; cases y
  congr
  exact Array.ext' h
/-- only one list is that -/
theorem KeysL.one {f : List UInt8 → Option Value} {L M : List ByteArray} (h : KeysL f L) (g : KeysL f M) : L = M := by
  have hp : ∀ {L : List ByteArray}, L.Pairwise (fun x y => x.data.toList < y.data.toList) → L.Nodup := fun h => h.imp fun {x y} hxy e => by rw [e] at hxy; exact List.lt_irrefl _ hxy
  have hperm : L.Perm M := (List.perm_ext_iff_of_nodup (hp h.1) (hp g.1)).2 fun x => by
    constructor
    · intro hx
      obtain ⟨y, hy, e⟩ := (g.2 _).1 ((h.2 x.data.toList).2 ⟨x, hx, rfl⟩)
      rwa [← bytes_eq e]
    · intro hx
      obtain ⟨y, hy, e⟩ := (h.2 _).1 ((g.2 x.data.toList).2 ⟨x, hx, rfl⟩)
      rwa [← bytes_eq e]
  exact List.Perm.eq_of_pairwise (le := fun x y : ByteArray => x.data.toList < y.data.toList) (fun a b _ _ h1 h2 => absurd (List.lt_trans h1 h2) (List.lt_irrefl _)) h.1 g.1 hperm
theorem keys_sorted {f : List UInt8 → Option Value} {w : World} {b n : Nat} {D : DataW Value} (h : w.ownsMap Tryz.prog 9 heldR b n D)
    (hf : ∀ s : List UInt8, (∀ v, f s = some v → Maps.has D (.string s) = true ∧ ∀ z, D.atKey (.string s) z = .held v) ∧ (f s = none → Maps.has D (.string s) = false)) (ss : List (List UInt8)) (hp : ss.Perm (strKeys D)) :
    KeysL f ((ss.mergeSort (fun x y => decide (x ≤ y))).map fun x => (⟨x.toArray⟩ : ByteArray)) := by
  have tr : ∀ a b c : List UInt8, decide (a ≤ b) = true → decide (b ≤ c) = true → decide (a ≤ c) = true := fun a b c h1 h2 => by simp only [decide_eq_true_eq] at *; exact List.le_trans h1 h2
  have tot : ∀ a b : List UInt8, (decide (a ≤ b) || decide (b ≤ a)) = true := fun a b => by simp only [Bool.or_eq_true, decide_eq_true_eq]; exact List.le_total a b
  have hpw := List.pairwise_mergeSort tr tot ss
  have hpm := List.mergeSort_perm ss (fun x y => decide (x ≤ y))
  have hnd : (ss.mergeSort (fun x y => decide (x ≤ y))).Nodup := (hpm.trans hp).nodup_iff.2 (strKeys_nodup h)
  refine ⟨List.pairwise_map.2 ?_, fun s => ?_⟩
  · have := hpw.and hnd
    refine this.imp fun {x y} hxy => ?_
    simp only [decide_eq_true_eq] at hxy
    show x < y
    rcases List.le_iff_lt_or_eq.1 hxy.1 with e | e
    · exact e
    · exact absurd e hxy.2
  · have hm : s ∈ ss.mergeSort (fun x y => decide (x ≤ y)) ↔ Maps.has D (.string s) = true := (hpm.trans hp).mem_iff.trans (strKeys_mem h s)
    have hs : (f s).isSome = true ↔ Maps.has D (.string s) = true := by
      cases hq : f s with
      | none => simp [(hf s).2 hq]
      | some v => simp [((hf s).1 v hq).1]
    rw [hs, ← hm]
    constructor
    · intro hx
      exact ⟨_, List.mem_map.2 ⟨s, hx, rfl⟩, rfl⟩
    · rintro ⟨x, hx, rfl⟩
      obtain ⟨y, hy, rfl⟩ := List.mem_map.1 hx
      exact hy
/-- 'slices.Sorted(maps.Keys(m))' at map[string]bool, at the list that it must be -/
theorem sorted130 {b n : Nat} {f : List UInt8 → Option Value} {w : World} (h : MapIs w Tryz.prog 9 b n f) (hn : n ≤ 1000000) (L : List ByteArray) (hL : KeysL f L) :
    CallsIn Fence.wide 5 Tryz.prog 99 #[.func (.func 142) #[] #[.pointer (some ⟨w.heap.size, 0, none⟩)]] (w.alloc (.cells #[.map (some b)] 162)) fun e w' => ∃ A c, e = .returned (.slice A L.length c) ∧ w'.ownsRow w.heap.size 9 1 (.slice A L.length c) L.length (L.map Value.string) ∧ Below w.heap.size w w' := by
  obtain ⟨D, h1, h2⟩ := h
  have hsz := h1.size_le
  refine (Tryz.slices_Sorted_keys_99_130 b n D heldR w h1 (by unfold maxLen; omega) (by omega)).mono ?_
  rintro e w' ⟨v, ss, rfl, hp, hrow, _, hb⟩
  have hE := (keys_sorted h1 h2 ss hp).one hL
  have hlen : ss.length = L.length := by rw [← hE, List.length_map, List.length_mergeSort]
  have hmap : (ss.mergeSort (fun x y => decide (x ≤ y))).map encStr = L.map Value.string := by rw [← hE, List.map_map]; rfl
  rw [hlen, hmap] at hrow
  have hb0 : Below w.heap.size w w' := (below_new w _).trans (hb.mono (by simp))
  obtain ⟨A, c, rfl, _⟩ := own_form hrow
  exact ⟨A, c, rfl, ownsRow_base_a hrow (by simp), hb0⟩
end Go.Proofs.YtbhiphjifdnhmaaGreatDoor

/- Appends of texts; needs, of a name that rests on at most one other, which rests on none. -/
namespace Go.Proofs.YtbhiphjifdnhmaaGreatDoor
open Go.RowKit Go.Maps

theorem st_info : (Tryz.prog.info? 9).map (fun i => (i.zero.map (·.cells.size), i.size, i.bytes)) = some (some 1, 1, 16) := by kernel_rfl
theorem st_parts : ∃ i z, Tryz.prog.info? 9 = some i ∧ i.zero = some z ∧ z.cells.size = 1 ∧ i.size = 1 ∧ i.bytes = 16 := by
  have h := st_info
  cases hq : Tryz.prog.info? 9 with
  | none => simp [hq] at h
  | some i =>
    simp only [hq, Option.map_some, Option.some.injEq, Prod.mk.injEq] at h
    obtain ⟨h0, h1, h2⟩ := h
    cases hz : i.zero with
    | none => simp [hz] at h0
    | some z => exact ⟨i, z, rfl, hz, by simpa [hz] using h0, h1, h2⟩
/-- 'append(l, none...)' -/
theorem run_app0 {w : World} (A A2 : Option Addr) (n c c2 : Nat) (hnc : n ≤ c) : (Builtin.append_ #[64, 64] 64 #[.slice A n c, .slice A2 0 c2]).run Tryz.prog w = .ok (.slice A n c) w := by
  obtain ⟨i, z, hi, hz, hzs, h1, h2⟩ := st_parts
  cases A <;> cases A2 <;> simp [Builtin.append_, run_underlying Tryz.underlying64, sizeOf, typeInfo, hi, Builtin.lenOf, Builtin.firstCells, hnc, storeCells, loadCells, loadCellsFrom]
theorem wpl_app0 {ops : Array Oper} {rest : List Oper} {o : Oper} {a : Act} {Q : Exit → Act → World → Prop} {w : World} (hgd : o.guard = none) (s x : Operand)
    (ho : o.op = .call { callee := .builtin .append, args := #[s, x], argTypes := #[64, 64] }) (ht : o.type = 64) (A A2 : Option Addr) (n c c2 : Nat) (hnc : n ≤ c) (hs : a.eval s = .slice A n c) (hx : a.eval x = .slice A2 0 c2)
    (h : wpList Tryz.prog ops Q rest (a.put o.dst (.slice A n c)) w) : wpList Tryz.prog ops Q (o :: rest) a w :=
  wpList_plain hgd fun _ hK => by
    unfold Oper.wp execOp
    simp only [ho, ht, resolve, invoke, builtin, Sem.run_bind, Sem.run_pure, Result.andThen_ok, List.map_toArray, List.map_cons, List.map_nil, hs, hx, run_app0 A A2 n c c2 hnc]
    exact hK _ _ h
/-- 'l = append(l, s)' -/
theorem wpl_appS {ops : Array Oper} {rest : List Oper} {o : Oper} {a : Act} {Q : Exit → Act → World → Prop} {w : World} (hgd : o.guard = none) (s x : Operand)
    (ho : o.op = .call { callee := .builtin .append, args := #[s, x], argTypes := #[64, 64] }) (base : Nat) (v : Value) (l : List ByteArray) (d : ByteArray)
    (hs : a.eval s = v) (hown : w.ownsRow base 9 1 v l.length (l.map Value.string)) (g : Nat) (hx : a.eval x = .slice (some ⟨g, 0, none⟩) 1 1) (hg : w.cell? ⟨g, 0, none⟩ = some (.string d)) (hl : l.length ≤ 1000000) (hbase : base ≤ w.heap.size)
    (h : ∀ g' c' w', w'.ownsRow base 9 1 (.slice (some ⟨g', 0, none⟩) (l ++ [d]).length c') (l ++ [d]).length ((l ++ [d]).map Value.string) → w.grownBy w' v.ownBlock → (some g' = v.ownBlock ∨ g' = w.heap.size) → wpList Tryz.prog ops Q rest (a.put o.dst (.slice (some ⟨g', 0, none⟩) (l ++ [d]).length c')) w') :
    wpList Tryz.prog ops Q (o :: rest) a w :=
  wpList_plain hgd fun K hK => by
    obtain ⟨i, z, hi, hz, hzs, h1, h2⟩ := st_parts
    obtain ⟨v', w', hr, q1, q2, _, q4⟩ := run_append_own_at (P := Tryz.prog) w base 64 o.type 9 i z 1 16 Tryz.underlying64 hi hz h1 h2 hzs (by decide) v l.length (l.map Value.string) hown ⟨g, 0, none⟩ 1 1 [.string d] rfl (fun j u hj => by
        match j with
        | 0 => simpa [Addr.add] using hj ▸ hg
        | j + 1 => simp at hj) (by simp [Value.oneCell']) (by simp only [maxLen]; omega) (by omega) hbase
    have q1' : w'.ownsRow base 9 1 v' (l ++ [d]).length ((l ++ [d]).map Value.string) := by rw [List.map_append, List.length_append]; exact q1
    obtain ⟨g', c', rfl, _⟩ := own_shape q1' (by simp)
    unfold Oper.wp execOp
    simp only [ho, resolve, invoke, builtin, Sem.run_bind, Sem.run_pure, Result.andThen_ok, List.map_toArray, List.map_cons, List.map_nil, hs, hx, hr]
    refine hK _ _ (h g' c' w' q1' q2 ?_)
    rcases q4 with q4 | q4
    · exact .inl q4
    · exact .inr (by simpa [Value.ownBlock] using q4)
end Go.Proofs.YtbhiphjifdnhmaaGreatDoor

/- needs, of a name that rests on at most one other, which rests on none. -/
namespace Go.Proofs.YtbhiphjifdnhmaaGreatDoor
open Go.RowKit Go.Maps

theorem zero4b (w : World) : (zeroValue 4).run Tryz.prog w = .ok (.bool false) w := by kernel_rfl
theorem keysL_none : KeysL (fun _ => none) [] := ⟨List.Pairwise.nil, fun s => by simp⟩
theorem keysL_one (p : ByteArray) (v : Value) : KeysL (fun s => if s = p.data.toList then some v else none) [p] := by
  refine ⟨by simp, fun s => ?_⟩
  by_cases e : s = p.data.toList
  · simp [e]
  · simp [e]
    exact fun h => e h.symm
def lenOfV : Value → Nat
  | .slice _ n _ => n
  | _ => 0

set_option maxRecDepth 100000 in
set_option maxHeartbeats 1000000 in
theorem needs_flat1 (b : List UInt8 → Option Df) (m n0 : Nat) (n p : ByteArray) (w : World) (hm : MapIs w Tryz.prog 9 m n0 (bookV b)) (hn : n.size ≤ maxLen) (hps : p.size ≤ maxLen) (hp : partsL b n.data.toList = [p]) (hq : partsL b p.data.toList = []) :
    Calls Tryz.prog 88 #[.map (some m), .string n] w (RetStrs w [p]) := by
  have hmm := @run_makeMap Tryz.prog
  have hP := Lib.hid hp
  have hQ := Lib.hid hq
  clear hp hq
  have hml := hm.lt
  have hm0 : MapIs (w.alloc (.map #[] 0)) Tryz.prog 9 m n0 (bookV b) := hm.alloc _
  have hf0 : MapIs (w.alloc (.map #[] 0)) Tryz.prog 9 w.heap.size 0 (fun _ => none) := MapIs.made w Tryz.prog 9
  have hb0 := below_new w (.map #[] 0)
  go_enter Tryz.func88, Tryz.ntmps88
  go_wp2_with (go_at_call 129; refine (parts_any b m n0 n _ hm0 hn).mono ?_; rw [hP.out]; rintro e w1 ⟨A, c, rfl, ho, hb1⟩)
  have hz0 : (w.alloc (.map #[] 0)).heap.size = w.heap.size + 1 := by simp
  have hS1 : Strs w1 w1.heap.size A [p] := Strs.of_own ho
  obtain ⟨_, _, e1, hc1, hc2⟩ := own_form ho
  injection e1 with e1 e2 e3
  subst e1 e3
  clear e2
  have hf1 := hf0.below hb1 (by omega)
  have hbw1 := hb0.trans (hb1.mono (by omega))
  clear ho hb1 hf0 hb0 hz0 hm0
  go_loopw [6] (fun t6 wq => ∃ (A : Option Addr) (c : Nat) (L : List ByteArray), t6 = .slice A L.length c ∧ L.length ≤ c ∧ c ≤ maxLen ∧ Strs wq wq.heap.size A L ∧ ((L = [p] ∧ MapIs wq Tryz.prog 9 w.heap.size 0 (fun _ => none)) ∨ (L = [] ∧ MapIs wq Tryz.prog 9 w.heap.size 1 (fun s => if s = p.data.toList then some (.bool true) else none))) ∧ Below w.heap.size w wq) (fun t6 _ => lenOfV t6)
  case atStart => exact ⟨A, c, [p], rfl, hc1, hc2, hS1, .inl ⟨rfl, hf1⟩, hbw1⟩
  case round =>
    obtain ⟨A2, c2, L, rfl, hc3, hc4, hS2, hL, hb2⟩ := hrel
    clear hS1 hf1 hbw1 hc1 hc2
    rcases hL with ⟨rfl, hf2⟩ | ⟨rfl, hf2⟩
    · obtain ⟨ad, rfl, hab, hcell⟩ := hS2 0 p rfl
      have hcell0 : wr.cell? ad = some (.string p) := by simpa [Addr.add] using hcell
      have hlk := hf2.look keyT Tryz.underlying162 (zero4b wr) (key_any p hps)
      simp at hc3
      have hnc0 : (1 ≤ c2) := hc3
      have hf2l := hf2.lt
      by_cases hc5 : c2 = 1
      · subst hc5
        go_wp2_with (first
          | (refine wpl_put rfl (.tmp 24) (.tmp 25) (.const (.bool true)) 162 4 rfl Tryz.underlying162 hf2 (by decide) p hps (.bool true) rfl rfl rfl ?_; intro w2 hf3 hg2 hz2)
          | (go_at_call 129; refine (parts_any b m n0 p _ ((hm.below hb2 hml).kept hg2 (by simp; omega)) hps).mono ?_; rw [hQ.out]; rintro e w3 ⟨A3, c3, rfl, ho3, hb3⟩)
          | (refine wpl_app0 rfl (.tmp 26) (.tmp 29) rfl rfl _ A3 0 _ c3 (by omega) rfl rfl ?_))
        have hb4 := below_next (hb2.grown hg2 hb2.size (fun i e => by injection e with e; omega)) (by omega) hb3
        have hf4 := hf3.below hb3 (by omega)
        go_roundw
        case rel => exact ⟨_, _, [], rfl, by simp, by omega, Strs.nil, .inr ⟨rfl, hf4⟩, hb4⟩
        case measure => simp [lenOfV]
      · have hc6 : ¬ (1 : Nat) = c2 := fun e => hc5 e.symm
        go_wp2_with (first
          | (refine wpl_put rfl (.tmp 24) (.tmp 25) (.const (.bool true)) 162 4 rfl Tryz.underlying162 hf2 (by decide) p hps (.bool true) rfl rfl rfl ?_; intro w2 hf3 hg2 hz2)
          | (go_at_call 129; refine (parts_any b m n0 p _ ((hm.below hb2 hml).kept hg2 (by simp; omega)) hps).mono ?_; rw [hQ.out]; rintro e w3 ⟨A3, c3, rfl, ho3, hb3⟩)
          | (refine wpl_app0 rfl (.tmp 26) (.tmp 29) rfl rfl _ A3 0 _ c3 (by omega) rfl rfl ?_))
        have hb4 := below_next (hb2.grown hg2 hb2.size (fun i e => by injection e with e; omega)) (by omega) hb3
        have hf4 := hf3.below hb3 (by omega)
        go_roundw
        case rel => exact ⟨_, _, [], rfl, by simp, by omega, Strs.nil, .inr ⟨rfl, hf4⟩, hb4⟩
        case measure => simp [lenOfV]
    · have hsz2 : w.heap.size < wr.heap.size := hf2.lt
      go_wp2_with (first
        | (go_at_call 130; refine (callsIn_wide.1 (Tryz.maps_Keys_130 (some w.heap.size) _)).mono ?_; rintro e w2 ⟨rfl, rfl⟩)
        | (go_at_call 99; refine (callsIn_wide.1 (sorted130 hf2 (by omega) [p] (keysL_one p _))).mono ?_; rintro e w3 ⟨A3, c3, rfl, ho3, hb3⟩))
      go_ret
      exact ⟨A3, c3, rfl, ownsRow_base_a ho3 (by omega), below_next hb2 (by omega) hb3⟩
end Go.Proofs.YtbhiphjifdnhmaaGreatDoor

/- needs, of a name that rests on none; whole. -/
namespace Go.Proofs.YtbhiphjifdnhmaaGreatDoor
open Go.RowKit Go.Maps

set_option maxRecDepth 100000 in
set_option maxHeartbeats 1000000 in
theorem needs_flat0 (b : List UInt8 → Option Df) (m n0 : Nat) (n : ByteArray) (w : World) (hm : MapIs w Tryz.prog 9 m n0 (bookV b)) (hn : n.size ≤ maxLen) (hp : partsL b n.data.toList = []) :
    Calls Tryz.prog 88 #[.map (some m), .string n] w (RetStrs w []) := by
  have hmm := @run_makeMap Tryz.prog
  have hP := Lib.hid hp
  clear hp
  have hml := hm.lt
  have hm0 : MapIs (w.alloc (.map #[] 0)) Tryz.prog 9 m n0 (bookV b) := hm.alloc _
  have hf0 : MapIs (w.alloc (.map #[] 0)) Tryz.prog 9 w.heap.size 0 (fun _ => none) := MapIs.made w Tryz.prog 9
  have hb0 := below_new w (.map #[] 0)
  go_enter Tryz.func88, Tryz.ntmps88
  go_wp2_with (go_at_call 129; refine (parts_any b m n0 n _ hm0 hn).mono ?_; rw [hP.out]; rintro e w1 ⟨A, c, rfl, ho, hb1⟩)
  have hz0 : (w.alloc (.map #[] 0)).heap.size = w.heap.size + 1 := by simp
  have hf1 := hf0.below hb1 (by omega)
  have hbw1 := hb0.trans (hb1.mono (by omega))
  clear ho hb1 hf0 hb0 hz0 hm0
  go_loopw [6] (fun t6 wq => t6 = .slice A 0 c ∧ MapIs wq Tryz.prog 9 w.heap.size 0 (fun _ => none) ∧ Below w.heap.size w wq) (fun t6 _ => lenOfV t6)
  case atStart => exact ⟨rfl, hf1, hbw1⟩
  case round =>
    obtain ⟨rfl, hf2, hb2⟩ := hrel
    have hsz2 : w.heap.size < wr.heap.size := hf2.lt
    go_wp2_with (first
      | (go_at_call 130; refine (callsIn_wide.1 (Tryz.maps_Keys_130 (some w.heap.size) _)).mono ?_; rintro e w2 ⟨rfl, rfl⟩)
      | (go_at_call 99; refine (callsIn_wide.1 (sorted130 hf2 (by omega) [] keysL_none)).mono ?_; rintro e w3 ⟨A3, c3, rfl, ho3, hb3⟩))
    go_ret
    exact ⟨A3, c3, rfl, ownsRow_base_a ho3 (by omega), below_next hb2 (by omega) hb3⟩

/-- is a name, with all of a list, defined -/
def wholeB (b : List UInt8 → Option Df) (L : List ByteArray) : Bool := L.all fun x => (b x.data.toList).isSome
set_option maxRecDepth 100000 in
set_option maxHeartbeats 1000000 in
theorem whole_any (b : List UInt8 → Option Df) (m n0 : Nat) (n : ByteArray) (L : List ByteArray) (w : World) (hm : MapIs w Tryz.prog 9 m n0 (bookV b)) (hn : n.size ≤ maxLen) (hL : ∀ x ∈ L, x.size ≤ maxLen) (hlen : L.length ≤ 1000) (hN : Calls Tryz.prog 88 #[.map (some m), .string n] w (RetStrs w L)) :
    Calls Tryz.prog 126 #[.map (some m), .string n] w fun e w' => e = .returned (.bool (wholeB b (L ++ [n]))) ∧ Below w.heap.size w w' := by
  have hml := hm.lt
  have HN := Lib.hid hN
  obtain ⟨M, hM⟩ : ∃ M, M = L ++ [n] := ⟨_, rfl⟩
  have hMs : ∀ x ∈ M, x.size ≤ maxLen := by
    intro x hx
    rw [hM, List.mem_append, List.mem_singleton] at hx
    rcases hx with h | rfl
    · exact hL x h
    · exact hn
  have hMl : M.length ≤ 1001 := by rw [hM]; simp; omega
  rw [← hM]
  have HM := Lib.hid hM
  clear hM hN hL
  obtain ⟨R, hR⟩ : ∃ R, R = wholeB b M := ⟨_, rfl⟩
  rw [← hR]
  have HR := Lib.hid hR
  clear hR
  go_enter Tryz.func126, Tryz.ntmps126
  go_wp2_with (first
    | (go_at_call 88; refine HN.out.mono ?_; rintro e w1 ⟨A, c, rfl, ho, hb1⟩)
    | (refine wpl_appS rfl (.tmp 11) (.tmp 13) rfl w.heap.size (.slice A L.length c) L n rfl (own_below ho (below_new w1 (.cells #[.string n] 9))) w1.heap.size rfl ((Blk.new w1 9 #[.string n]).cell 0) (by omega) (by have := hb1.size; simp; omega) ?_; rw [← HM.out]; intro g2 c2 w2 ho2 hg2 hat2))
  have hb2 : Below w.heap.size w w2 := (hb1.alloc hb1.size _).grown hg2 (by have := hb1.size; simp; omega) (fun i e => (ho.lt i e).1)
  have hS2 : Strs w2 w2.heap.size (some ⟨g2, 0, none⟩) M := Strs.of_own ho2
  have hR0 : Hid (R = wholeB b (M.drop 0)) := HR
  clear ho hb1 hg2 hat2 ho2 HM HN
  go_loopw [16] (fun t16 wq => ∃ k : Nat, k ≤ M.length ∧ t16 = .int .i64 k ∧ Hid (R = wholeB b (M.drop k)) ∧ Below w2.heap.size w2 wq) (fun t16 _ => M.length - (intOf t16).toNat)
  case atStart => exact ⟨0, by omega, rfl, hR0, Below.refl _ _⟩
  case round =>
    obtain ⟨k, hk, rfl, hRk, hb3⟩ := hrel
    clear hR0
    by_cases hlt : k < M.length
    · obtain ⟨ad, e1, hab, hcell⟩ := hS2.get hlt
      injection e1 with e1
      subst e1
      obtain ⟨x, hx⟩ : ∃ x, x = M[k] := ⟨_, rfl⟩
      have hxs : x.size ≤ maxLen := hMs x (hx ▸ List.getElem_mem hlt)
      have hdr : wholeB b (M.drop k) = ((b x.data.toList).isSome && wholeB b (M.drop (k + 1))) := by
        rw [List.drop_eq_getElem_cons hlt, ← hx]; rfl
      rw [← hx] at hcell
      have hcell3 : wr.cell? ⟨g2, k, none⟩ = some (.string x) := by
        have := (hb3.cell (p := (Addr.mk g2 0 none).add k) (by rw [addr_block]; exact hab)).trans hcell
        rw [Addr.add_mid, Nat.zero_add] at this
        exact this
      have hD := Lib.hid hdr
      clear hdr hx hcell
      have hm3 : MapIs wr Tryz.prog 9 m n0 (bookV b) := (hm.below hb2 hml).below hb3 (by have := hb2.size; omega)
      have hlk := hm3.look_ok keyT Tryz.underlying130 (zero60 wr) (key_any x hxs)
      rw [bookV_get, show (bookV b x.data.toList).isSome = (b x.data.toList).isSome by simp [bookV]] at hlk
      obtain ⟨d, hd⟩ : ∃ d, d = (b x.data.toList).getD df0 := ⟨_, rfl⟩
      rw [← hd] at hlk
      clear hd
      have kZ : Blk (wr.alloc (.cells #[.string ⟨#[]⟩, .int .i64 0, .int .i64 0, .string ⟨#[]⟩, .string ⟨#[]⟩, .int .i64 0, .int .i64 0, .int .i64 0, .int .i64 0, .int .i64 0, .int .i64 0, .int .i64 0, .int .i64 0, .int .i64 0, .int .i64 0, .int .i64 0, .int .i64 0, .int .i64 0, .int .i64 0, .int .i64 0, .int .i64 0, .int .i64 0, .int .i64 0, .int .i64 0, .int .i64 0, .int .i64 0, .int .i64 0, .int .i64 0, .int .i64 0] 60)) wr.heap.size 60 (dfA df0) := by rw [z60]; exact Blk.new _ _ _
      have hb4 : Below wr.heap.size wr ((wr.alloc (.cells #[.string ⟨#[]⟩, .int .i64 0, .int .i64 0, .string ⟨#[]⟩, .string ⟨#[]⟩, .int .i64 0, .int .i64 0, .int .i64 0, .int .i64 0, .int .i64 0, .int .i64 0, .int .i64 0, .int .i64 0, .int .i64 0, .int .i64 0, .int .i64 0, .int .i64 0, .int .i64 0, .int .i64 0, .int .i64 0, .int .i64 0, .int .i64 0, .int .i64 0, .int .i64 0, .int .i64 0, .int .i64 0, .int .i64 0, .int .i64 0, .int .i64 0] 60)).setRow wr.heap.size (dfA d)) := below_setRow (below_new _ _) (Nat.le_refl _) _
      cases hs : (b x.data.toList).isSome
      · rw [hs] at hlk
        go_wp2_with (refine stD 7 24 rfl rfl kZ rfl rfl ?_)
        go_ret
        exact ⟨ret_bool (by rw [hRk.out, hD.out, hs]; rfl), below_next hb2 (by have := hb2.size; omega) (below_next hb3 hb3.size hb4)⟩
      · rw [hs] at hlk
        go_wp2_with (refine stD 7 24 rfl rfl kZ rfl rfl ?_)
        go_roundw
        case rel => exact ⟨k + 1, by omega, by go_num, Lib.hid (by rw [hRk.out, hD.out, hs]; rfl), below_next hb3 hb3.size hb4⟩
        case measure => simp [intOf]; omega
    · obtain rfl : k = M.length := by omega
      go_wp2
      go_ret
      exact ⟨ret_bool (by rw [hRk.out, List.drop_length]; rfl), below_next hb2 hb2.size hb3⟩
end Go.Proofs.YtbhiphjifdnhmaaGreatDoor

