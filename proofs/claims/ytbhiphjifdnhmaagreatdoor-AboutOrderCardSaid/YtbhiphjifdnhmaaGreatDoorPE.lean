import Derived.Test.YtbhiphjifdnhmaaGreatDoorPD
import Derived.Test.YtbhiphjifdnhmaaGreatDoorPC
import Derived.Test.YtbhiphjifdnhmaaGreatDoorK8
set_option linter.unusedSimpArgs false
set_option linter.unusedVariables false
/- Names, Means, Needs, Changes, of any definitions; few. -/
namespace Go.Proofs.YtbhiphjifdnhmaaGreatDoor
open Go.RowKit Go.Maps
/-- 'slices.Sorted(maps.Keys(b))' at a book, at the list that it must be -/
theorem sorted100 {b n : Nat} {f : List UInt8 → Option Value} {w : World} (h : MapIs w Tryz.prog 9 b n f) (hn : n ≤ 1000000) (L : List ByteArray) (hL : KeysL f L) :
  CallsIn Fence.wide 5 Tryz.prog 99 #[.func (.func 138) #[] #[.pointer (some ⟨w.heap.size, 0, none⟩)]] (w.alloc (.cells #[.map (some b)] 130)) fun e w' => ∃ A c, e = .returned (.slice A L.length c) ∧ w'.ownsRow w.heap.size 9 1 (.slice A L.length c) L.length (L.map Value.string) ∧ Below w.heap.size w w' := by
 obtain ⟨D, h1, h2⟩ := h
 have hsz := h1.size_le
 refine (Tryz.slices_Sorted_keys_99_100 b n D heldR w h1 (by unfold maxLen; omega) (by omega)).mono ?_
 rintro e w' ⟨v, ss, rfl, hp, hrow, _, hb⟩
 have hE := (keys_sorted h1 h2 ss hp).one hL
 have hlen : ss.length = L.length := by rw [← hE, List.length_map, List.length_mergeSort]
 have hmap : (ss.mergeSort (fun x y => decide (x ≤ y))).map encStr = L.map Value.string := by rw [← hE, List.map_map]; rfl
 rw [hlen, hmap] at hrow
 have hb0 : Below w.heap.size w w' := (below_new w _).trans (hb.mono (by simp))
 obtain ⟨A, c, rfl, _⟩ := own_form hrow
 exact ⟨A, c, rfl, ownsRow_base_a hrow (by simp), hb0⟩
/-- texts and an error are returned -/
def RetStE (w : World) (l : List ByteArray) (er : Int) (e : Ending) (w' : World) : Prop :=
 ∃ A c, e = .returned (.tuple #[.slice A l.length c, .int .i64 er]) ∧ w'.ownsRow w.heap.size 9 1 (.slice A l.length c) l.length (l.map Value.string) ∧ Below w.heap.size w w'
/-- the names of some definitions -/
def namesTo (l : List Df) (known : Int) (k : Nat) : List ByteArray := putsL ltS [] (((l.take k).filter fun d => decide (d.known ≤ known)).map (·.name))
theorem namesTo_succ {l : List Df} {known : Int} {k : Nat} {d : Df} (h : l[k]? = some d) : namesTo l known (k + 1) = if d.known ≤ known then putL ltS (namesTo l known k) d.name else namesTo l known k := by
 obtain ⟨h1, h2⟩ := List.getElem?_eq_some_iff.1 h
 unfold namesTo
 rw [List.take_succ_eq_append_getElem h1, h2, List.filter_append, List.map_append]
 by_cases hk : d.known ≤ known
 ·rw [if_pos hk, List.filter_cons_of_pos (by simpa using hk)]
  exact putsL_snoc ltS [] _ d.name
 ·rw [if_neg hk, List.filter_cons_of_neg (by simpa using hk)]
  simp
def namesL (l : List Df) (known : Int) : List ByteArray := namesTo l known l.length
theorem namesL_mem (l : List Df) (known : Int) (x : ByteArray) : x ∈ namesL l known ↔ ∃ d ∈ l, d.known ≤ known ∧ d.name = x := by
 unfold namesL namesTo
 rw [putsL_mem ltS_ord, List.take_length, List.mem_map]
 constructor
 ·rintro (⟨d, hd, rfl⟩ | h)
  ·obtain ⟨h1, h2⟩ := List.mem_filter.1 hd
   exact ⟨d, h1, of_decide_eq_true h2, rfl⟩
  ·cases h
 ·rintro ⟨d, h1, h2, rfl⟩
  exact .inl ⟨d, List.mem_filter.2 ⟨h1, decide_eq_true h2⟩, rfl⟩
theorem namesL_inc (l : List Df) (known : Int) : Inc ltS (namesL l known) := putsL_inc ltS_ord _ _ List.Pairwise.nil
theorem namesL_keys (l : List Df) (known : Int) : KeysL (bookV (bookF l known)) (namesL l known) := by
 refine ⟨(namesL_inc l known).imp fun h => of_decide_eq_true h, fun s => ?_⟩
 unfold bookV
 rw [Option.isSome_map]
 cases hb : bookF l known s with
 | none =>
  have h := (bookF_none l).1 hb
  simp only [Option.isSome_none, Bool.false_eq_true, false_iff]
  rintro ⟨x, hx, rfl⟩
  obtain ⟨d, h1, h2, rfl⟩ := (namesL_mem l known x).1 hx
  exact h d h1 rfl h2
 | some d =>
  obtain ⟨h1, h2, h3, _⟩ := bookF_some l d hb
  simp only [Option.isSome_some, true_iff]
  exact ⟨d.name, (namesL_mem l known _).2 ⟨d, h1, h3, rfl⟩, h2⟩
theorem namesL_len (l : List Df) (known : Int) : (namesL l known).length ≤ l.length := by
 have h := nodup_le (namesL l known) (l.map (·.name)) ((namesL_inc l known).nodup ltS_ord) fun x hx => by
  obtain ⟨d, h1, _, rfl⟩ := (namesL_mem l known x).1 hx
  exact List.mem_map.2 ⟨d, h1, rfl⟩
 rwa [List.length_map] at h
set_option maxRecDepth 100000 in
set_option maxHeartbeats 2000000 in
theorem names_any {A : Option Addr} {cap : Nat} {l : List Df} (h : LOk A cap l) (known : Int) (w : World) (hD : Defs w w.heap.size A l) :
  Calls Tryz.prog 54 #[.slice A l.length cap, .int .i64 known] w (RetStE w (if knownE l known = 0 then namesL l known else []) (knownE l known)) := by
 have HA := checkKnown_any h known w hD
 obtain ⟨E, hE⟩ : ∃ E, E = knownE l known := ⟨_, rfl⟩
 rw [← hE] at HA ⊢
 have HA := Lib.hid HA
 clear hE
 by_cases h0 : E = 0
 ·subst h0
  rw [if_pos rfl]
  have hk := namesL_keys l known
  obtain ⟨L, hL⟩ : ∃ L, L = namesL l known := ⟨_, rfl⟩
  rw [← hL] at hk ⊢
  have HK := Lib.hid hk
  have hl := h.len
  have hsz : ∀ d ∈ l, d.name.size ≤ maxLen := fun d hd => (h.sz d hd).1
  clear hL hk
  go_enter Tryz.func54, Tryz.ntmps54
  go_wp2_with (first
   | (go_at_call 98; refine HA.out.mono ?_; rintro e w1 ⟨rfl, hb1⟩)
   | (go_at_call 86; refine (bookOf_any A cap l known _ hl (hD.behind hb1) hsz).mono ?_; rintro e w2 ⟨m, k, rfl, hk, hm, hmi, hb2⟩)
   | (go_at_call 100; refine (callsIn_wide.1 (Tryz.maps_Keys_100 (some m) _)).mono ?_; rintro e w3 ⟨rfl, rfl⟩)
   | (go_at_call 99; refine (callsIn_wide.1 (sorted100 hmi (by omega) L HK.out)).mono ?_; rintro e w4 ⟨A4, c4, rfl, ho4, hb4⟩))
  go_ret2
  have hb12 := hb1.trans (hb2.mono hb1.size)
  exact ⟨A4, c4, rfl, ownsRow_base_a ho4 hb12.size, below_next hb12 hb12.size hb4⟩
 ·rw [if_neg h0]
  have g0 : (E != 0) = true := by simp [h0]
  clear h0
  go_enter Tryz.func54, Tryz.ntmps54
  go_wp2_with (go_at_call 98; refine HA.out.mono ?_; rintro e w1 ⟨rfl, hb1⟩)
  go_ret2
  exact ⟨none, 0, rfl, own_none _ _ 9, hb1⟩
end Go.Proofs.YtbhiphjifdnhmaaGreatDoor
namespace Go.Proofs.YtbhiphjifdnhmaaGreatDoor
open Go.RowKit Go.Maps
/-- what a name means, as the program finds it -/
def MeanE (ev : Value) (l : List Df) (n : ByteArray) (known : Int) (v : Nat → Int) (e : Int) : Prop :=
 ∀ (m k : Nat) (w : World), k ≤ 1000 → MapIs w Tryz.prog 9 m k (bookV (bookF l known)) → ErrAt w ev → 0 < w.heap.size → Calls Tryz.prog 87 #[.map (some m), .string n] w fun r w' => r = .returned (.agg (mnA v e)) ∧ Below w.heap.size w w'
theorem book_sz {l : List Df} (hs : DfsSz l) (known : Int) : BookSz (bookF l known) := fun s => book_sizes (fun d hd => ⟨(hs d hd).2.1, (hs d hd).2.2⟩) known s
theorem meanE_of {l : List Df} (hl : l.length ≤ 400) (hs : DfsSz l) (n : ByteArray) (hn : n.size ≤ maxLen) (known : Int) {v : Nat → Int} {e : Int} (hM : MSpec (bookF l known) n v e) (ev : Value) : MeanE ev l n known v e := by
 have hB := bookOk_of hl hs known
 have hb2 : BookOk (bookF l known) (n :: useL l) := ⟨hB.sz, fun s x hx => List.mem_cons_of_mem _ (hB.mem s x hx), by simp [useL_len]; omega⟩
 obtain ⟨v', e', h1, h2⟩ := meaning_all (bookF l known) (n :: useL l) hb2 (book_sz hs known) n hn (by simp)
 obtain ⟨rfl, rfl⟩ := hM.one h1
 exact fun m k w _ hm hE h0 => h2 ev m k w hm hE h0
theorem mspec_ex {l : List Df} (hl : l.length ≤ 400) (hs : DfsSz l) (n : ByteArray) (hn : n.size ≤ maxLen) (known : Int) : ∃ v e, MSpec (bookF l known) n v e := by
 have hB := bookOk_of hl hs known
 have hb2 : BookOk (bookF l known) (n :: useL l) := ⟨hB.sz, fun s x hx => List.mem_cons_of_mem _ (hB.mem s x hx), by simp [useL_len]; omega⟩
 obtain ⟨v', e', h1, _⟩ := meaning_all (bookF l known) (n :: useL l) hb2 (book_sz hs known) n hn (by simp)
 exact ⟨v', e', h1⟩
theorem calOk_of {A : Option Addr} {cap : Nat} {l : List Df} (h : LOk A cap l) (hg : CalGood l) : CalOk A cap l where
 len := hg.len
 lenCap := h.lenCap
 capMax := h.capMax
 form := fun d hd w => by
  have h1 := formed_any d w (h.sz d hd).1 (h.sz d hd).2.1 (h.sz d hd).2.2
  rw [hg.form d hd] at h1
  exact h1
 twice := hg.twice
 names := fun d hd => (h.sz d hd).1
set_option maxRecDepth 100000 in
set_option maxHeartbeats 2000000 in
theorem means_ok2 {A : Option Addr} {cap : Nat} {l : List Df} (h : CalOk A cap l) (n : ByteArray) (hn : n.size ≤ maxLen) (known : Int) (w : World) (hD : Defs w w.heap.size A l) (hb : nameB n = true) (hk : dayB known = true) (v : Nat → Int) (er : Int) (ev : Value) (hM : MeanE ev l n known v er) (hE : ErrAt w ev) (h0 : 0 < w.heap.size) :
  Calls Tryz.prog 34 #[.slice A l.length cap, .string n, .int .i64 known] w (RetV w v er) := by
 have HM : Hid (MeanE ev l n known v er) := hM
 have HER := Lib.hid (And.intro hE h0)
 have k0 : Blk (w.alloc (.cells #[.int .i64 0, .int .i64 0, .int .i64 0, .int .i64 0, .int .i64 0, .int .i64 0, .int .i64 0, .int .i64 0, .int .i64 0, .int .i64 0, .int .i64 0, .int .i64 0, .int .i64 0, .int .i64 0, .int .i64 0, .int .i64 0, .int .i64 0, .int .i64 0, .int .i64 0, .int .i64 0, .int .i64 0, .int .i64 0, .int .i64 0, .int .i64 0] 26)) w.heap.size 26 (va zeroV) := by rw [z24]; exact Blk.new _ _ _
 have hb0 := below_new w (.cells #[.int .i64 0, .int .i64 0, .int .i64 0, .int .i64 0, .int .i64 0, .int .i64 0, .int .i64 0, .int .i64 0, .int .i64 0, .int .i64 0, .int .i64 0, .int .i64 0, .int .i64 0, .int .i64 0, .int .i64 0, .int .i64 0, .int .i64 0, .int .i64 0, .int .i64 0, .int .i64 0, .int .i64 0, .int .i64 0, .int .i64 0, .int .i64 0] 26)
 have hD0 := hD.behind hb0
 have k0l := k0.lt
 clear hM hE h0
 go_enter Tryz.func34, Tryz.ntmps34
 go_wp2_with (first
  | (go_at_call 85; refine (checkName_ok h n hn known _ hD0 hb hk).mono ?_; rintro e w1 ⟨rfl, hb1⟩; have hD1 := hD0.behind hb1)
  | (go_at_call 86; refine (bookOf_any A cap l known w1 (by have := h.len; omega) hD1 h.names).mono ?_; rintro e w2 ⟨m, k, rfl, hk2, hmw, hm2, hb2⟩)
  | (go_at_call 87; refine (HM.out m k _ hk2 hm2 (HER.out.1.fr (m := 0) HER.out.2 (below_next (below_next hb0 hb0.size hb1) (below_next hb0 hb0.size hb1).size hb2)) (Nat.lt_of_lt_of_le HER.out.2 (below_next (below_next hb0 hb0.size hb1) (below_next hb0 hb0.size hb1).size hb2).size)).mono ?_; rintro e w3 ⟨rfl, hb3⟩; have kM : Blk (w3.alloc (.cells #[.int .i64 0, .int .i64 0, .int .i64 0, .int .i64 0, .int .i64 0, .int .i64 0, .int .i64 0, .int .i64 0, .int .i64 0, .int .i64 0, .int .i64 0, .int .i64 0, .int .i64 0, .int .i64 0, .int .i64 0, .int .i64 0, .int .i64 0, .int .i64 0, .int .i64 0, .int .i64 0, .int .i64 0, .int .i64 0, .int .i64 0, .int .i64 0, .int .i64 0] 128)) w3.heap.size 128 (mnA zeroV 0) := by rw [zmn]; exact Blk.new _ _ _)
  | (refine stM 9 22 rfl rfl kM rfl (v := v) (e := er) rfl ?_))
 obtain ⟨W5, hW5⟩ : ∃ W5, W5 = (w3.alloc (.cells #[.int .i64 0, .int .i64 0, .int .i64 0, .int .i64 0, .int .i64 0, .int .i64 0, .int .i64 0, .int .i64 0, .int .i64 0, .int .i64 0, .int .i64 0, .int .i64 0, .int .i64 0, .int .i64 0, .int .i64 0, .int .i64 0, .int .i64 0, .int .i64 0, .int .i64 0, .int .i64 0, .int .i64 0, .int .i64 0, .int .i64 0, .int .i64 0, .int .i64 0] 128)).setRow w3.heap.size (mnA v er) := ⟨_, rfl⟩
 rw [← hW5]
 have kM5 : Blk W5 w3.heap.size 128 (mnA v er) := by rw [hW5]; exact kM.setRow _
 have hb5 : Below w3.heap.size w3 W5 := by rw [hW5]; exact below_setRow (below_new _ _) (Nat.le_refl _) _
 have hb3' : Below w.heap.size w w3 := below_next (below_next (below_next hb0 (by simp) hb1) (by have := hb1.size; simp at this; omega) hb2) (by have q := hb1.size; have := hb2.size; simp at q; omega) hb3
 have k6 : Blk W5 w.heap.size 26 (va zeroV) := ((((k0.below hb1 k0l).below hb2 (by have q := hb1.size; simp at q; omega)).below hb3 (by have q := hb1.size; have := hb2.size; simp at q; omega)).below hb5 (by have q := hb1.size; have := hb2.size; have := hb3.size; simp at q; omega))
 have hne : w.heap.size ≠ w3.heap.size := by have q := hb1.size; simp at q; have := hb2.size; have := hb3.size; omega
 have hle : w.heap.size ≤ w3.heap.size := hb3'.size
 clear hW5 kM
 have hr5 : W5.rangeAt w3.heap.size 0 (va v).toList := mn_days kM5
 have hc5 : W5.cell? ⟨w3.heap.size, 24, none⟩ = some (.int .i64 er) := mn_err kM5
 simp only [Act.put]
 refine wp_region_held_drew (S := fun w' => w'.rangeAt w3.heap.size 0 (va v).toList ∧ w'.cell? ⟨w3.heap.size, 24, none⟩ = some (.int .i64 er)) (by kernel_rfl) ⟨hr5, hc5⟩ (fun hHeld => ?_)
 (refine wpAnyH_take (i := 0) (v := ?_) rfl (by kernel_rfl) (by kernel_rfl) (by kernel_rfl) (fun _ _ _ h => h) (Or.inl ⟨by rfl, ?_⟩) (by assumption) ?_; rotate_left; (· intro w5 hS5; (try dsimp only at hS5); go_simp <;> with_reducible rfl); (try simp only [List.getElem_toArray, List.getElem_cons_zero, List.getElem_cons_succ, Act.put, List.setIfInBounds_toArray, List.set_cons_zero, List.set_cons_succ]))
 (refine wpAnyH_take (i := 1) (v := .agg (va v).toList.toArray) rfl (by kernel_rfl) (by kernel_rfl) (by kernel_rfl) (fun _ _ _ h => h) (yieldsIf_load_mid (by rfl) 26 _ rfl w3.heap.size 0 rfl (va v).toList _ (fun w5 hS5 => hS5.1) Tryz.underlying26 rfl (days_lenV v)) (by assumption) ?_; (try simp only [List.getElem_toArray, List.getElem_cons_zero, List.getElem_cons_succ, Act.put, List.setIfInBounds_toArray, List.set_cons_zero, List.set_cons_succ]))
 simp only [Array.toArray_toList]
 (refine wpAnyH_take (i := 2) (v := ?_) rfl (by kernel_rfl) (by kernel_rfl) (by kernel_rfl) (fun _ _ _ h => h) (Or.inl ⟨by rfl, ?_⟩) (by assumption) ?_; rotate_left; (· intro w5 hS5; (try dsimp only at hS5); go_simp <;> with_reducible rfl); (try simp only [List.getElem_toArray, List.getElem_cons_zero, List.getElem_cons_succ, Act.put, List.setIfInBounds_toArray, List.set_cons_zero, List.set_cons_succ]))
 (refine wpAnyH_take (i := 3) (v := ?_) rfl (by kernel_rfl) (by kernel_rfl) (by kernel_rfl) (fun _ _ _ h => h) (Or.inl ⟨by rfl, ?_⟩) (by assumption) ?_; rotate_left; (· intro w5 hS5; (try dsimp only at hS5); go_simp <;> with_reducible rfl); (try simp only [List.getElem_toArray, List.getElem_cons_zero, List.getElem_cons_succ, Act.put, List.setIfInBounds_toArray, List.set_cons_zero, List.set_cons_succ]))
 (refine wpAnyH_ready (rs := [4]) (by kernel_rfl) (by simp) ?_; refine AllReadyH.cons rfl (fun K hK => ?_) AllReadyH.nil)
 rw [if_pos (by rfl)]
 refine wp_store_row 26 _ _ rfl w.heap.size (va v) rfl rfl 26 _ (show Blk W5.drew w.heap.size 26 (va zeroV) from k6) (info26 _) (by rw [va_size, va_size]) (va_one _) ?_
 refine hK.out _ _ ⟨mn_days (kM5.farRow (w := W5.drew) hne.symm _), mn_err (kM5.farRow (w := W5.drew) hne.symm _)⟩ (fun hHeld => ?_)
 clear hK K
 (try simp only [List.getElem_toArray, List.getElem_cons_zero, List.getElem_cons_succ, Act.put, List.setIfInBounds_toArray, List.set_cons_zero, List.set_cons_succ])
 (refine wpAnyH_take (i := 5) (v := ?_) rfl (by kernel_rfl) (by kernel_rfl) (by kernel_rfl) (fun _ _ _ h => h) (Or.inl ⟨by rfl, ?_⟩) (by assumption) ?_; rotate_left; (· intro w5 hS5; (try dsimp only at hS5); go_simp <;> with_reducible rfl); (try simp only [List.getElem_toArray, List.getElem_cons_zero, List.getElem_cons_succ, Act.put, List.setIfInBounds_toArray, List.set_cons_zero, List.set_cons_succ]))
 refine wpAnyH_done (by kernel_rfl) ?_ _
 clear hHeld
 go_wp2_with fail
 exact bodyPost_ret (resV2 rfl _ _ (Blk.setRow (w := W5.drew) k6 _) rfl rfl) rfl ⟨rfl, below_setRow (below_next hb3' hle hb5).drew (Nat.le_refl _) _⟩
set_option maxRecDepth 100000 in
set_option maxHeartbeats 4000000 in
theorem changes_ok2 {A : Option Addr} {cap : Nat} {l : List Df} (h : CalOk A cap l) (n : ByteArray) (hn : n.size ≤ maxLen) (w : World) (hD : Defs w w.heap.size A l) (hb : nameB n = true) (M : Int → (Nat → Int) × Int) (days : List Int) (hdays : days = cmpt (srt (l.map (·.known)))) (ev : Value) (hM : ∀ d ∈ days, MeanE ev l n d (M d).1 (M d).2) (hE : ErrAt w ev) (h0 : 0 < w.heap.size) :
  Calls Tryz.prog 37 #[.slice A l.length cap, .string n] w (RetIntsE w (chgL M days (zeroV, 5))) := by
 have HM : Hid (∀ d ∈ days, MeanE ev l n d (M d).1 (M d).2) := hM
 have HER := Lib.hid (And.intro hE h0)
 have HD := Lib.hid hdays
 have hk0 : dayB 0 = true := by decide
 have hll := h.len
 obtain ⟨R, hR⟩ : ∃ R, R = chgL M days (zeroV, 5) := ⟨_, rfl⟩
 rw [← hR]
 have HR := Lib.hid hR
 clear hM hdays hR hE h0
 go_enter Tryz.func37, Tryz.ntmps37
 go_wp2_with (go_at_call 85; refine (checkName_ok h n hn 0 _ hD hb hk0).mono ?_; rintro e w1 ⟨rfl, hb1⟩)
 have hD1 := hD.behind hb1
 have HER1 := Lib.hid (And.intro (HER.out.1.fr (m := 0) HER.out.2 hb1) (Nat.lt_of_lt_of_le HER.out.2 hb1.size))
 clear HER
 go_loopw [7, 23] (fun t7 t23 wq => ∃ (k : Nat) (A2 : Option Addr) (c2 : Nat), k ≤ l.length ∧ t23 = .int .i64 k ∧ t7 = .slice A2 (((l.take k).map (·.known)).length) c2 ∧ wq.ownsRow w1.heap.size 3 1 (.slice A2 (((l.take k).map (·.known)).length) c2) (((l.take k).map (·.known)).length) (((l.take k).map (·.known)).map (Value.int .i64)) ∧ Below w1.heap.size w1 wq) (fun _ t23 _ => l.length - (intOf t23).toNat)
 case atStart => exact ⟨0, none, 0, by omega, rfl, rfl, own_none _ _ 3, Below.refl _ _⟩
 case round =>
  obtain ⟨k, A2, c2, hk, rfl, rfl, ho2, hb2⟩ := hrel
  by_cases hlt : k < l.length
  ·obtain ⟨x, hx⟩ : ∃ x, l[k]? = some x := ⟨_, List.getElem?_eq_getElem hlt⟩
   obtain ⟨ag, ao, hA, hag, hcx⟩ := (hD1.below hb2) k x hx
   subst hA
   have htk : (l.take (k + 1)).map (·.known) = (l.take k).map (·.known) ++ [x.known] := by rw [List.take_add_one, hx, List.map_append]; rfl
   obtain ⟨T, hT⟩ : ∃ T, T = (l.take k).map (·.known) := ⟨_, rfl⟩
   rw [← hT] at htk ho2 ⊢
   have hTl : T.length ≤ 30 := by rw [hT, List.length_map, List.length_take]; omega
   have HT := Lib.hid htk
   clear htk hx hT
   have hr : wr.rangeAt ag (ao + k * 29) (dfL x) := hcx
   have kZ : Blk (wr.alloc (.cells #[.string ⟨#[]⟩, .int .i64 0, .int .i64 0, .string ⟨#[]⟩, .string ⟨#[]⟩, .int .i64 0, .int .i64 0, .int .i64 0, .int .i64 0, .int .i64 0, .int .i64 0, .int .i64 0, .int .i64 0, .int .i64 0, .int .i64 0, .int .i64 0, .int .i64 0, .int .i64 0, .int .i64 0, .int .i64 0, .int .i64 0, .int .i64 0, .int .i64 0, .int .i64 0, .int .i64 0, .int .i64 0, .int .i64 0, .int .i64 0, .int .i64 0] 60)) wr.heap.size 60 (dfA df0) := by rw [z60]; exact Blk.new _ _ _
   have kX := kZ.setRow (dfA x)
   have hbx : Below wr.heap.size wr ((wr.alloc (.cells #[.string ⟨#[]⟩, .int .i64 0, .int .i64 0, .string ⟨#[]⟩, .string ⟨#[]⟩, .int .i64 0, .int .i64 0, .int .i64 0, .int .i64 0, .int .i64 0, .int .i64 0, .int .i64 0, .int .i64 0, .int .i64 0, .int .i64 0, .int .i64 0, .int .i64 0, .int .i64 0, .int .i64 0, .int .i64 0, .int .i64 0, .int .i64 0, .int .i64 0, .int .i64 0, .int .i64 0, .int .i64 0, .int .i64 0, .int .i64 0, .int .i64 0] 60)).setRow wr.heap.size (dfA x)) := below_setRow (below_new _ _) (Nat.le_refl _) _
   have ho3 := own_below ho2 hbx
   have hszx : ((wr.alloc (.cells #[.string ⟨#[]⟩, .int .i64 0, .int .i64 0, .string ⟨#[]⟩, .string ⟨#[]⟩, .int .i64 0, .int .i64 0, .int .i64 0, .int .i64 0, .int .i64 0, .int .i64 0, .int .i64 0, .int .i64 0, .int .i64 0, .int .i64 0, .int .i64 0, .int .i64 0, .int .i64 0, .int .i64 0, .int .i64 0, .int .i64 0, .int .i64 0, .int .i64 0, .int .i64 0, .int .i64 0, .int .i64 0, .int .i64 0, .int .i64 0, .int .i64 0] 60)).setRow wr.heap.size (dfA x)).heap.size = wr.heap.size + 1 := by simp
   have ho4 := own_below ho3 (below_new _ (.cells #[.int .i64 x.known] 3))
   have kN : Blk (((wr.alloc (.cells #[.string ⟨#[]⟩, .int .i64 0, .int .i64 0, .string ⟨#[]⟩, .string ⟨#[]⟩, .int .i64 0, .int .i64 0, .int .i64 0, .int .i64 0, .int .i64 0, .int .i64 0, .int .i64 0, .int .i64 0, .int .i64 0, .int .i64 0, .int .i64 0, .int .i64 0, .int .i64 0, .int .i64 0, .int .i64 0, .int .i64 0, .int .i64 0, .int .i64 0, .int .i64 0, .int .i64 0, .int .i64 0, .int .i64 0, .int .i64 0, .int .i64 0] 60)).setRow wr.heap.size (dfA x)).alloc (.cells #[.int .i64 x.known] 3)) (wr.heap.size + 1) 3 #[.int .i64 x.known] := Blk.newAt hszx
   have hle : w1.heap.size ≤ (((wr.alloc (.cells #[.string ⟨#[]⟩, .int .i64 0, .int .i64 0, .string ⟨#[]⟩, .string ⟨#[]⟩, .int .i64 0, .int .i64 0, .int .i64 0, .int .i64 0, .int .i64 0, .int .i64 0, .int .i64 0, .int .i64 0, .int .i64 0, .int .i64 0, .int .i64 0, .int .i64 0, .int .i64 0, .int .i64 0, .int .i64 0, .int .i64 0, .int .i64 0, .int .i64 0, .int .i64 0, .int .i64 0, .int .i64 0, .int .i64 0, .int .i64 0, .int .i64 0] 60)).setRow wr.heap.size (dfA x)).alloc (.cells #[.int .i64 x.known] 3)).heap.size := by have := hb2.size; simp; omega
   obtain ⟨x0, x1, x2, x3, x4⟩ := kX.df
   clear hszx ho3
   go_wp2_with (first
    | (refine ldD 25 rfl rfl hr rfl ?_)
    | (refine stD 9 26 rfl rfl kZ rfl rfl ?_)
    | (refine wpl_appN rfl (.tmp 27) (.tmp 30) rfl w1.heap.size (.slice A2 T.length c2) T x.known rfl ho4 (wr.heap.size + 1) rfl (kN.cell 0) (by omega) hle ?_; intro g4 c4 w4 ho5 hb4 hg4))
   have hb6 := ((below_next hb2 hb2.size hbx).alloc (by have := hb2.size; simp; omega) (.cells #[.int .i64 x.known] 3)).trans hb4
   go_roundw
   case rel => exact ⟨k + 1, some ⟨g4, 0, none⟩, c4, by omega, by go_num, by rw [HT.out]; simp, by rw [HT.out]; exact ho5, hb6⟩
   case measure => simp [intOf]; omega
  ·obtain rfl : k = l.length := by omega
   rw [List.take_length] at ho2 ⊢
   obtain ⟨T, hT⟩ : ∃ T, T = l.map (·.known) := ⟨_, rfl⟩
   rw [← hT] at ho2 ⊢
   have hTl : T.length ≤ 30 := by rw [hT, List.length_map]; omega
   have HT := Lib.hid hT
   clear hT
   have kN : ∀ W : World, Blk (W.alloc (.cells #[.int .i64 0, .int .i64 0, .int .i64 0, .int .i64 0, .int .i64 0, .int .i64 0, .int .i64 0, .int .i64 0, .int .i64 0, .int .i64 0, .int .i64 0, .int .i64 0, .int .i64 0, .int .i64 0, .int .i64 0, .int .i64 0, .int .i64 0, .int .i64 0, .int .i64 0, .int .i64 0, .int .i64 0, .int .i64 0, .int .i64 0, .int .i64 0, .int .i64 0] 128)) W.heap.size 128 (mnA zeroV 0) := fun W => by rw [zmn]; exact Blk.new _ _ _
   have hbM : ∀ W : World, Below W.heap.size W ((W.alloc (.cells #[.int .i64 0, .int .i64 0, .int .i64 0, .int .i64 0, .int .i64 0, .int .i64 0, .int .i64 0, .int .i64 0, .int .i64 0, .int .i64 0, .int .i64 0, .int .i64 0, .int .i64 0, .int .i64 0, .int .i64 0, .int .i64 0, .int .i64 0, .int .i64 0, .int .i64 0, .int .i64 0, .int .i64 0, .int .i64 0, .int .i64 0, .int .i64 0, .int .i64 0] 128)).setRow W.heap.size (mnA zeroV 5)) := fun W => below_setRow (below_new _ _) (Nat.le_refl _) _
   have HBM := Lib.hid hbM
   clear hbM
   have hsl : (srt T).length = T.length := srt_len T
   have HSL := Lib.hid hsl
   clear hsl
   go_wp2_with (first
    | (go_at_call 89; refine (sort_own w1.heap.size A2 c2 T _ hb2.size (by omega) ho2).mono ?_; rintro e w2 ⟨rfl, ho3, hb3⟩; rw [← HSL.out] at ho3 ⊢; have kN2 := kN w2; have ho4 := own_below ho3 (HBM.out w2))
    | (refine stM 11 35 rfl rfl kN2 rfl (v := zeroV) (e := 5) (by kernel_rfl) ?_)
    | (go_at_call 90; refine (compact_own w1.heap.size A2 c2 (srt T) _ (by have := hb2.size; have := hb3.size; have := (HBM.out w2).size; omega) (by rw [HSL.out]; omega) ho4).mono ?_; rintro e w3 ⟨rfl, ho5, hg5⟩))
   have hBl : w2.heap.size < ((w2.alloc (.cells #[.int .i64 0, .int .i64 0, .int .i64 0, .int .i64 0, .int .i64 0, .int .i64 0, .int .i64 0, .int .i64 0, .int .i64 0, .int .i64 0, .int .i64 0, .int .i64 0, .int .i64 0, .int .i64 0, .int .i64 0, .int .i64 0, .int .i64 0, .int .i64 0, .int .i64 0, .int .i64 0, .int .i64 0, .int .i64 0, .int .i64 0, .int .i64 0, .int .i64 0] 128)).setRow w2.heap.size (mnA zeroV 5)).heap.size := by simp
   have hb4 := (hb2.trans hb3).trans ((HBM.out w2).mono (by have := hb2.size; have := hb3.size; omega))
   have hb5 : Below w1.heap.size w1 w3 := hb4.grown hg5 hb4.size (fun i e => (ho4.lt i e).1)
   have k3 : Blk w3 w2.heap.size 128 (mnA zeroV 5) := (kN2.setRow (mnA zeroV 5)).grown hg5 (fun e => by have := (ho3.lt _ e.symm).2; omega)
   have hdd : cmpt (srt T) = days := by rw [HD.out, HT.out]
   rw [hdd] at ho5 ⊢
   have hdl : days.length ≤ 30 := by rw [← hdd]; have := cmpt_len (srt T); rw [HSL.out] at this; omega
   have hI : Ints w3 w2.heap.size A2 days := fun j x hx => by
    obtain ⟨ad, e1, _, hc⟩ := Ints.of_own ho5 j x hx
    subst e1
    rcases ho3.2 with ⟨hv, _⟩ | ⟨g, cp, cur, hv, _⟩
    ·cases hv
    ·injection hv with hv
     injection hv with hv
     subst hv
     exact ⟨_, rfl, (ho3.lt g rfl).2, hc⟩
   have hw3 : w2.heap.size < w3.heap.size := k3.lt
   obtain ⟨B, hB⟩ : ∃ B, B = w2.heap.size := ⟨_, rfl⟩
   have hB1 : w1.heap.size ≤ B := by have := hb2.size; have := hb3.size; omega
   rw [← hB] at k3 hI hw3 ⊢
   have hr0 : Hid (R = [] ++ chgL M (days.drop 0) (zeroV, 5)) := HR
   clear hBl hb4 hg5 ho4 ho3 kN2 hdd hb2 hb3 ho2 HBM hB ho5
   go_loopw [10, 39] (fun t10 t39 wq => ∃ (k : Nat) (A4 : Option Addr) (c4 : Nat) (out : List Int) (p1 : Nat → Int) (p2 : Int), k ≤ days.length ∧ out.length ≤ k ∧ t39 = .int .i64 k ∧ t10 = .slice A4 out.length c4 ∧ wq.ownsRow w3.heap.size 3 1 (.slice A4 out.length c4) out.length (out.map (Value.int .i64)) ∧ Blk wq B 128 (mnA p1 p2) ∧ Hid (R = out ++ chgL M (days.drop k) (p1, p2)) ∧ Below B w3 wq) (fun _ t39 _ => days.length - (intOf t39).toNat)
   case atStart => exact ⟨0, none, 0, [], zeroV, 5, by omega, by simp, rfl, rfl, own_none _ _ 3, k3, hr0, Below.refl _ _⟩
   case round =>
    obtain ⟨k, A4, c4, out, p1, p2, hk, hol, rfl, rfl, ho6, kB, hRk, hb6⟩ := hrel
    clear k3 hr0
    have hB6 := kB.lt
    have hbw := hb5.trans (hb6.mono hB1)
    have hD6 : Defs wr wr.heap.size A l := (hD1.below hbw).more hbw.size
    have HER6 := Lib.hid (And.intro (HER1.out.1.fr (m := 0) HER1.out.2 hbw) (Nat.lt_of_lt_of_le HER1.out.2 hbw.size))
    by_cases hlt : k < days.length
    ·obtain ⟨x, hx⟩ : ∃ x, x = days[k] := ⟨_, rfl⟩
     obtain ⟨ad, rfl, hab, hcell⟩ := hI.get hlt
     have hmem : x ∈ days := hx ▸ List.getElem_mem hlt
     rw [← hx] at hcell
     have hcell3 : wr.cell? (ad.add k) = some (.int .i64 x) := (hb6.cell (by rw [addr_block]; exact hab)).trans hcell
     have hdr : chgL M (days.drop k) (p1, p2) = if sameV (M x).1 p1 && (M x).2 == p2 then chgL M (days.drop (k + 1)) (M x) else x :: chgL M (days.drop (k + 1)) (M x) := by
      rw [List.drop_eq_getElem_cons hlt, ← hx]; rfl
     have hMx := HM.out x hmem
     obtain ⟨V, hV⟩ : ∃ V, V = (M x).1 := ⟨_, rfl⟩
     obtain ⟨E, hE⟩ : ∃ E, E = (M x).2 := ⟨_, rfl⟩
     have hMM : M x = (V, E) := by rw [hV, hE]
     rw [← hV, ← hE, hMM] at hdr
     rw [← hV, ← hE] at hMx
     have HX : Hid (MeanE ev l n x V E) := hMx
     have HDR := Lib.hid hdr
     clear hdr hMx hV hE hMM hx hcell
     obtain ⟨q, hq⟩ : ∃ q, q = (sameV V p1 && E == p2) := ⟨_, rfl⟩
     have HQ := Lib.hid hq
     clear hq
     cases q
     ·have hR1 : R = (out ++ [x]) ++ chgL M (days.drop (k + 1)) (V, E) := by
       rw [hRk.out, HDR.out, if_neg (by rw [← HQ.out]; simp)]; simp
      have HR1 : Hid (R = (out ++ [x]) ++ chgL M (days.drop (k + 1)) (V, E)) := hR1
      clear hR1
      go_wp2_with (first
      | (go_at_call 86; refine (bookOf_any A cap l x _ (by have := h.len; omega) hD6 h.names).mono ?_; rintro e w4 ⟨m, k2, rfl, hk2, hmw, hm2, hb7⟩)
      | (go_at_call 87; refine (HX.out m k2 _ hk2 hm2 (HER6.out.1.fr (m := 0) HER6.out.2 hb7) (Nat.lt_of_lt_of_le HER6.out.2 hb7.size)).mono ?_; rintro e w5 ⟨rfl, hb8⟩; have kN5 := kN w5; have kB5 := ((kB.below hb7 hB6).below hb8 (by have := hb7.size; omega)); have kB6 := (kB5.alloc (.cells #[.int .i64 0, .int .i64 0, .int .i64 0, .int .i64 0, .int .i64 0, .int .i64 0, .int .i64 0, .int .i64 0, .int .i64 0, .int .i64 0, .int .i64 0, .int .i64 0, .int .i64 0, .int .i64 0, .int .i64 0, .int .i64 0, .int .i64 0, .int .i64 0, .int .i64 0, .int .i64 0, .int .i64 0, .int .i64 0, .int .i64 0, .int .i64 0, .int .i64 0] 128)).farRow (g' := w5.heap.size) (by have := kB5.lt; omega) (mnA V E); have hb7' := below_next hb7 hb7.size hb8; have ho7 := own_below ((own_below ((own_below ho6 hb7')) (below_setRow (below_new w5 (.cells #[.int .i64 0, .int .i64 0, .int .i64 0, .int .i64 0, .int .i64 0, .int .i64 0, .int .i64 0, .int .i64 0, .int .i64 0, .int .i64 0, .int .i64 0, .int .i64 0, .int .i64 0, .int .i64 0, .int .i64 0, .int .i64 0, .int .i64 0, .int .i64 0, .int .i64 0, .int .i64 0, .int .i64 0, .int .i64 0, .int .i64 0, .int .i64 0, .int .i64 0] 128)) (Nat.le_refl _) (mnA V E)))) (below_new _ (.cells #[.int .i64 x] 3)); have kI : Blk (((w5.alloc (.cells #[.int .i64 0, .int .i64 0, .int .i64 0, .int .i64 0, .int .i64 0, .int .i64 0, .int .i64 0, .int .i64 0, .int .i64 0, .int .i64 0, .int .i64 0, .int .i64 0, .int .i64 0, .int .i64 0, .int .i64 0, .int .i64 0, .int .i64 0, .int .i64 0, .int .i64 0, .int .i64 0, .int .i64 0, .int .i64 0, .int .i64 0, .int .i64 0, .int .i64 0] 128)).setRow w5.heap.size (mnA V E)).alloc (.cells #[.int .i64 x] 3)) (w5.heap.size + 1) 3 #[.int .i64 x] := Blk.newAt (by simp))
      | (refine stM 14 47 rfl rfl kN5 rfl (v := V) (e := E) rfl ?_)
      | (refine ldM 14 rfl rfl (kN5.setRow _) rfl ?_)
      | (refine ldM 11 rfl rfl kB6 rfl ?_)
      | (refine wpl_neqM rfl (.tmp 48) (.tmp 49) _ rfl V p1 E p2 rfl rfl ?_; rw [← HQ.out])
      | (refine wpl_appN rfl (.tmp 51) (.tmp 53) rfl w3.heap.size (.slice A4 out.length c4) out x rfl ho7 (w5.heap.size + 1) rfl (kI.cell 0) (by omega) (by have := hb6.size; have := hb7'.size; simp; omega) ?_; intro g8 c8 w8 ho8 hb8' hg8; have kN8 := ((kN5.setRow (mnA V E)).alloc (.cells #[.int .i64 x] 3)).grown hg8 (fun e => by have := (ho6.lt _ e.symm).2; have := hb7'.size; omega); have kB8 := (kB6.alloc (.cells #[.int .i64 x] 3)).grown hg8 (fun e => by have := (ho6.lt _ e.symm).1; omega))
      | (refine ldM 14 rfl rfl kN8 rfl ?_)
      | (refine stM 11 55 rfl rfl kB8 rfl (v := V) (e := E) rfl ?_))
      have hb10 := ((below_setRow ((below_next hb6 (by have := hb6.size; omega) hb7').alloc (by have := hb7'.size; have := hb6.size; omega) (.cells #[.int .i64 0, .int .i64 0, .int .i64 0, .int .i64 0, .int .i64 0, .int .i64 0, .int .i64 0, .int .i64 0, .int .i64 0, .int .i64 0, .int .i64 0, .int .i64 0, .int .i64 0, .int .i64 0, .int .i64 0, .int .i64 0, .int .i64 0, .int .i64 0, .int .i64 0, .int .i64 0, .int .i64 0, .int .i64 0, .int .i64 0, .int .i64 0, .int .i64 0] 128)) (g := w5.heap.size) (by have := hb7'.size; have := hb6.size; omega) (mnA V E)).alloc (by have := hb7'.size; have := hb6.size; simp; omega) (.cells #[.int .i64 x] 3)).trans (hb8'.mono (Nat.le_of_lt hw3))
      go_roundw
      case rel => exact ⟨k + 1, some ⟨g8, 0, none⟩, c8, out ++ [x], V, E, by omega, by simp; omega, by go_num, by simp, own_setRow ho8 hw3 _, kB8.setRow _, HR1, below_setRow hb10 (Nat.le_refl _) _⟩
      case measure => simp [intOf]; omega
     ·have hR1 : R = out ++ chgL M (days.drop (k + 1)) (V, E) := by
       rw [hRk.out, HDR.out, if_pos (by rw [← HQ.out])]
      have HR1 : Hid (R = out ++ chgL M (days.drop (k + 1)) (V, E)) := hR1
      clear hR1
      go_wp2_with (first
      | (go_at_call 86; refine (bookOf_any A cap l x _ (by have := h.len; omega) hD6 h.names).mono ?_; rintro e w4 ⟨m, k2, rfl, hk2, hmw, hm2, hb7⟩)
      | (go_at_call 87; refine (HX.out m k2 _ hk2 hm2 (HER6.out.1.fr (m := 0) HER6.out.2 hb7) (Nat.lt_of_lt_of_le HER6.out.2 hb7.size)).mono ?_; rintro e w5 ⟨rfl, hb8⟩; have kN5 := kN w5; have kB5 := ((kB.below hb7 hB6).below hb8 (by have := hb7.size; omega)); have kB6 := (kB5.alloc (.cells #[.int .i64 0, .int .i64 0, .int .i64 0, .int .i64 0, .int .i64 0, .int .i64 0, .int .i64 0, .int .i64 0, .int .i64 0, .int .i64 0, .int .i64 0, .int .i64 0, .int .i64 0, .int .i64 0, .int .i64 0, .int .i64 0, .int .i64 0, .int .i64 0, .int .i64 0, .int .i64 0, .int .i64 0, .int .i64 0, .int .i64 0, .int .i64 0, .int .i64 0] 128)).farRow (g' := w5.heap.size) (by have := kB5.lt; omega) (mnA V E); have hb7' := below_next hb7 hb7.size hb8)
      | (refine stM 14 47 rfl rfl kN5 rfl (v := V) (e := E) rfl ?_)
      | (refine ldM 14 rfl rfl (kN5.setRow _) rfl ?_)
      | (refine ldM 11 rfl rfl kB6 rfl ?_)
      | (refine wpl_neqM rfl (.tmp 48) (.tmp 49) _ rfl V p1 E p2 rfl rfl ?_; rw [← HQ.out])
      | (refine stM 11 55 rfl rfl kB6 rfl (v := V) (e := E) rfl ?_))
      have ho7 := own_below (own_below ho6 hb7') (below_setRow (below_new w5 (.cells #[.int .i64 0, .int .i64 0, .int .i64 0, .int .i64 0, .int .i64 0, .int .i64 0, .int .i64 0, .int .i64 0, .int .i64 0, .int .i64 0, .int .i64 0, .int .i64 0, .int .i64 0, .int .i64 0, .int .i64 0, .int .i64 0, .int .i64 0, .int .i64 0, .int .i64 0, .int .i64 0, .int .i64 0, .int .i64 0, .int .i64 0, .int .i64 0, .int .i64 0] 128)) (Nat.le_refl _) (mnA V E))
      have hb10 := below_setRow ((below_next hb6 (by have := hb6.size; omega) hb7').alloc (by have := hb7'.size; have := hb6.size; omega) (.cells #[.int .i64 0, .int .i64 0, .int .i64 0, .int .i64 0, .int .i64 0, .int .i64 0, .int .i64 0, .int .i64 0, .int .i64 0, .int .i64 0, .int .i64 0, .int .i64 0, .int .i64 0, .int .i64 0, .int .i64 0, .int .i64 0, .int .i64 0, .int .i64 0, .int .i64 0, .int .i64 0, .int .i64 0, .int .i64 0, .int .i64 0, .int .i64 0, .int .i64 0] 128)) (g := w5.heap.size) (by have := hb7'.size; have := hb6.size; omega) (mnA V E)
      go_roundw
      case rel => exact ⟨k + 1, A4, c4, out, V, E, by omega, by omega, by go_num, rfl, own_setRow ho7 hw3 _, kB6.setRow _, HR1, below_setRow hb10 (Nat.le_refl _) _⟩
      case measure => simp [intOf]; omega
    ·obtain rfl : k = days.length := by omega
     go_wp2_with fail
     go_ret2
     have e : R = out := by rw [hRk.out, List.drop_length]; simp [chgL]
     rw [e]
     exact ⟨A4, c4, rfl, ho6.mono (by have := hb1.size; omega), below_next hb1 hb1.size hbw⟩
end Go.Proofs.YtbhiphjifdnhmaaGreatDoor
namespace Go.Proofs.YtbhiphjifdnhmaaGreatDoor
open Go.RowKit Go.Maps
/-- what Means returns -/
def MeansIs (l : List Df) (n : ByteArray) (known : Int) (v : Nat → Int) (er : Int) : Prop :=
 (nameE l n known = 0 ∧ MSpec (bookF l known) n v er) ∨ (nameE l n known ≠ 0 ∧ v = zeroV ∧ er = nameE l n known)
theorem MeansIs.one {l : List Df} {n : ByteArray} {known : Int} {v u : Nat → Int} {e i : Int} (h : MeansIs l n known v e) (k : MeansIs l n known u i) : v = u ∧ e = i := by
 rcases h with ⟨h1, h2⟩ | ⟨h1, rfl, rfl⟩
 ·rcases k with ⟨_, k2⟩ | ⟨k1, _⟩
  ·exact h2.one k2
  ·exact absurd h1 k1
 ·rcases k with ⟨k1, _⟩ | ⟨_, rfl, rfl⟩
  ·exact absurd k1 h1
  ·exact ⟨rfl, rfl⟩
theorem meansIs_ex {l : List Df} (hs : DfsSz l) (n : ByteArray) (hn : n.size ≤ maxLen) (known : Int) : ∃ v e, MeansIs l n known v e := by
 by_cases h0 : nameE l n known = 0
 ·have hg := (knownE_cal (nameE_ok h0).1).1
  obtain ⟨v, e, h⟩ := mspec_ex (by have := hg.len; omega) hs n hn known
  exact ⟨v, e, .inl ⟨h0, h⟩⟩
 ·exact ⟨_, _, .inr ⟨h0, rfl, rfl⟩⟩
set_option maxRecDepth 100000 in
set_option maxHeartbeats 2000000 in
theorem means_bad {A : Option Addr} {cap : Nat} {l : List Df} (h : LOk A cap l) (n : ByteArray) (hn : n.size ≤ maxLen) (known : Int) (w : World) (hD : Defs w w.heap.size A l) (h0 : nameE l n known ≠ 0) :
  Calls Tryz.prog 34 #[.slice A l.length cap, .string n, .int .i64 known] w (RetV w zeroV (nameE l n known)) := by
 have k0 := new26z w
 have hb0 := below_new w (.cells #[.int .i64 0, .int .i64 0, .int .i64 0, .int .i64 0, .int .i64 0, .int .i64 0, .int .i64 0, .int .i64 0, .int .i64 0, .int .i64 0, .int .i64 0, .int .i64 0, .int .i64 0, .int .i64 0, .int .i64 0, .int .i64 0, .int .i64 0, .int .i64 0, .int .i64 0, .int .i64 0, .int .i64 0, .int .i64 0, .int .i64 0, .int .i64 0] 26)
 have HC := checkName_any h n hn known _ (hD.behind hb0)
 obtain ⟨E, hE⟩ : ∃ E, E = nameE l n known := ⟨_, rfl⟩
 rw [← hE] at h0 HC ⊢
 have HC := Lib.hid HC
 have g0 : (E != 0) = true := by simp [h0]
 clear hE h0
 go_enter Tryz.func34, Tryz.ntmps34
 go_wp2_with (first
  | (go_at_call 85; refine HC.out.mono ?_; rintro e w1 ⟨rfl, hb1⟩; have k1 := k0.below hb1 k0.lt; have hB1 := below_next hb0 hb0.size hb1)
  | (refine stV 6 16 rfl rfl k1 rfl (c := zeroV) (by kernel_rfl) ?_))
 exact bodyPost_ret (resV2 rfl _ _ (k1.setRow _) rfl rfl) rfl ⟨rfl, below_setRow hB1 (by omega) _⟩
theorem means_prog {A : Option Addr} {cap : Nat} {l : List Df} (h : LOk A cap l) (n : ByteArray) (hn : n.size ≤ maxLen) (known : Int) (w : World) (hD : Defs w w.heap.size A l) (ev : Value) (hE : ErrAt w ev) (h0 : 0 < w.heap.size) {v : Nat → Int} {er : Int} (hM : MeansIs l n known v er) :
  Calls Tryz.prog 34 #[.slice A l.length cap, .string n, .int .i64 known] w (RetV w v er) := by
 rcases hM with ⟨hn0, hM⟩ | ⟨hn0, rfl, rfl⟩
 ·obtain ⟨hk, hb⟩ := nameE_ok hn0
  obtain ⟨hg, k1, k2⟩ := knownE_cal hk
  exact means_ok2 (calOk_of h hg) n hn known w hD hb (by simp [dayB]; omega) v er ev (meanE_of (by have := hg.len; omega) h.sz n hn known hM ev) hE h0
 ·exact means_bad h n hn known w hD hn0
theorem reach_of {l : List Df} (hl : l.length ≤ 400) (hs : DfsSz l) (n : ByteArray) (known : Int) : ∃ R, (Inc ltS R ∧ ∀ z, z ∈ R ↔ Rch (prt (bookF l known)) n z) ∧ R.length ≤ (useL l).length := by
 have hB := bookOk_of hl hs known
 obtain ⟨R, hR, hRr⟩ := exists_reach ltS_ord (prt (bookF l known)) n (U := useL l) fun x y hy => hB.mem _ y hy
 refine ⟨R, ⟨hR, hRr⟩, nodup_le R (useL l) (hR.nodup ltS_ord) fun x hx => ?_⟩
 obtain ⟨y, hy⟩ := ((hRr x).1 hx).last
 exact hB.mem _ x hy
set_option maxRecDepth 100000 in
set_option maxHeartbeats 2000000 in
theorem needs_prog {A : Option Addr} {cap : Nat} {l : List Df} (h : LOk A cap l) (n : ByteArray) (hn : n.size ≤ maxLen) (known : Int) (w : World) (hD : Defs w w.heap.size A l) (R : List ByteArray) (hR : Inc ltS R) (hRr : ∀ z, z ∈ R ↔ Rch (prt (bookF l known)) n z) :
  Calls Tryz.prog 35 #[.slice A l.length cap, .string n, .int .i64 known] w (RetStE w (if needE l n known = 0 then R else []) (needE l n known)) := by
 by_cases hn0 : nameE l n known = 0
 ·obtain ⟨hk, hb⟩ := nameE_ok hn0
  obtain ⟨hg, k1, k2⟩ := knownE_cal hk
  have hl30 := hg.len
  cases hq : bookF l known n.data.toList with
  | some d =>
   have hX : needE l n known = 0 := by unfold needE; rw [if_pos hn0, hq]; rfl
   rw [hX, if_pos rfl]
   exact needs_ok (calOk_of h hg) n hn known w hD hb (by simp [dayB]; omega) R (fun m k w1 _ hm => needs_any (bookF l known) (useL l) (bookOk_of (by omega) h.sz known) m k n w1 hm hn R hR hRr) (by rw [hq]; rfl)
  | none =>
   have hX : needE l n known = 5 := by unfold needE; rw [if_pos hn0, hq]; rfl
   rw [hX, if_neg (by decide)]
   have HC := checkName_any h n hn known _ hD
   rw [hn0] at HC
   have HC := Lib.hid HC
   have kZ : ∀ W : World, Blk (W.alloc (.cells #[.string ⟨#[]⟩, .int .i64 0, .int .i64 0, .string ⟨#[]⟩, .string ⟨#[]⟩, .int .i64 0, .int .i64 0, .int .i64 0, .int .i64 0, .int .i64 0, .int .i64 0, .int .i64 0, .int .i64 0, .int .i64 0, .int .i64 0, .int .i64 0, .int .i64 0, .int .i64 0, .int .i64 0, .int .i64 0, .int .i64 0, .int .i64 0, .int .i64 0, .int .i64 0, .int .i64 0, .int .i64 0, .int .i64 0, .int .i64 0, .int .i64 0] 60)) W.heap.size 60 (dfA df0) := fun W => by rw [z60]; exact Blk.new _ _ _
   have hlk : ∀ (m k : Nat) (W : World), MapIs W Tryz.prog 9 m k (bookV (bookF l known)) → (Instr.lookup 130 (.map (some m)) (.string n) true).run Tryz.prog W = .ok (.tuple #[.agg (dfA df0), .bool false]) W := fun m k W hm => by
    have := hm.look_ok keyT Tryz.underlying130 (zero60 W) (key_any n hn)
    rwa [bookV_get, hq, Option.getD_none, show (bookV (bookF l known) n.data.toList).isSome = false by simp [bookV, hq]] at this
   have HL := Lib.hid hlk
   have hsz : ∀ d ∈ l, d.name.size ≤ maxLen := fun d hd => (h.sz d hd).1
   have hl := h.len
   clear hX hlk hq hRr hR hg
   go_enter Tryz.func35, Tryz.ntmps35
   go_wp2_with (first
    | (go_at_call 85; refine HC.out.mono ?_; rintro e w1 ⟨rfl, hb1⟩; have hD1 := hD.behind hb1)
    | (go_at_call 86; refine (bookOf_any A cap l known w1 hl hD1 hsz).mono ?_; rintro e w2 ⟨m, k, rfl, hk2, hmw, hm2, hb2⟩; have hl2 := HL.out m k w2 hm2; have kZ2 := kZ w2)
    | (refine stD 10 26 rfl rfl kZ2 rfl rfl ?_))
   go_ret2
   exact ⟨none, 0, rfl, own_none _ _ 9, below_next (below_next hb1 hb1.size hb2) (below_next hb1 hb1.size hb2).size (below_setRow (below_new w2 (.cells #[.string ⟨#[]⟩, .int .i64 0, .int .i64 0, .string ⟨#[]⟩, .string ⟨#[]⟩, .int .i64 0, .int .i64 0, .int .i64 0, .int .i64 0, .int .i64 0, .int .i64 0, .int .i64 0, .int .i64 0, .int .i64 0, .int .i64 0, .int .i64 0, .int .i64 0, .int .i64 0, .int .i64 0, .int .i64 0, .int .i64 0, .int .i64 0, .int .i64 0, .int .i64 0, .int .i64 0, .int .i64 0, .int .i64 0, .int .i64 0, .int .i64 0] 60)) (Nat.le_refl _) (dfA df0))⟩
 ·have hX : needE l n known = nameE l n known := by unfold needE; rw [if_neg hn0]
  rw [hX, if_neg hn0]
  have HC := checkName_any h n hn known _ hD
  obtain ⟨E, hE⟩ : ∃ E, E = nameE l n known := ⟨_, rfl⟩
  rw [← hE] at hn0 HC ⊢
  have HC := Lib.hid HC
  have g0 : (E != 0) = true := by simp [hn0]
  clear hE hn0 hX hRr hR
  go_enter Tryz.func35, Tryz.ntmps35
  go_wp2_with (go_at_call 85; refine HC.out.mono ?_; rintro e w1 ⟨rfl, hb1⟩)
  go_ret2
  exact ⟨none, 0, rfl, own_none _ _ 9, hb1⟩
/-- numbers and an error are returned -/
def RetInE (w : World) (l : List Int) (er : Int) (e : Ending) (w' : World) : Prop :=
 ∃ A c, e = .returned (.tuple #[.slice A l.length c, .int .i64 er]) ∧ w'.ownsRow w.heap.size 3 1 (.slice A l.length c) l.length (l.map (Value.int .i64)) ∧ Below w.heap.size w w'
/-- the days on which a name comes to mean something else -/
def chgs (M : Int → (Nat → Int) × Int) (l : List Df) : List Int := chgL M (daysTo (l.map (·.known)) 731) (zeroV, 5)
theorem changes_days {l : List Df} (hg : CalGood l) : cmpt (srt (l.map (·.known))) = daysTo (l.map (·.known)) 731 := days_same fun x hx => by
 obtain ⟨d, hd, rfl⟩ := List.mem_map.1 hx
 have := formedB_day (hg.form d hd)
 omega
set_option maxRecDepth 100000 in
set_option maxHeartbeats 2000000 in
theorem changes_prog {A : Option Addr} {cap : Nat} {l : List Df} (h : LOk A cap l) (n : ByteArray) (hn : n.size ≤ maxLen) (w : World) (hD : Defs w w.heap.size A l) (ev : Value) (hE : ErrAt w ev) (h0 : 0 < w.heap.size) (M : Int → (Nat → Int) × Int) (hM : ∀ k, MeansIs l n k (M k).1 (M k).2) :
  Calls Tryz.prog 37 #[.slice A l.length cap, .string n] w (RetInE w (if nameE l n 0 = 0 then chgs M l else []) (nameE l n 0)) := by
 by_cases hn0 : nameE l n 0 = 0
 ·rw [if_pos hn0, hn0]
  obtain ⟨hk, hb⟩ := nameE_ok hn0
  obtain ⟨hg, _, _⟩ := knownE_cal hk
  refine changes_ok2 (calOk_of h hg) n hn w hD hb M _ (changes_days hg).symm ev (fun d hd => ?_) hE h0
  have hd2 := (daysTo_mem _ _ _).1 hd
  have hnk : nameE l n d = 0 := by
   unfold nameE knownE
   rw [if_pos ((calE_iff l).2 hg), show dayB d = true by simp [dayB]; omega, if_pos rfl, if_pos rfl, hb]
   rfl
  rcases hM d with ⟨_, h2⟩ | ⟨h1, _⟩
  ·exact meanE_of (by have := hg.len; omega) h.sz n hn d h2 ev
  ·exact absurd hnk h1
 ·rw [if_neg hn0]
  have HC := checkName_any h n hn 0 _ hD
  obtain ⟨E, hEE⟩ : ∃ E, E = nameE l n 0 := ⟨_, rfl⟩
  rw [← hEE] at hn0 HC ⊢
  have HC := Lib.hid HC
  have g0 : (E != 0) = true := by simp [hn0]
  clear hEE hn0 hM hE h0
  go_enter Tryz.func37, Tryz.ntmps37
  go_wp2_with (go_at_call 85; refine HC.out.mono ?_; rintro e w1 ⟨rfl, hb1⟩)
  go_ret2
  exact ⟨none, 0, rfl, own_none _ _ 3, hb1⟩
end Go.Proofs.YtbhiphjifdnhmaaGreatDoor
namespace Go.Proofs.YtbhiphjifdnhmaaGreatDoor
open Go.RowKit Go.Maps
def shortB (d : Df) : Bool := (decide (d.name.size ≤ 40) && decide (d.of.size ≤ 40)) && decide (d.wth.size ≤ 40)
def fewB (l : List Df) : Bool := l.all shortB && (decide (l.length ≤ 9) || (decide (30 < l.length) && decide (l.length ≤ 40)))
set_option maxRecDepth 100000 in
set_option maxHeartbeats 2000000 in
theorem few_any (A : Option Addr) (cap : Nat) (l : List Df) (w : World) (hl : l.length ≤ maxLen) (hs : DfsSz l) (hD : Defs w w.heap.size A l) :
  Calls Tryz.prog 32 #[.slice A l.length cap] w fun e w' => e = .returned (.bool (fewB l)) ∧ w = w' := by
 obtain ⟨R, hR⟩ : ∃ R, R = fewB l := ⟨_, rfl⟩
 rw [← hR]
 have HR := Lib.hid hR
 have HSZ := Lib.hid hs
 have hml : maxLen ≤ 9223372036854775807 := by simp [maxLen]
 clear hR hs
 go_enter Tryz.func32, Tryz.ntmps32
 go_wp2_with fail
 go_loopw [3] (fun t3 wq => ∃ k : Nat, k ≤ l.length ∧ t3 = .int .i64 k ∧ Hid ((l.take k).all shortB = true) ∧ w = wq) (fun t3 _ => l.length - (intOf t3).toNat)
 case atStart => exact ⟨0, by omega, rfl, Lib.hid rfl, rfl⟩
 case round =>
  obtain ⟨k, hk, rfl, HA, rfl⟩ := hrel
  by_cases hlt : k < l.length
  ·obtain ⟨x, hx⟩ : ∃ x, l[k]? = some x := ⟨_, List.getElem?_eq_getElem hlt⟩
   have hxl : x ∈ l := List.mem_of_getElem? hx
   obtain ⟨s1, s2, s3⟩ := HSZ.out x hxl
   obtain ⟨ag, ao, hA, hag, hcx⟩ := hD k x hx
   subst hA
   have x0 : w.cell? ⟨ag, ao + k * 29, none⟩ = some (.string x.name) := hcx 0 _ rfl
   have x3 : w.cell? ⟨ag, ao + k * 29 + 3, none⟩ = some (.string x.of) := hcx 3 _ rfl
   have x4 : w.cell? ⟨ag, ao + k * 29 + 4, none⟩ = some (.string x.wth) := hcx 4 _ rfl
   have hq : IntKind.i64.wrap ((k : Int) + 1) = (k : Int) + 1 := IntWalk.i64_in _ (by omega)
   have HNX : Hid (shortB x = true → (l.take (k + 1)).all shortB = true) := Lib.hid (fun h => by
    obtain ⟨q1, q2⟩ := List.getElem?_eq_some_iff.1 hx
    rw [List.take_succ_eq_append_getElem hlt, q2, List.all_append, HA.out]
    simp [h])
   have HNO : Hid (shortB x = false → R = false) := Lib.hid (fun h => by
    rw [HR.out]
    unfold fewB
    rw [Bool.and_eq_false_iff]
    exact .inl (List.all_eq_false.2 ⟨x, hxl, by rw [h]; decide⟩))
   clear hx hxl hcx HA HR
   by_cases c1 : 40 < x.name.size
   ·have hRf := Lib.hid (HNO.out (by unfold shortB; rw [decide_eq_false (by omega : ¬ x.name.size ≤ 40)]; rfl))
    clear HNX HNO
    go_wp2_with fail
    go_ret
    exact ⟨ret_bool hRf.out.symm, rfl⟩
   ·by_cases c2 : 40 < x.of.size
    ·have hRf := Lib.hid (HNO.out (by unfold shortB; rw [decide_eq_false (by omega : ¬ x.of.size ≤ 40)]; simp))
     clear HNX HNO
     go_wp2_with fail
     go_ret
     exact ⟨ret_bool hRf.out.symm, rfl⟩
    ·by_cases c3 : 40 < x.wth.size
     ·have hRf := Lib.hid (HNO.out (by unfold shortB; rw [decide_eq_false (by omega : ¬ x.wth.size ≤ 40)]; simp))
      clear HNX HNO
      go_wp2_with fail
      go_ret
      exact ⟨ret_bool hRf.out.symm, rfl⟩
     ·have HN := Lib.hid (HNX.out (by unfold shortB; rw [decide_eq_true (by omega : x.name.size ≤ 40), decide_eq_true (by omega : x.of.size ≤ 40), decide_eq_true (by omega : x.wth.size ≤ 40)]; rfl))
      clear HNX HNO
      go_wp2_with fail
      go_roundw
      case rel => exact ⟨k + 1, by omega, by go_num, HN, trivial⟩
      case measure => simp [intOf]; omega
  ·obtain rfl : k = l.length := by omega
   have HR2 : Hid (R = (decide (l.length ≤ 9) || (decide (30 < l.length) && decide (l.length ≤ 40)))) := Lib.hid (by
    rw [HR.out]
    unfold fewB
    have := HA.out
    rw [List.take_length] at this
    rw [this, Bool.true_and])
   clear HR HA
   by_cases c1 : l.length ≤ 9
   ·have HRT := Lib.hid (show R = true by rw [HR2.out, decide_eq_true c1]; rfl)
    clear HR2
    go_wp2_with fail
    go_ret
    exact ⟨ret_bool (by rw [HRT.out] <;> simp <;> omega), rfl⟩
   ·by_cases c2 : 30 < l.length
    ·by_cases c3 : l.length ≤ 40
     ·have HRT := Lib.hid (show R = true by rw [HR2.out, decide_eq_true c2, decide_eq_true c3]; simp)
      clear HR2
      go_wp2_with fail
      go_ret
      exact ⟨ret_bool (by rw [HRT.out] <;> simp <;> omega), rfl⟩
     ·have HRT := Lib.hid (show R = false by rw [HR2.out, decide_eq_false c1, decide_eq_false c3]; simp)
      clear HR2
      go_wp2_with fail
      go_ret
      exact ⟨ret_bool (by rw [HRT.out] <;> simp <;> omega), rfl⟩
    ·have HRT := Lib.hid (show R = false by rw [HR2.out, decide_eq_false c1, decide_eq_false c2]; rfl)
     clear HR2
     go_wp2_with fail
     go_ret
     exact ⟨ret_bool (by rw [HRT.out] <;> simp <;> omega), rfl⟩
end Go.Proofs.YtbhiphjifdnhmaaGreatDoor
