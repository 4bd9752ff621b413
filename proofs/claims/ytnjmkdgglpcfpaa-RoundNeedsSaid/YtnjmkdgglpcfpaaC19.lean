import Derived.Test.YtnjmkdgglpcfpaaC18
import Derived.Test.YtnjmkdgglpcfpaaC11
import Derived.Test.YtnjmkdgglpcfpaaC7
import Derived.Deep.RegionLaw
namespace Go.Proofs.Ytnjmkdgglpcfpaa
set_option linter.unusedSimpArgs false
set_option linter.unusedVariables false
open Go.RowKit

set_option maxRecDepth 100000 in
set_option maxHeartbeats 400000 in
/-- what is open, in memory of one's own -/
theorem open_own (C R B F : Int) (A0 : Option Addr) (cap : Nat) (cl : List Int) (w : World) (h1 : 1 ≤ C) (h2 : C ≤ 120) (hcl : cl.length ≤ 1000000) (hr : Ints w w.heap.size A0 cl) :
    Calls Try.prog 96 #[.agg #[.int .i64 C, .int .i64 R, .int .i64 B, .int .i64 F, .slice A0 cl.length cap]] w fun e w' => ∃ A c, e = .returned (.slice A (openL C cl).length c) ∧ w'.ownsRow (w.heap.size + 1) 3 1 (.slice A (openL C cl).length c) (openL C cl).length ((openL C cl).map (Value.int .i64)) ∧ Below w.heap.size w w' := by
  obtain ⟨n, rfl⟩ := Int.eq_ofNat_of_zero_le (show 0 ≤ C by omega)
  have hr1 := hr.behind (below_new w (.cells #[.int .i64 n, .int .i64 R, .int .i64 B, .int .i64 F, .slice A0 cl.length cap] 24))
  unfold openL
  rw [Int.toNat_natCast]
  generalize hp : (fun i : Nat => !isIn cl i) = p
  have HP := Lib.hid hp
  clear hp
  go_enter Try.func96, Try.ntmps96
  go_wp2_with fail
  go_loopw [3, 4, 5] (fun v i _ wr => ∃ k : Nat, ∃ A c', k ≤ n ∧ i = .int .i64 k ∧ v = .slice A (colsTo p k).length c' ∧ Below w.heap.size w wr ∧ Blk wr w.heap.size 24 #[.int .i64 n, .int .i64 R, .int .i64 B, .int .i64 F, .slice A0 cl.length cap] ∧ wr.ownsRow (w.heap.size + 1) 3 1 (.slice A (colsTo p k).length c') (colsTo p k).length ((colsTo p k).map (Value.int .i64)))
    (fun _ i _ _ => n - (intOf i).toNat)
  case atStart => exact ⟨0, none, 0, by omega, rfl, rfl, below_new _ _, Blk.new _ _ _, World.ownsRow_nil _ _ _ _⟩
  case round =>
    obtain ⟨k, A, c', hk, rfl, rfl, hb, hb0, hown⟩ := hrel
    have hrr := hr.behind hb
    have hlt0 := hb0.lt
    by_cases hlt : k < n
    · have hln := colsTo_len p k
      obtain ⟨d0, d1, d2, d3, d4⟩ := hb0.five
      by_cases hs : (k : Int) ∈ cl
      · have hpk : p k = false := by rw [← HP.out]; simp [isIn, hs]
        have HD : Hid (decide ((k : Int) ∈ cl) = true) := decide_eq_true hs
        have HY := Lib.hid (colsTo_no hpk)
        clear hpk hs
        go_wp2_with (go_at_call 72; refine (has_any cl A0 cap k _ hcl hrr).mono ?_; rw [HD.out]; rintro e w1 ⟨rfl, rfl⟩)
        go_roundw
        case rel => exact ⟨k + 1, A, c', by omega, by go_num, by rw [HY.out], hb, hb0, by rw [HY.out]; exact hown⟩
        case measure => simp [intOf]; try omega
      · have hpk : p k = true := by rw [← HP.out]; simp [isIn, hs]
        have HD : Hid (decide ((k : Int) ∈ cl) = false) := decide_eq_false hs
        have HY := Lib.hid (colsTo_yes hpk)
        clear hpk hs
        go_wp2_with (first
          | (go_at_call 72; refine (has_any cl A0 cap k _ hcl hrr).mono ?_; rw [HD.out]; rintro e w1 ⟨rfl, rfl⟩)
          | (at_builtin; refine app1 (by rfl) _ _ (by rfl) (w.heap.size + 1) (colsTo p k) k _ (by rfl) hown (by rfl) (by omega) (by omega) ?_; intro A' c'' w2 hown1 hb3))
        go_roundw
        case rel => exact ⟨k + 1, A', c'', by omega, by go_num, by rw [HY.out]; simp, hb.trans (hb3.mono (by omega)), hb0.below hb3 (by omega), by rw [HY.out]; exact hown1⟩
        case measure => simp [intOf]; try omega
    · obtain rfl : k = n := by omega
      obtain ⟨d0, d1, d2, d3, d4⟩ := hb0.five
      go_wp2_with fail
      go_ret
      exact ⟨A, c', rfl, hown, hb⟩


/-- numbers that lie under a bound and in another block -/
def IntsG (w : World) (g N : Nat) (A : Option Addr) (l : List Int) : Prop :=
  ∀ k x, l[k]? = some x → ∃ ad, A = some ad ∧ ad.block < N ∧ ad.block ≠ g ∧ w.cell? (ad.add k) = some (.int .i64 x)
theorem IntsG.get {w : World} {g N : Nat} {A : Option Addr} {l : List Int} (h : IntsG w g N A l) {k : Nat} (hk : k < l.length) : ∃ ad, A = some ad ∧ ad.block < N ∧ ad.block ≠ g ∧ w.cell? (ad.add k) = some (.int .i64 l[k]) := h k _ (List.getElem?_eq_getElem hk)
theorem IntsG.below {w w' : World} {g N : Nat} {A : Option Addr} {l : List Int} (h : IntsG w g N A l) (hb : Below N w w') : IntsG w' g N A l := fun k x hx => by
  obtain ⟨ad, e, h1, h2, h4⟩ := h k x hx
  exact ⟨ad, e, h1, h2, (hb.cell (p := ad.add k) (by rw [addr_block]; exact h1)).trans h4⟩
theorem IntsG.set {w : World} {g N : Nat} {A : Option Addr} {l : List Int} (h : IntsG w g N A l) {p : Addr} (hp : p.block = g) (u : Value) : IntsG (w.setCell p u) g N A l := fun k x hx => by
  obtain ⟨ad, e, h1, h2, h4⟩ := h k x hx
  exact ⟨ad, e, h1, h2, (World.cell?_of_block (heap_setCell_other w p _ u (by rw [addr_block]; omega))).trans h4⟩
theorem IntsG.own {w : World} {base g n c : Nat} {A : Option Addr} {l : List Int} (h : w.ownsRow base 3 1 (.slice A n c) n (l.map (Value.int .i64))) (hg : g + 1 < base) : IntsG w g w.heap.size A l := fun k x hx => by
  obtain ⟨ad, e, h1, h2, _, h4⟩ := IntsX.own h hg k x hx
  exact ⟨ad, e, h1, h2, h4⟩

theorem wp_one {o : Oper} {a : Act} {K : Act → World → Prop} {Q : Exit → Act → World → Prop} {w : World} (s x : Operand)
    (ho : o.op = .call { callee := .builtin .append, args := #[s, x], argTypes := #[22, 22] }) (hty : o.type = 22) (base : Nat) (l : List Int) (y : Int) (v : Value) (A : Option Addr) (c : Nat) (B : Nat)
    (hs : a.eval s = v) (hown : w.ownsRow base 3 1 v l.length (l.map (Value.int .i64))) (hx : a.eval x = .slice A 1 c) (hm : Ints w B A [y]) (hl : l.length ≤ 1000000) (hbase : base ≤ w.heap.size)
    (h : ∀ A' c' w', w'.ownsRow base 3 1 (.slice A' (l.length + 1) c') (l.length + 1) ((l ++ [y]).map (Value.int .i64)) → Below base w w' → K (a.put o.dst (.slice A' (l.length + 1) c')) w') :
    o.wp Try.prog a w K Q := by
  refine wp_appL s x ho hty base l [y] v A c B hs hown hx hm hl (by simp) hbase fun A' c' w' h1 h2 _ => ?_
  rw [List.length_append, List.length_singleton] at h1 ⊢
  exact h A' c' w' h1 h2

theorem openL_iff {C R B F : Int} {cl : List Int} (h : Ok C R B F cl) {x : Int} : x ∈ openL C cl ↔ (0 ≤ x ∧ x < C) ∧ x ∉ cl := by
  have := h.c3
  unfold openL
  rw [colsTo_mem]
  constructor
  · rintro ⟨i, hi, hp, rfl⟩
    refine ⟨⟨by omega, by omega⟩, ?_⟩
    simpa [isIn] using hp
  · rintro ⟨⟨h1, h2⟩, h3⟩
    refine ⟨x.toNat, by omega, ?_, by omega⟩
    have e : ((x.toNat : Nat) : Int) = x := by omega
    simp [isIn, e, h3]
theorem shut_one {C R B F : Int} {cl : List Int} {s : Int} (h : Ok C R B F cl) (hs : 0 ≤ s ∧ s < C) : shutL C cl s = clL cl [s] := by
  have := shutsL_same (st := [s]) h (by simpa using hs)
  simpa [shutsL] using this
theorem ned_line {C R B F : Int} {cl l : List Int} (h : findErr C R B F cl l = 0) {s : Int} (hs : 0 ≤ s ∧ s < C) {r : Int} (hr : LineP C B F (isIn (shutL C cl s)) (colsTo (isIn (colm C l)) C.toNat) r) : (r != ((findL C R B F cl l).length : Int)) = decide (s ∈ nedL C R B F cl l) := by
  have hk := find_holes h
  have hk' : HolesOk C R B F (clL cl [s]) l := ⟨clL_ok hk.ok (by simpa using hs), hk.len, hk.all⟩
  rw [shut_one hk.ok hs] at hr
  obtain ⟨p1, p2, p3, _⟩ := stands_shut h hs
  have key : r ≠ ((findL C R B F cl l).length : Int) ↔ s ∈ nedL C R B F cl l := by
    rw [← p3]
    rcases line_find hk' (colsTo_in hk) hr with ⟨g1, g2⟩ | ⟨g1, g2, g3⟩
    · exact ⟨fun _ => .inl g2, fun _ => by omega⟩
    · have := p1 g2
      constructor
      · intro hne
        exact .inr ⟨g2, by omega⟩
      · rintro (h5 | ⟨_, h6⟩)
        · omega
        · omega
  by_cases hm : s ∈ nedL C R B F cl l
  · rw [decide_eq_true hm]
    simpa using key.2 hm
  · rw [decide_eq_false hm]
    have : r = ((findL C R B F cl l).length : Int) := Classical.byContradiction fun hne => hm (key.1 hne)
    simpa using this
theorem ned_filter {C R B F : Int} {cl l : List Int} (h : findErr C R B F cl l = 0) : (openL C cl).filter (fun s => decide (s ∈ nedL C R B F cl l)) = nedL C R B F cl l := by
  have hk := find_holes h
  refine rise_ext _ _ ((colsTo_rise _ _).filter _) (need_rise hk h).1.1 fun x => ?_
  rw [List.mem_filter, openL_iff hk.ok, decide_eq_true_eq]
  constructor
  · exact fun hx => hx.2
  · intro hx
    have hb := (need_rise hk h).1.2 x hx
    exact ⟨⟨hb, use_open h ((stands_shut h hb).2.2.2 hx)⟩, hx⟩

set_option maxRecDepth 100000 in
set_option maxHeartbeats 4000000 in
/-- the reference's Needed -/
theorem refNeeded44_any (C R B F : Int) (A : Option Addr) (cap : Nat) (cl : List Int) (D : Option Addr) (dap : Nat) (l : List Int) (w : World) (hcl : cl.length ≤ 1000000) (hll : l.length ≤ 1000000) (hr : Ints w w.heap.size A cl) (hl : Ints w w.heap.size D l) :
    Calls Try.prog 44 #[.agg #[.int .i64 C, .int .i64 R, .int .i64 B, .int .i64 F, .slice A cl.length cap], .slice D l.length dap] w (RetIntsE w (nedL C R B F cl l) (findErr C R B F cl l)) := by
  have hb0 : Below w.heap.size w ((w.alloc (.cells #[.int .i64 C, .int .i64 R, .int .i64 B, .int .i64 F, .slice A cl.length cap] 24)).alloc (.cells #[.slice none 0 0, .int .i64 0] 36)) := (below_new w (.cells #[.int .i64 C, .int .i64 R, .int .i64 B, .int .i64 F, .slice A cl.length cap] 24)).alloc (by simp) _
  have hbk : Blk ((w.alloc (.cells #[.int .i64 C, .int .i64 R, .int .i64 B, .int .i64 F, .slice A cl.length cap] 24)).alloc (.cells #[.slice none 0 0, .int .i64 0] 36)) w.heap.size 24 #[.int .i64 C, .int .i64 R, .int .i64 B, .int .i64 F, .slice A cl.length cap] := (Blk.new _ _ _).alloc _
  have hbq : Blk ((w.alloc (.cells #[.int .i64 C, .int .i64 R, .int .i64 B, .int .i64 F, .slice A cl.length cap] 24)).alloc (.cells #[.slice none 0 0, .int .i64 0] 36)) (w.heap.size + 1) 36 #[.slice none 0 0, .int .i64 0] := Blk.newAt (by simp)
  have iA0 := hr.behind hb0
  have iD0 := hl.behind hb0
  have H95 := Lib.hid (fun (W : World) (ha : Ints W W.heap.size A cl) (hd : Ints W W.heap.size D l) => round95_any C R B F A cap cl D dap l W hcl hll ha hd)
  by_cases he : findErr C R B F cl l = 0
  case neg =>
    have hL0 : nedL C R B F cl l = [] := if_neg he
    have n1 : (findErr C R B F cl l == 0) = false := by simpa using he
    have n2 : (findErr C R B F cl l != 0) = true := by simpa using he
    rw [hL0]
    rw [if_neg he] at H95
    clear he hL0
    generalize findErr C R B F cl l = er at *
    generalize (findL C R B F cl l).length = N at *
    go_enter Try.func44, Try.ntmps44
    go_wp2_with (first
      | (go_at_call 95; refine (H95.out _ iA0 iD0).mono ?_; rintro e w1 ⟨E, ec, rfl, e1, e2, iE1, hb1⟩; have hbq1 := hbq.below hb1 (by simp); obtain ⟨m0, m1, m2, m3⟩ : w1.cell? ⟨w.heap.size + 1, 0, none⟩ = some (.slice none 0 0) ∧ w1.cell? ⟨w.heap.size + 1, 1, none⟩ = some (.int .i64 0) ∧ w1.frozen? ⟨w.heap.size + 1, 0, none⟩ = false ∧ w1.frozen? ⟨w.heap.size + 1, 1, none⟩ = false := ⟨hbq1.cell 0, hbq1.cell 1, hbq1.frozen 0, hbq1.frozen 1⟩))
    refine bodyPost_ret (v := .agg #[.slice none 0 0, .int .i64 (er)]) (results_cell_row (g := w.heap.size + 1) rfl _ _ 36 _ (0, 0) _ rfl ((hbq1.store 0 (.slice none 0 0)).store 1 (.int .i64 (er))) Try.underlying36 rfl info36) rfl ?_
    exact ⟨none, 0, rfl, Nat.le_refl _, by simp [maxLen], Ints.nil, ((below_next hb0 (by simp; omega) hb1).setCell (p := ⟨w.heap.size + 1, 0, none⟩) (by simp) _).setCell (p := ⟨w.heap.size + 1, 1, none⟩) (by simp) _⟩
  case pos =>
    have hk := find_holes he
    have hC1 : 1 ≤ C := by have := hk.ok.c3; omega
    have q2 := hk.ok.c120
    have k3 := hk.ok.b0
    have k4 := hk.ok.f0
    have k5 := hk.ok.bf
    have hin := colsTo_in hk
    have hcb : ∀ x ∈ colsTo (isIn (colm C l)) C.toNat, 0 ≤ x ∧ x < C := fun x hx => hk.cols x ((hin x).1 hx)
    have hcn : (colsTo (isIn (colm C l)) C.toNat).length ≤ 1000 := by have : (colsTo (isIn (colm C l)) C.toNat).length ≤ C.toNat := colsTo_len _ _; omega
    have hob : ∀ x ∈ openL C cl, 0 ≤ x ∧ x < C := fun x hx => ((openL_iff hk.ok).1 hx).1
    have hon : (openL C cl).length ≤ 120 := by have : (openL C cl).length ≤ C.toNat := colsTo_len _ _; omega
    have HP : Hid (∀ s, 0 ≤ s ∧ s < C → ∀ r, LineP C B F (isIn (shutL C cl s)) (colsTo (isIn (colm C l)) C.toNat) r → (r != ((findL C R B F cl l).length : Int)) = (fun s => decide (s ∈ nedL C R B F cl l)) s) := fun s hs r hr => ned_line he hs hr
    have H96 := Lib.hid (fun (W : World) (ha : Ints W W.heap.size A cl) => open_own C R B F A cap cl W hC1 q2 hcl ha)
    have HB := Lib.hid hob
    rw [if_pos he, he] at H95
    rw [he, ← ned_filter he]
    clear hk hin hob he
    generalize colsTo (isIn (colm C l)) C.toNat = cs at *
    generalize openL C cl = ol at *
    generalize (fun s => decide (s ∈ nedL C R B F cl l)) = pu at *
    generalize (findL C R B F cl l).length = N at *
    go_enter Try.func44, Try.ntmps44
    go_wp2_with (first
      | (go_at_call 95; refine (H95.out _ iA0 iD0).mono ?_; rintro e w1 ⟨E, ec, rfl, e1, e2, iE1, hb1⟩; have bw1 := below_next hb0 (by simp; omega) hb1; have hbk1 := hbk.below hb1 (by simp; omega); have hbq1 := hbq.below hb1 (by simp); have iA1 := iA0.behind hb1; have hn2 := below_new w1 (.cells #[.slice none 0 0, .int .i64 0] 36); have bw2 := below_next bw1 bw1.size hn2; have hbk2 := hbk1.below hn2 hbk1.lt; have hbq2 := hbq1.below hn2 hbq1.lt; have iA2 := iA1.behind hn2; have hbg2 := Blk.new w1 36 #[.slice none 0 0, .int .i64 0]; have iE2 := iE1.alloc (Nat.le_refl _) (.cells #[.slice none 0 0, .int .i64 0] 36); obtain ⟨d0, d1, d2, d3, d4⟩ := hbk2.five)
      | (go_at_call 96; refine (H96.out _ iA2).mono ?_; rintro e w3 ⟨G, gap, rfl, hownG, hb3⟩; have bw3 := below_next bw2 bw2.size hb3; have hbk3 := hbk2.below hb3 hbk2.lt; have hbq3 := hbq2.below hb3 hbq2.lt; have hbg3 := hbg2.below hb3 hbg2.lt; have iE3 := iE2.below (hb3.mono hn2.size); have iA3 := hr.below bw3; have iG3 := IntsG.own hownG (g := w1.heap.size) (by simp)))
    have hz3 : w1.heap.size + 1 ≤ w3.heap.size := by have := hb3.size; simp at this; omega
    have hz1 : w.heap.size + 2 ≤ w1.heap.size := by have := hb1.size; simp at this; omega
    clear hb0 hbk hbq iA0 iD0 H95 hb1 bw1 hbk1 hbq1 iA1 hn2 bw2 hbk2 hbq2 iA2 hbg2 iE2 d0 d1 d2 d3 d4 H96 hownG hb3 iE1 e1 e2
    go_loopw [10] (fun i wr => ∃ (k : Nat) (A' : Option Addr) (c' : Nat), k ≤ ol.length ∧ i = .int .i64 k ∧ Below w.heap.size w wr ∧ Blk wr w.heap.size 24 #[.int .i64 C, .int .i64 R, .int .i64 B, .int .i64 F, .slice A cl.length cap] ∧ Blk wr (w.heap.size + 1) 36 #[.slice none 0 0, .int .i64 0] ∧ Blk wr w1.heap.size 36 #[.slice A' ((ol.take k).filter pu).length c', .int .i64 0] ∧ w3.heap.size ≤ wr.heap.size ∧ wr.ownsRow w3.heap.size 3 1 (.slice A' ((ol.take k).filter pu).length c') ((ol.take k).filter pu).length (((ol.take k).filter pu).map (Value.int .i64)) ∧ IntsG wr w1.heap.size w3.heap.size G ol ∧ Ints wr w1.heap.size E cs ∧ Ints wr w.heap.size A cl)
      (fun i _ => ol.length - (intOf i).toNat)
    case atStart => exact ⟨0, none, 0, Nat.zero_le _, rfl, bw3, hbk3, hbq3, hbg3, Nat.le_refl _, World.ownsRow_nil _ _ _ _, iG3, iE3, iA3⟩
    case round =>
      clear bw3 hbk3 hbq3 hbg3 iG3 iE3 iA3
      obtain ⟨k, A', c', hk, rfl, hb, hbk, hbq, hbg, hzr, hown, iG, iE, iA⟩ := hrel
      obtain ⟨d0, d1, d2, d3, d4⟩ := hbk.five
      have hbs := hb.size
      by_cases hlt : k < ol.length
      · obtain ⟨ad, hA, hadb, hadn, hce⟩ := iG.get hlt
        subst hA
        have hlt2 : (k : Int) < (ol.length : Int) := by omega
        have hs := HB.out _ (List.getElem_mem hlt)
        have HPS := Lib.hid (HP.out _ hs)
        have HY := Lib.hid (filt_yes (pu := pu) hlt)
        have HN := Lib.hid (filt_no (pu := pu) hlt)
        have hgl : ((ol.take k).filter pu).length ≤ 120 := by have := filt_len (L := ol) (k := k) (pu := pu); omega
        have hsl : (shutL C cl ol[k]).length ≤ 1000000 := by have := shutL_len (C := C) (cl := cl) (s := ol[k]); omega
        generalize (ol.take k).filter pu = gs at *
        generalize ol[k] = s at *
        have iAr := iA.more hbs
        have iEr := iE.more (show w1.heap.size ≤ wr.heap.size by omega)
        have hkl := hbk.lt
        go_wp2_with fail
        go_region_held3 (fun w' => w'.cell? ⟨w.heap.size, 0, none⟩ = some (.int .i64 C) ∧ w'.cell? ⟨w.heap.size, 1, none⟩ = some (.int .i64 R) ∧ w'.cell? ⟨w.heap.size, 2, none⟩ = some (.int .i64 B) ∧ w'.cell? ⟨w.heap.size, 3, none⟩ = some (.int .i64 F) ∧ w'.cell? ⟨w.heap.size, 4, none⟩ = some (.slice A cl.length cap) ∧ w'.cell? (ad.add k) = some (.int .i64 s)) (first | exact K6 | exact K5 | exact ⟨d0, d1, d2, d3, d4, hce⟩ | go_keep)
          (first
            | (go_at_call 85; refine (shut85_own C R B F A cap cl s _ hC1 q2 hcl (by first | exact iAr | exact iAr.behind (Below.refl _ _).drew)).mono ?_; rintro e w5 ⟨A5, c5, rfl, hown5, hb5'⟩; have hb5 : Below wr.heap.size wr w5 := (by first | exact hb5' | exact (Below.refl _ _).drew.trans hb5'); have hbk5 := hbk.below hb5 hkl; have K5 : w5.cell? ⟨w.heap.size, 0, none⟩ = some (.int .i64 C) ∧ w5.cell? ⟨w.heap.size, 1, none⟩ = some (.int .i64 R) ∧ w5.cell? ⟨w.heap.size, 2, none⟩ = some (.int .i64 B) ∧ w5.cell? ⟨w.heap.size, 3, none⟩ = some (.int .i64 F) ∧ w5.cell? ⟨w.heap.size, 4, none⟩ = some (.slice A cl.length cap) ∧ w5.cell? (ad.add k) = some (.int .i64 s) := ⟨hbk5.cell 0, hbk5.cell 1, hbk5.cell 2, hbk5.cell 3, hbk5.cell 4, (hb5.cell (p := ad.add k) (by rw [addr_block]; omega)).trans hce⟩; have iE5 := iEr.behind hb5)
            | (go_at_call 87; refine (fewest87_any C R B F A5 c5 (shutL C cl s) E ec cs _ hC1 q2 k3 k4 k5 hsl hcn hcb (Ints.of_own hown5) iE5).mono ?_; rintro e w6 ⟨r, rfl, hr6, hb6'⟩; have hb6 : Below wr.heap.size wr w6 := hb5.trans (hb6'.mono hb5.size); have hbk6 := hbk.below hb6 hkl; have K6 : w6.cell? ⟨w.heap.size, 0, none⟩ = some (.int .i64 C) ∧ w6.cell? ⟨w.heap.size, 1, none⟩ = some (.int .i64 R) ∧ w6.cell? ⟨w.heap.size, 2, none⟩ = some (.int .i64 B) ∧ w6.cell? ⟨w.heap.size, 3, none⟩ = some (.int .i64 F) ∧ w6.cell? ⟨w.heap.size, 4, none⟩ = some (.slice A cl.length cap) ∧ w6.cell? (ad.add k) = some (.int .i64 s) := ⟨hbk6.cell 0, hbk6.cell 1, hbk6.cell 2, hbk6.cell 3, hbk6.cell 4, (hb6.cell (p := ad.add k) (by rw [addr_block]; omega)).trans hce⟩))
        all_goals (
          have hq := HPS.out r hr6
          have bw6 := below_next hb hbs hb6
          have hbq6 := hbq.below hb6 hbq.lt
          have hbg6 := hbg.below hb6 hbg.lt
          have hown6 := own_below hown hb6
          have iG6 := iG.below (hb6.mono hzr)
          have iE6 := iE.below (hb6.mono (show w1.heap.size ≤ wr.heap.size by omega))
          have iA6 := iA.below (hb6.mono hbs)
          have hz6 := hb6.size
          clear d0 d1 d2 d3 d4 hce
          obtain ⟨d0, d1, d2, d3, d4, hce⟩ := K6
          cases hpu : pu s with
          | true =>
            have z2 : (r != (N : Int)) = true := by rw [hq, hpu]
            have z1 : (r == (N : Int)) = false := by simpa [bne] using z2
            have HYY := Lib.hid (HY.out hpu)
            have u0 := hbg6.cell 0
            have u1 := hbg6.frozen 0
            clear hq hpu HPS HY HN K5
            have b7 : Below w6.heap.size w6 (w6.drew.alloc (.cells #[.int .i64 s] 3)) := (Below.refl _ _).drew.alloc (by simp) _
            have i7 := one_newC w6.drew s
            have hown7 := own_below hown6 b7
            have hz7 : w3.heap.size ≤ (w6.drew.alloc (.cells #[.int .i64 s] 3)).heap.size := by have := b7.size; omega
            have u0a : (w6.alloc (.cells #[.int .i64 s] 3)).cell? ⟨w1.heap.size, 0, none⟩ = some (.slice A' gs.length c') := (hbg6.alloc _).cell 0
            go_wp2_with fail
            go_region_law (rw [if_pos (by rfl)]; refine wp_one _ _ (by rfl) (by rfl) w3.heap.size gs s (.slice A' gs.length c') (some ⟨w6.drew.heap.size, 0, none⟩) 1 (w6.drew.alloc (.cells #[.int .i64 s] 3)).heap.size (by rfl) hown7 (by rfl) i7 (by omega) hz7 ?_; intro A8 c8 w8 hown8 hb8'; have hb8 : Below w3.heap.size w6 w8 := (b7.mono (by omega)).trans hb8'; have hbg8 := hbg6.below hb8 (by omega); have u08 := hbg8.cell 0; have u18 := hbg8.frozen 0; have bw8 : Below w.heap.size w w8 := bw6.trans (hb8.mono (by omega)); have hbk8 := hbk6.below hb8 (by omega); have hbq8 := hbq6.below hb8 (by omega); have iG8 := iG6.below hb8; have iE8 := iE6.below (hb8.mono (by omega)); have iA8 := iA6.below (hb8.mono (by omega)); have hz8 := hb8.size)
            all_goals (
              go_wp2_with fail
              go_roundw
              case rel =>
                refine ⟨k + 1, A8, c8, by omega, by go_num, bw8.setCell (p := ⟨w1.heap.size, 0, none⟩) (by simp; omega) _, hbk8.far (p := ⟨w1.heap.size, 0, none⟩) (by simp; omega) _, hbq8.far (p := ⟨w1.heap.size, 0, none⟩) (by simp; omega) _, ?_, by simp [World.setCell]; omega, ?_, iG8.set rfl _, iE8.setCell (p := ⟨w1.heap.size, 0, none⟩) (by simp) _, iA8.setCell (p := ⟨w1.heap.size, 0, none⟩) (by simp; omega) _⟩
                · have h9 := hbg8.store 0 (.slice A8 (gs.length + 1) c8)
                  rw [HYY.out, show (gs ++ [s]).length = gs.length + 1 by simp]
                  exact h9
                · rw [HYY.out, show (gs ++ [s]).length = gs.length + 1 by simp]; exact ownsRow_setCell_below hown8 (a := ⟨w1.heap.size, 0, none⟩) (show w1.heap.size < w3.heap.size by omega) _
              case measure => simp [intOf]; try omega)
          | false =>
            have z2 : (r != (N : Int)) = false := by rw [hq, hpu]
            have z1 : (r == (N : Int)) = true := by simpa [bne] using z2
            have HYY := Lib.hid (HN.out hpu)
            clear hq hpu HPS HY HN K5
            go_wp2_with fail
            go_roundw
            case rel => exact ⟨k + 1, A', c', by omega, by go_num, bw6, hbk6, hbq6, by rw [HYY.out]; exact hbg6, by omega, by rw [HYY.out]; exact hown6, iG6, iE6, iA6⟩
            case measure => simp [intOf]; try omega)
      · obtain rfl : k = ol.length := by omega
        rw [List.take_length] at hbg hown
        have u0 := hbg.cell 0
        have u1 := hbg.cell 1
        obtain ⟨m0, m1, m2, m3⟩ : wr.cell? ⟨w.heap.size + 1, 0, none⟩ = some (.slice none 0 0) ∧ wr.cell? ⟨w.heap.size + 1, 1, none⟩ = some (.int .i64 0) ∧ wr.frozen? ⟨w.heap.size + 1, 0, none⟩ = false ∧ wr.frozen? ⟨w.heap.size + 1, 1, none⟩ = false := ⟨hbq.cell 0, hbq.cell 1, hbq.frozen 0, hbq.frozen 1⟩
        go_wp2_with fail
        obtain ⟨s1, s2, _⟩ := own_facts hown
        refine bodyPost_ret (v := .agg #[.slice A' (ol.filter pu).length c', .int .i64 0]) (results_cell_row (g := w.heap.size + 1) rfl _ _ 36 _ (0, 0) _ rfl ((hbq.store 0 (.slice A' (ol.filter pu).length c')).store 1 (.int .i64 0)) Try.underlying36 rfl info36) rfl ?_
        exact ⟨A', c', rfl, s1, s2, Ints.of_own (ownsRow_setCell_below (ownsRow_setCell_below hown (a := ⟨w.heap.size + 1, 0, none⟩) (show w.heap.size + 1 < w3.heap.size by omega) _) (a := ⟨w.heap.size + 1, 1, none⟩) (show w.heap.size + 1 < w3.heap.size by omega) _), (hb.setCell (p := ⟨w.heap.size + 1, 0, none⟩) (by simp) _).setCell (p := ⟨w.heap.size + 1, 1, none⟩) (by simp) _⟩

end Go.Proofs.Ytnjmkdgglpcfpaa
