import Derived.Test.YtieclenlldjfjaaGreatG1
set_option linter.unusedSimpArgs false
set_option linter.unusedVariables false
/- Makings in memory; isItem 120, isMaking 75. -/
namespace Go.Proofs.YtieclenlldjfjaaGreat
open Go.RowKit

/-- a making -/
structure Mkg where
  sym : Int
  items : List Int
  cost : Int

/-- an item of a grammar of Sy symbols -/
def itemB (Sy n : Int) : Bool := decide (1 ≤ n ∧ n ≤ Sy) || decide (-20 ≤ n ∧ n ≤ -1)
def mkgB (Sy : Int) (m : Mkg) : Bool := decide (1 ≤ m.sym ∧ m.sym ≤ Sy) && decide (1 ≤ m.cost ∧ m.cost ≤ 1000) && decide (m.items.length ≤ 3) && m.items.all (itemB Sy)

/-- the slice at A reads, in w, as the makings ms; what it reads lies below block B -/
def Gr (w : World) (B : Nat) (A : Option Addr) (ms : List Mkg) : Prop :=
  ∀ (k : Nat) (m : Mkg), ms[k]? = some m → ∃ ad, A = some ad ∧ ad.block < B ∧ w.cell? (ad.add (k * 3)) = some (.int .i64 m.sym) ∧
    (∃ IA icap, w.cell? ⟨(ad.add (k * 3)).block, (ad.add (k * 3)).off + 1, none⟩ = some (.slice IA m.items.length icap) ∧ m.items.length ≤ icap ∧ icap ≤ maxLen ∧ Ints w B IA m.items) ∧
    w.cell? ⟨(ad.add (k * 3)).block, (ad.add (k * 3)).off + 2, none⟩ = some (.int .i64 m.cost)

section
variable {w w' : World} {B B' : Nat} {A : Option Addr} {ms : List Mkg}
theorem Gr.get (h : Gr w B A ms) {k : Nat} (hk : k < ms.length) : ∃ ad, A = some ad ∧ ad.block < B ∧ w.cell? (ad.add (k * 3)) = some (.int .i64 ms[k].sym) ∧
    (∃ IA icap, w.cell? ⟨(ad.add (k * 3)).block, (ad.add (k * 3)).off + 1, none⟩ = some (.slice IA ms[k].items.length icap) ∧ ms[k].items.length ≤ icap ∧ icap ≤ maxLen ∧ Ints w B IA ms[k].items) ∧
    w.cell? ⟨(ad.add (k * 3)).block, (ad.add (k * 3)).off + 2, none⟩ = some (.int .i64 ms[k].cost) :=
  h k _ (List.getElem?_eq_getElem hk)
theorem Gr.moved (h : Gr w B A ms) (hw : ∀ p : Addr, p.block < B → w'.cell? p = w.cell? p) : Gr w' B A ms := fun k m hm => by
  obtain ⟨ad, e, hb, h0, ⟨IA, icap, h1, h2, h3, h4⟩, h5⟩ := h k m hm
  exact ⟨ad, e, hb, (hw _ (by rw [addr_block]; exact hb)).trans h0, ⟨IA, icap, (hw _ (by show (ad.add (k * 3)).block < B; rw [addr_block]; exact hb)).trans h1, h2, h3, h4.moved hw⟩, (hw _ (by show (ad.add (k * 3)).block < B; rw [addr_block]; exact hb)).trans h5⟩
theorem Gr.more (h : Gr w B A ms) (hB : B ≤ B') : Gr w B' A ms := fun k m hm => by
  obtain ⟨ad, e, hb, h0, ⟨IA, icap, h1, h2, h3, h4⟩, h5⟩ := h k m hm
  exact ⟨ad, e, Nat.lt_of_lt_of_le hb hB, h0, ⟨IA, icap, h1, h2, h3, h4.more hB⟩, h5⟩
theorem Gr.below (h : Gr w B A ms) (hb : Below B w w') : Gr w' B A ms := h.moved fun _ hp => hb.cell hp
theorem Gr.behind (h : Gr w w.heap.size A ms) (hb : Below w.heap.size w w') : Gr w' w'.heap.size A ms := (h.below hb).more hb.size
end

set_option maxRecDepth 100000 in
set_option maxHeartbeats 1000000 in
theorem isItem_any (Sy St Ot Mi Ad Sm : Int) (A : Option Addr) (gn gcap : Nat) (n : Int) (w : World) :
    Calls Tryz.prog 120 #[gv Sy St (.slice A gn gcap) Ot Mi Ad Sm, .int .i64 n] w fun e w' => e = .returned (.bool (itemB Sy n)) ∧ Below w.heap.size w w' := by
  by_cases h1 : 1 ≤ n ∧ n ≤ Sy
  · have hd : Hid (decide (1 ≤ n ∧ n ≤ Sy) = true) := decide_eq_true h1
    have hR : Hid (itemB Sy n = true) := by show itemB Sy n = true; unfold itemB; rw [hd.out]; rfl
    clear h1
    go_enter Tryz.func120, Tryz.ntmps120
    go_wp2_with (go_at_call 73; refine (isSymbol_any _ _ _ _ _ _ _ _ _ rfl).mono ?_; rw [hd.out]; rintro e w1 ⟨rfl, hb1⟩)
    go_ret
    exact ⟨ret_bool hR.out.symm, below_next (below_new _ _) (by simp) hb1⟩
  · have hd : Hid (decide (1 ≤ n ∧ n ≤ Sy) = false) := decide_eq_false h1
    have hR : Hid (itemB Sy n = decide (-20 ≤ n ∧ n ≤ -1)) := by show itemB Sy n = _; unfold itemB; rw [hd.out]; rfl
    clear h1
    go_enter Tryz.func120, Tryz.ntmps120
    go_wp2_with (go_at_call 73; refine (isSymbol_any _ _ _ _ _ _ _ _ _ rfl).mono ?_; rw [hd.out]; rintro e w1 ⟨rfl, hb1⟩)
    all_goals
      go_ret
      exact ⟨ret_bool (by rw [hR.out]; simp [*]; try omega), below_next (below_new _ _) (by simp) hb1⟩

theorem items_next {Sy : Int} {l : List Int} {k : Nat} (hk : k < l.length) (h : (l.take k).all (itemB Sy) = true) (hx : itemB Sy l[k] = true) : (l.take (k + 1)).all (itemB Sy) = true := by
  rw [List.take_succ_eq_append_getElem hk, List.all_append, h]
  simp [hx]

set_option maxRecDepth 100000 in
set_option maxHeartbeats 1000000 in
theorem isMaking_any (Sy St Ot Mi Ad Sm : Int) (A : Option Addr) (gn gcap : Nat) (m : Mkg) (IA : Option Addr) (icap : Nat) (w : World) (hI : Ints w w.heap.size IA m.items) :
    Calls Tryz.prog 75 #[gv Sy St (.slice A gn gcap) Ot Mi Ad Sm, .agg #[.int .i64 m.sym, .slice IA m.items.length icap, .int .i64 m.cost]] w fun e w' => e = .returned (.bool (mkgB Sy m)) ∧ Below w.heap.size w w' := by
  obtain ⟨ms, its, mc⟩ := m
  simp only at hI ⊢
  have hb2 : Below w.heap.size w ((w.alloc (.cells #[.int .i64 Sy, .int .i64 St, .slice A gn gcap, .int .i64 Ot, .int .i64 Mi, .int .i64 Ad, .int .i64 Sm] 24)).alloc (.cells #[.int .i64 ms, .slice IA its.length icap, .int .i64 mc] 105)) := (below_new _ _).alloc (by simp) _
  have kG : Blk ((w.alloc (.cells #[.int .i64 Sy, .int .i64 St, .slice A gn gcap, .int .i64 Ot, .int .i64 Mi, .int .i64 Ad, .int .i64 Sm] 24)).alloc (.cells #[.int .i64 ms, .slice IA its.length icap, .int .i64 mc] 105)) w.heap.size 24 #[.int .i64 Sy, .int .i64 St, .slice A gn gcap, .int .i64 Ot, .int .i64 Mi, .int .i64 Ad, .int .i64 Sm] := (Blk.new _ _ _).alloc _
  have kM : Blk ((w.alloc (.cells #[.int .i64 Sy, .int .i64 St, .slice A gn gcap, .int .i64 Ot, .int .i64 Mi, .int .i64 Ad, .int .i64 Sm] 24)).alloc (.cells #[.int .i64 ms, .slice IA its.length icap, .int .i64 mc] 105)) (w.heap.size + 1) 105 #[.int .i64 ms, .slice IA its.length icap, .int .i64 mc] := Blk.newAt (by simp)
  by_cases h1 : 1 ≤ ms ∧ ms ≤ Sy
  · have hd1 : Hid (decide (1 ≤ ms ∧ ms ≤ Sy) = true) := decide_eq_true h1
    by_cases h2 : 1 ≤ mc ∧ mc ≤ 1000
    · have hd2 : Hid (decide (1 ≤ mc ∧ mc ≤ 1000) = true) := decide_eq_true h2
      by_cases h3 : its.length ≤ 3
      · have q1 : decide ((3 : Int) < (its.length : Int)) = false := decide_eq_false (by omega)
        have q2 : decide (3 < its.length) = false := decide_eq_false (by omega)
        have hR : Hid (mkgB Sy ⟨ms, its, mc⟩ = its.all (itemB Sy)) := by show mkgB Sy _ = _; unfold mkgB; simp only [decide_eq_true h1, decide_eq_true h2, decide_eq_true h3]; rfl
        clear h1 h2
        go_enter Tryz.func75, Tryz.ntmps75
        go_wp2_with (first
          | (go_at_call 73; refine (isSymbol_any _ _ _ _ _ _ _ _ _ rfl).mono ?_; rw [hd1.out]; rintro e w1 ⟨rfl, hb1⟩; have kM1 := kM.below hb1 (by simp); obtain ⟨c0, c1, c2⟩ : w1.cell? ⟨w.heap.size + 1, 0, none⟩ = some (.int .i64 ms) ∧ w1.cell? ⟨w.heap.size + 1, 1, none⟩ = some (.slice IA its.length icap) ∧ w1.cell? ⟨w.heap.size + 1, 2, none⟩ = some (.int .i64 mc) := ⟨kM1.cell 0, kM1.cell 1, kM1.cell 2⟩)
          | (go_at_call 74; refine (isCost_any _ _).mono ?_; rw [hd2.out]; rintro e w2 ⟨rfl, rfl⟩))
        have hbw := below_next hb2 hb2.size hb1
        have kG1 := kG.below hb1 (by simp; omega)
        obtain ⟨g0, hg0⟩ : ∃ g0, g0 = w.heap.size := ⟨_, rfl⟩
        go_loopw [27] (fun i wr => ∃ k : Nat, k ≤ its.length ∧ i = .int .i64 k ∧ Hid ((its.take k).all (itemB Sy) = true) ∧ Below w1.heap.size w1 wr)
          (fun i _ => its.length - (intOf i).toNat)
        case atStart => exact ⟨0, Nat.zero_le _, rfl, by simp [Hid], Below.refl _ _⟩
        case round =>
          obtain ⟨k, hk, rfl, hall, hb⟩ := hrel
          have hbr := below_next hbw hbw.size hb
          have kGr := kG1.below hb kG1.lt
          obtain ⟨a0, a1, a2, a3, a4, a5, a6⟩ : wr.cell? ⟨w.heap.size, 0, none⟩ = some (.int .i64 Sy) ∧ wr.cell? ⟨w.heap.size, 1, none⟩ = some (.int .i64 St) ∧ wr.cell? ⟨w.heap.size, 2, none⟩ = some (.slice A gn gcap) ∧ wr.cell? ⟨w.heap.size, 3, none⟩ = some (.int .i64 Ot) ∧ wr.cell? ⟨w.heap.size, 4, none⟩ = some (.int .i64 Mi) ∧ wr.cell? ⟨w.heap.size, 5, none⟩ = some (.int .i64 Ad) ∧ wr.cell? ⟨w.heap.size, 6, none⟩ = some (.int .i64 Sm) := ⟨kGr.cell 0, kGr.cell 1, kGr.cell 2, kGr.cell 3, kGr.cell 4, kGr.cell 5, kGr.cell 6⟩
          by_cases hlt : k < its.length
          · obtain ⟨ad, rfl, hB, hc⟩ := (hI.below hbr).get hlt
            have hll2 : (k : Int) < (its.length : Int) := by omega
            cases hx : itemB Sy its[k] with
            | true =>
              have hn : Hid ((its.take (k + 1)).all (itemB Sy) = true) := items_next hlt hall.out hx
              have HX := Lib.hid hx
              clear hall hx
              go_wp2_with (go_at_call 120; refine (isItem_any _ _ _ _ _ _ _ _ _ _ _).mono ?_; rw [HX.out]; rintro e w3 ⟨rfl, hb3⟩)
              go_roundw
              case rel => exact ⟨k + 1, by omega, by go_num, hn, below_next hb hb.size hb3⟩
              case measure => simp [intOf]; try omega
            | false =>
              have HX := Lib.hid hx
              have hm : Hid (mkgB Sy ⟨ms, its, mc⟩ = false) := by
                show _ = _
                rw [hR.out]
                cases h : its.all (itemB Sy) with
                | false => rfl
                | true =>
                  have := List.all_eq_true.1 h its[k] (List.getElem_mem hlt)
                  rw [hx] at this; cases this
              clear hall hx hR
              go_wp2_with (go_at_call 120; refine (isItem_any _ _ _ _ _ _ _ _ _ _ _).mono ?_; rw [HX.out]; rintro e w3 ⟨rfl, hb3⟩)
              go_ret
              exact ⟨ret_bool hm.out.symm, below_next hbr hbr.size hb3⟩
          · have hm : Hid (mkgB Sy ⟨ms, its, mc⟩ = true) := by
              show _ = _
              rw [hR.out]
              have := hall.out
              rwa [List.take_of_length_le (by omega)] at this
            clear hall hR
            go_wp2_with fail
            go_ret
            exact ⟨ret_bool hm.out.symm, hbr⟩
      · have q1 : decide ((3 : Int) < (its.length : Int)) = true := decide_eq_true (by omega)
        have q2 : decide (3 < its.length) = true := decide_eq_true (by omega)
        have hR : Hid (mkgB Sy ⟨ms, its, mc⟩ = false) := by show mkgB Sy _ = _; unfold mkgB; simp only [decide_eq_false h3]; simp
        clear h1 h2 h3
        go_enter Tryz.func75, Tryz.ntmps75
        go_wp2_with (first
          | (go_at_call 73; refine (isSymbol_any _ _ _ _ _ _ _ _ _ rfl).mono ?_; rw [hd1.out]; rintro e w1 ⟨rfl, hb1⟩; have kM1 := kM.below hb1 (by simp); obtain ⟨c0, c1, c2⟩ : w1.cell? ⟨w.heap.size + 1, 0, none⟩ = some (.int .i64 ms) ∧ w1.cell? ⟨w.heap.size + 1, 1, none⟩ = some (.slice IA its.length icap) ∧ w1.cell? ⟨w.heap.size + 1, 2, none⟩ = some (.int .i64 mc) := ⟨kM1.cell 0, kM1.cell 1, kM1.cell 2⟩)
          | (go_at_call 74; refine (isCost_any _ _).mono ?_; rw [hd2.out]; rintro e w2 ⟨rfl, rfl⟩))
        go_ret
        exact ⟨ret_bool hR.out.symm, below_next hb2 hb2.size hb1⟩
    · have hd2 : Hid (decide (1 ≤ mc ∧ mc ≤ 1000) = false) := decide_eq_false h2
      have hR : Hid (mkgB Sy ⟨ms, its, mc⟩ = false) := by show mkgB Sy _ = _; unfold mkgB; simp only [decide_eq_false h2]; simp
      clear h1 h2
      go_enter Tryz.func75, Tryz.ntmps75
      go_wp2_with (first
        | (go_at_call 73; refine (isSymbol_any _ _ _ _ _ _ _ _ _ rfl).mono ?_; rw [hd1.out]; rintro e w1 ⟨rfl, hb1⟩; have kM1 := kM.below hb1 (by simp); obtain ⟨c0, c1, c2⟩ : w1.cell? ⟨w.heap.size + 1, 0, none⟩ = some (.int .i64 ms) ∧ w1.cell? ⟨w.heap.size + 1, 1, none⟩ = some (.slice IA its.length icap) ∧ w1.cell? ⟨w.heap.size + 1, 2, none⟩ = some (.int .i64 mc) := ⟨kM1.cell 0, kM1.cell 1, kM1.cell 2⟩)
        | (go_at_call 74; refine (isCost_any _ _).mono ?_; rw [hd2.out]; rintro e w2 ⟨rfl, rfl⟩))
      go_ret
      exact ⟨ret_bool hR.out.symm, below_next hb2 hb2.size hb1⟩
  · have hd1 : Hid (decide (1 ≤ ms ∧ ms ≤ Sy) = false) := decide_eq_false h1
    have hR : Hid (mkgB Sy ⟨ms, its, mc⟩ = false) := by show mkgB Sy _ = _; unfold mkgB; simp only [decide_eq_false h1]; simp
    clear h1
    go_enter Tryz.func75, Tryz.ntmps75
    go_wp2_with (go_at_call 73; refine (isSymbol_any _ _ _ _ _ _ _ _ _ rfl).mono ?_; rw [hd1.out]; rintro e w1 ⟨rfl, hb1⟩; have kM1 := kM.below hb1 (by simp); obtain ⟨c0, c1, c2⟩ : w1.cell? ⟨w.heap.size + 1, 0, none⟩ = some (.int .i64 ms) ∧ w1.cell? ⟨w.heap.size + 1, 1, none⟩ = some (.slice IA its.length icap) ∧ w1.cell? ⟨w.heap.size + 1, 2, none⟩ = some (.int .i64 mc) := ⟨kM1.cell 0, kM1.cell 1, kM1.cell 2⟩)
    go_ret
    exact ⟨ret_bool hR.out.symm, below_next hb2 hb2.size hb1⟩
end Go.Proofs.YtieclenlldjfjaaGreat
