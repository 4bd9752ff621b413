import Derived.Test.YtnjmkdgglpcfpaaC12
import Derived.Test.YtnjmkdgglpcfpaaC7
namespace Go.Proofs.Ytnjmkdgglpcfpaa
set_option linter.unusedSimpArgs false
set_option linter.unusedVariables false
open Go.RowKit

theorem range_get {n k j : Nat} (h : (List.range n)[k]? = some j) : k < n ∧ k = j := by
  obtain ⟨h1, h2⟩ := List.getElem?_eq_some_iff.1 h
  exact ⟨by simpa using h1, by rw [← h2]; simp⟩
theorem cell_any {w : World} {a : Addr} {z : Int} (hc : w.cell? a = some (.int .i64 z)) (y : Int) (p : Addr) : (w.setCell a (.int .i64 y)).cell? p = if a = p then some (.int .i64 y) else w.cell? p := by
  by_cases h : a = p
  · subst h; rw [if_pos rfl]; exact World.cell?_setCell_same w a _ hc
  · rw [if_neg h]; exact World.cell?_setCell_other w a p _ h
/-- behind the store of a number where a number was, numbers are numbers -/
theorem Ints.anyStore {w : World} {B : Nat} {A : Option Addr} {l : List Int} (h : Ints w B A l) {a : Addr} {z : Int} (hc : w.cell? a = some (.int .i64 z)) (y : Int) : ∃ l' : List Int, l'.length = l.length ∧ Ints (w.setCell a (.int .i64 y)) B A l' := by
  have key : ∀ k, ∃ x : Int, k < l.length → ∃ ad, A = some ad ∧ ad.block < B ∧ (w.setCell a (.int .i64 y)).cell? (ad.add k) = some (.int .i64 x) := fun k => by
    by_cases hk : k < l.length
    · obtain ⟨ad, e, hb, hcc⟩ := h.get hk
      rcases Classical.em (a = ad.add k) with he | he
      · exact ⟨y, fun _ => ⟨ad, e, hb, by rw [cell_any hc, if_pos he]⟩⟩
      · exact ⟨l[k], fun _ => ⟨ad, e, hb, by rw [cell_any hc, if_neg he]; exact hcc⟩⟩
    · exact ⟨0, fun h => absurd h hk⟩
  obtain ⟨f, hf⟩ := Classical.axiomOfChoice key
  refine ⟨(List.range l.length).map f, by simp, fun k x hx => ?_⟩
  rw [List.getElem?_map] at hx
  obtain ⟨j, hj, rfl⟩ := Option.map_eq_some_iff.1 hx
  obtain ⟨h1, rfl⟩ := range_get hj
  exact hf _ h1
/-- cuts in memory, all of it from a block on -/
def CutsB (w : World) (b B : Nat) (G : Option Addr) (cs : List (Int × List Int)) : Prop :=
  ∀ k c, cs[k]? = some c → ∃ ad E cap, G = some ad ∧ (b ≤ ad.block ∧ ∀ e, E = some e → b ≤ e.block) ∧ ad.block < B ∧ w.cell? (ad.add (k * 2)) = some (.int .i64 c.1) ∧ w.cell? ⟨(ad.add (k * 2)).block, (ad.add (k * 2)).off + 1, none⟩ = some (.slice E c.2.length cap) ∧ Ints w B E c.2 ∧ c.2.length ≤ cap ∧ cap ≤ maxLen
theorem CutsB.cutsC {w : World} {b B : Nat} {G : Option Addr} {cs : List (Int × List Int)} (h : CutsB w b B G cs) : CutsC w B G cs := fun k c hc => by
  obtain ⟨ad, E, cap, e, _, h1⟩ := h k c hc
  exact ⟨ad, E, cap, e, h1⟩
theorem OwnC.cutsB {w : World} {base : Nat} {G : Option Addr} {gap : Nat} {cv : List CutV} (h : OwnC w base G gap cv) : CutsB w base w.heap.size G (cv.map (·.1)) := by
  intro k c hc
  obtain ⟨ad, E, cap, e, h1, h2, h3, h4, h5⟩ := h.cutsC k c hc
  obtain ⟨p, hp, rfl⟩ : ∃ p, cv[k]? = some p ∧ p.1 = c := by simpa using hc
  have hmem : p ∈ cv := List.mem_of_getElem? hp
  refine ⟨ad, E, cap, e, ⟨?_, fun e' he' => ?_⟩, h1, h2, h3, h4, h5⟩
  · subst e; exact (h.1.lt ad.block rfl).1
  · have hE : E = p.2.1 := by
      rcases h.1.2 with ⟨hv, h0⟩ | ⟨g, cap', cur, hv, hb, hg, q1, q2, q3, q4⟩
      · have hk := (List.getElem?_eq_some_iff.1 hp).1
        omega
      · cases hv
        cases e
        have hBlk : Blk w g 104 cur := hg
        have hk := (List.getElem?_eq_some_iff.1 hp).1
        have hflat : ∀ (qs : List CutV) (k : Nat) (p : CutV), qs[k]? = some p → (cutCells qs)[k * 2 + 1]? = some (.slice p.2.1 p.1.2.length p.2.2) := by
          intro qs
          induction qs with
          | nil => intro k p h; simp at h
          | cons q qs ih =>
            intro k p h
            cases k with
            | zero => cases h; rfl
            | succ k =>
              have := ih k p h
              have e1 : (k + 1) * 2 = k * 2 + 1 + 1 := by omega
              rw [e1]
              exact this
        have f1 := hflat cv k p hp
        rw [← q4, List.getElem?_take_of_lt (by omega), Array.getElem?_toList] at f1
        have e0 : (⟨g, 0, none⟩ : Addr).add (k * 2) = ⟨g, k * 2, none⟩ := by rw [Addr.add_mid, Nat.zero_add]
        rw [e0] at h3
        have h6 := (hBlk.cell (k * 2 + 1)).trans f1
        have h7 := h3.symm.trans h6
        cases h7
        rfl
    subst hE
    rw [he'] at h4
    have hq := h.2 p hmem
    rw [he'] at hq
    exact (hq.lt e'.block rfl).1
theorem OwnC.atk {w : World} {base : Nat} {G : Option Addr} {gap : Nat} {cv : List CutV} (h : OwnC w base G gap cv) {k : Nat} (hk : k < cv.length) : ∃ ad, G = some ad ∧ w.cell? ⟨(ad.add (k * 2)).block, (ad.add (k * 2)).off + 1, none⟩ = some (.slice cv[k].2.1 cv[k].1.2.length cv[k].2.2) := by
  rcases h.1.2 with ⟨hv, h0⟩ | ⟨g, cap', cur, hv, hb, hg, q1, q2, q3, q4⟩
  · omega
  · cases hv
    have hBlk : Blk w g 104 cur := hg
    have hflat : ∀ (qs : List CutV) (k : Nat) (p : CutV), qs[k]? = some p → (cutCells qs)[k * 2 + 1]? = some (.slice p.2.1 p.1.2.length p.2.2) := by
      intro qs
      induction qs with
      | nil => intro k p h; simp at h
      | cons q qs ih =>
        intro k p h
        cases k with
        | zero => cases h; rfl
        | succ k =>
          have := ih k p h
          have e1 : (k + 1) * 2 = k * 2 + 1 + 1 := by omega
          rw [e1]
          exact this
    have f1 := hflat cv k _ (List.getElem?_eq_getElem hk)
    rw [← q4, List.getElem?_take_of_lt (by omega), Array.getElem?_toList] at f1
    have e0 : (⟨g, 0, none⟩ : Addr).add (k * 2) = ⟨g, k * 2, none⟩ := by rw [Addr.add_mid, Nat.zero_add]
    exact ⟨_, rfl, by rw [e0]; exact (hBlk.cell (k * 2 + 1)).trans f1⟩
theorem CutsB.nil {w : World} {b B : Nat} {G : Option Addr} : CutsB w b B G [] := fun k c h => by simp at h
theorem CutsB.keep {w : World} {b B : Nat} {G : Option Addr} {cs : List (Int × List Int)} (h : CutsB w b B G cs) {p : Addr} (hp : p.block < b) (u : Value) : CutsB (w.setCell p u) b B G cs := fun k c hc => by
  obtain ⟨ad, E, cap, e, ⟨g1, g2⟩, hb, h1, h2, h3, h4⟩ := h k c hc
  refine ⟨ad, E, cap, e, ⟨g1, g2⟩, hb, ?_, ?_, h3.setNew (fun e' he' => by have := g2 e' he'; omega) u, h4⟩
  · rw [World.cell?_setCell_far _ _ _ _ (by rw [addr_block]; omega)]; exact h1
  · rw [World.cell?_setCell_far _ _ _ _ (by show _ ≠ (ad.add (k * 2)).block; rw [addr_block]; omega)]; exact h2
theorem CutsB.moved {w w' : World} {b : Nat} {G : Option Addr} {cs : List (Int × List Int)} (h : CutsB w b w.heap.size G cs) (hsz : w.heap.size ≤ w'.heap.size) (hcell : ∀ p : Addr, b ≤ p.block → p.block < w.heap.size → w'.cell? p = w.cell? p) : CutsB w' b w'.heap.size G cs := fun k c hc => by
  obtain ⟨ad, E, cap, e, ⟨g1, g2⟩, hb, h1, h2, h3, h4⟩ := h k c hc
  refine ⟨ad, E, cap, e, ⟨g1, g2⟩, by omega, ?_, ?_, fun j x hx => ?_, h4⟩
  · rw [hcell _ (by rw [addr_block]; omega) (by rw [addr_block]; omega)]; exact h1
  · rw [hcell _ (by show _ ≤ (ad.add (k * 2)).block; rw [addr_block]; omega) (by show (ad.add (k * 2)).block < _; rw [addr_block]; omega)]; exact h2
  · obtain ⟨a', e', q1, q2⟩ := h3 j x hx
    exact ⟨a', e', by omega, (hcell _ (by rw [addr_block]; exact g2 a' e') (by rw [addr_block]; exact q1)).trans q2⟩
theorem CutsB.grown {w w' : World} {b : Nat} {G : Option Addr} {cs : List (Int × List Int)} {row : Option Nat} (h : CutsB w b w.heap.size G cs) (hg : w.grownBy w' row) (hr : ∀ k, row = some k → k < b) : CutsB w' b w'.heap.size G cs :=
  h.moved hg.size fun p q1 q2 => World.cell?_of_block (hg.block p.block q2 fun he => by have := hr _ he.symm; omega)
theorem CutsB.behind {w w' : World} {b : Nat} {G : Option Addr} {cs : List (Int × List Int)} (h : CutsB w b w.heap.size G cs) (hb : Below w.heap.size w w') : CutsB w' b w'.heap.size G cs :=
  h.moved hb.size fun p _ q2 => hb.cell q2
theorem CutsB.more {w : World} {b B B' : Nat} {G : Option Addr} {cs : List (Int × List Int)} (h : CutsB w b B G cs) (hB : B ≤ B') : CutsB w b B' G cs := fun k c hc => by
  obtain ⟨ad, E, cap, e, hg, hb, h1, h2, h3, h4⟩ := h k c hc
  exact ⟨ad, E, cap, e, hg, by omega, h1, h2, h3.more hB, h4⟩
theorem CutsB.anyStore {w : World} {b B : Nat} {G : Option Addr} {cs : List (Int × List Int)} (h : CutsB w b B G cs) {a : Addr} {z : Int} (hc : w.cell? a = some (.int .i64 z)) (y : Int) : ∃ cs' : List (Int × List Int), cs'.length = cs.length ∧ (∀ c ∈ cs', ∃ c0 ∈ cs, c.2.length = c0.2.length) ∧ CutsB (w.setCell a (.int .i64 y)) b B G cs' := by
  have key : ∀ k, ∃ x : Int × List Int, k < cs.length → (∃ c0 ∈ cs, x.2.length = c0.2.length) ∧ ∃ ad E cap, G = some ad ∧ (b ≤ ad.block ∧ ∀ e, E = some e → b ≤ e.block) ∧ ad.block < B ∧ (w.setCell a (.int .i64 y)).cell? (ad.add (k * 2)) = some (.int .i64 x.1) ∧ (w.setCell a (.int .i64 y)).cell? ⟨(ad.add (k * 2)).block, (ad.add (k * 2)).off + 1, none⟩ = some (.slice E x.2.length cap) ∧ Ints (w.setCell a (.int .i64 y)) B E x.2 ∧ x.2.length ≤ cap ∧ cap ≤ maxLen := fun k => by
    by_cases hk : k < cs.length
    · obtain ⟨ad, E, cap, e, hg, hb, h1, h2, h3, h4, h5⟩ := h k _ (List.getElem?_eq_getElem hk)
      obtain ⟨m, hm, h3'⟩ := h3.anyStore hc y
      have hn : a ≠ ⟨(ad.add (k * 2)).block, (ad.add (k * 2)).off + 1, none⟩ := fun he => by
        rw [he, h2] at hc; cases hc
      have h2' : (w.setCell a (.int .i64 y)).cell? ⟨(ad.add (k * 2)).block, (ad.add (k * 2)).off + 1, none⟩ = some (.slice E m.length cap) := by rw [cell_any hc, if_neg hn, hm]; exact h2
      rcases Classical.em (a = ad.add (k * 2)) with he | he
      · exact ⟨(y, m), fun _ => ⟨⟨_, List.getElem_mem hk, hm⟩, ad, E, cap, e, hg, hb, by rw [cell_any hc, if_pos he], h2', h3', by rw [hm]; exact h4, h5⟩⟩
      · exact ⟨(cs[k].1, m), fun _ => ⟨⟨_, List.getElem_mem hk, hm⟩, ad, E, cap, e, hg, hb, by rw [cell_any hc, if_neg he]; exact h1, h2', h3', by rw [hm]; exact h4, h5⟩⟩
    · exact ⟨(0, []), fun h => absurd h hk⟩
  obtain ⟨f, hf⟩ := Classical.axiomOfChoice key
  refine ⟨(List.range cs.length).map f, by simp, fun c hx => ?_, fun k x hx => ?_⟩
  · obtain ⟨k, hk, rfl⟩ := List.mem_map.1 hx
    exact (hf k (List.mem_range.1 hk)).1
  · rw [List.getElem?_map] at hx
    obtain ⟨j, hj, rfl⟩ := Option.map_eq_some_iff.1 hx
    obtain ⟨h1, rfl⟩ := range_get hj
    exact (hf _ h1).2
theorem CutsB.drop {w : World} {b B : Nat} {ad : Addr} {cs : List (Int × List Int)} (h : CutsB w b B (some ad) cs) (k : Nat) : CutsB w b B (some (ad.add (k * 2))) (cs.drop k) := fun j c hc => by
  rw [List.getElem?_drop] at hc
  obtain ⟨ad', E, cap, e, hg, hb, h1, h2, h3⟩ := h (k + j) c hc
  cases e
  refine ⟨_, E, cap, rfl, by rw [addr_block]; exact hg, by rw [addr_block]; exact hb, ?_, ?_, h3⟩
  · rw [addr_add, ← Nat.add_mul]; exact h1
  · rw [addr_add, ← Nat.add_mul]; exact h2
theorem one_newM (w : World) (x : Int) : Ints (w.alloc (.cells #[.int .i64 x] 3)) (w.alloc (.cells #[.int .i64 x] 3)).heap.size (some ⟨w.heap.size, 0, none⟩) [x] := fun k y h => by
  match k, h with
  | 0, h =>
    obtain rfl : x = y := by simpa using h
    exact ⟨_, rfl, by simp, (Blk.new w 3 #[.int .i64 x]).cell 0⟩
  | k + 1, h => simp at h
/-- some round comes back -/
def BentP (w : World) (e : Ending) (w' : World) : Prop := ∃ (E' : Option Addr) (e' : Nat) (st' : List Int) (G' : Option Addr) (g' : Nat) (cuts' : List (Int × List Int)), e = .returned (.agg #[.slice E' st'.length e', .slice G' cuts'.length g']) ∧ st'.length ≤ 211 ∧ cuts'.length ≤ 210 ∧ (∀ c ∈ cuts', c.2.length ≤ 210) ∧ Ints w' w'.heap.size E' st' ∧ CutsC w' w'.heap.size G' cuts' ∧ Below w.heap.size w w'
theorem bent_end {w W : World} {S1 : Option Addr} {s1 : Nat} {st1 : List Int} {G1 : Option Addr} {g1 : Nat} {cs1 : List (Int × List Int)} {b n1 n2 : Nat} (iS : Ints W W.heap.size S1 st1) (hS1 : ∀ ad, S1 = some ad → w.heap.size + 1 ≠ ad.block) (CB : CutsB W b W.heap.size G1 cs1) (hb : w.heap.size + 1 < b) (bw : Below w.heap.size w W) (h1 : st1.length ≤ 211) (h2 : cs1.length ≤ 210) (h3 : ∀ c ∈ cs1, c.2.length ≤ 210) (hn1 : n1 = st1.length) (hn2 : n2 = cs1.length) (x y : Value) :
    BentP w (.returned (.agg #[.slice S1 n1 s1, .slice G1 n2 g1])) ((W.setCell ⟨w.heap.size + 1, 0, none⟩ x).setCell ⟨w.heap.size + 1, 1, none⟩ y) := by
  subst hn1 hn2
  refine ⟨S1, s1, st1, G1, g1, cs1, rfl, h1, h2, h3, ?_, ?_, ?_⟩
  · exact ((iS.setNew (p := ⟨w.heap.size + 1, 0, none⟩) hS1 x).setNew (p := ⟨w.heap.size + 1, 1, none⟩) hS1 y).more (by simp [World.setCell])
  · exact (((CB.keep (p := ⟨w.heap.size + 1, 0, none⟩) hb x).keep (p := ⟨w.heap.size + 1, 1, none⟩) hb y).more (by simp [World.setCell])).cutsC
  · exact (bw.setCell (p := ⟨w.heap.size + 1, 0, none⟩) (by simp) _).setCell (p := ⟨w.heap.size + 1, 1, none⟩) (by simp) _
theorem Ints.dropC {w : World} {B : Nat} {ad : Addr} {l : List Int} (h : Ints w B (some ad) l) (k : Nat) : Ints w B (some (ad.add k)) (l.drop k) := fun j y hy => by
  rw [List.getElem?_drop] at hy
  obtain ⟨ad', e, hb, hc⟩ := h (k + j) y hy
  cases e
  exact ⟨_, rfl, by rw [addr_block]; exact hb, by rw [addr_add]; exact hc⟩
/-- a row of numbers of the call's own can be written -/
theorem own_cellC {w : World} {base : Nat} {A : Option Addr} {n c : Nat} {l : List Int} (h : w.ownsRow base 3 1 (.slice A n c) n (l.map (Value.int .i64))) {k : Nat} (hk : k < n) : ∃ ad z, A = some ad ∧ base ≤ ad.block ∧ w.cell? (ad.add k) = some (.int .i64 z) ∧ w.frozen? (ad.add k) = false := by
  have hl : l.length = n := by have := h.1; simpa using this
  obtain ⟨ad, e, hb, hc⟩ := (Ints.of_own h).get (show k < l.length by omega)
  rcases h.2 with ⟨hv, h0⟩ | ⟨g, cap, cur, hv, hg, hh, _⟩
  · omega
  · cases hv
    cases e
    refine ⟨_, _, rfl, hg, hc, ?_⟩
    have hf : ∀ i, w.frozen? ⟨g, i, none⟩ = false := Blk.frozen (t := 3) (cs := cur) hh
    unfold Addr.add
    split
    · exact hf 0
    · exact hf _
theorem BentP.drew {w W : World} {e : Ending} (h : BentP w e W) : BentP w e W.drew := by
  obtain ⟨E', e', st', G', g', cuts', h1, h2, h3, h4, h5, h6, h7⟩ := h
  exact ⟨E', e', st', G', g', cuts', h1, h2, h3, h4, h5, h6, h7.drew⟩

theorem wp_appM {o : Oper} {a : Act} {K : Act → World → Prop} {Q : Exit → Act → World → Prop} {w : World} (s x : Operand)
    (ho : o.op = .call { callee := .builtin .append, args := #[s, x], argTypes := #[22, 22] }) (hty : o.type = 22) (base : Nat) (l m : List Int) (nl n N : Nat) (v : Value) (A : Option Addr) (c : Nat) (B : Nat) (hnl : l.length = nl) (hn : m.length = n) (hN : nl + n = N)
    (hs : a.eval s = v) (hown : w.ownsRow base 3 1 v nl (l.map (Value.int .i64))) (hx : a.eval x = .slice A n c) (hm : Ints w B A m) (hl : nl ≤ 1000000) (hml : n ≤ 1000000) (hbase : base ≤ w.heap.size)
    (h : ∀ A' c' w', w'.ownsRow base 3 1 (.slice A' N c') N ((l ++ m).map (Value.int .i64)) → Below base w w' → w.grownBy w' v.ownBlock → K (a.put o.dst (.slice A' N c')) w') :
    o.wp Try.prog a w K Q := by
  subst hnl hn
  refine wp_appL s x ho hty base l m v A c B hs hown hx hm hl hml hbase fun A' c' w' h1 h2 h3 => ?_
  rw [List.length_append, hN] at h1 ⊢
  exact h A' c' w' h1 h2 h3
theorem wpl_appG {ops : Array Oper} {rest : List Oper} {o : Oper} {a : Act} {Q : Exit → Act → World → Prop} {w : World} (hgd : o.guard = none) (s x : Operand)
    (ho : o.op = .call { callee := .builtin .append, args := #[s, x], argTypes := #[22, 22] }) (hty : o.type = 22) (base : Nat) (l m : List Int) (nl n N : Nat) (v : Value) (A : Option Addr) (c : Nat) (B : Nat) (hnl : l.length = nl) (hn : m.length = n) (hN : nl + n = N)
    (hs : a.eval s = v) (hown : w.ownsRow base 3 1 v nl (l.map (Value.int .i64))) (hx : a.eval x = .slice A n c) (hm : Ints w B A m) (hl : nl ≤ 1000000) (hml : n ≤ 1000000) (hbase : base ≤ w.heap.size)
    (h : ∀ A' c' w', w'.ownsRow base 3 1 (.slice A' N c') N ((l ++ m).map (Value.int .i64)) → Below base w w' → w.grownBy w' v.ownBlock → wpList Try.prog ops Q rest (a.put o.dst (.slice A' N c')) w') :
    wpList Try.prog ops Q (o :: rest) a w := by
  have hw : Region.wanted o (yielded ops a.tmps) = true := by simp [Region.wanted, hgd]
  subst hnl hn
  unfold wpList
  rw [if_pos hw]
  refine .inl (wp_appL s x ho hty base l m v A c B hs hown hx hm hl hml hbase fun A' c' w' h1 h2 h3 => ?_)
  rw [List.length_append, hN] at h1 ⊢
  exact h A' c' w' h1 h2 h3

theorem own_emptyB {w : World} {g base : Nat} (h : Blk w g 3 #[]) (hb : base ≤ g) : w.ownsRow base 3 1 (.slice (some ⟨g, 0, none⟩) 0 0) 0 (([] : List Int).map (Value.int .i64)) := own_empty h hb
set_option maxRecDepth 100000 in
set_option maxHeartbeats 4000000 in
/-- a round of which something is changed: some round -/
theorem bent41_any (E : Option Addr) (eap : Nat) (st : List Int) (G : Option Addr) (gap : Nat) (cuts : List (Int × List Int)) (N : Nat) (what n : Int) (w : World) (hst : st.length ≤ 210) (hcu : cuts.length ≤ 210) (hN : N ≤ 210) (hcc : ∀ c ∈ cuts, c.2.length = N) (hs : Ints w w.heap.size E st) (hg : CutsC w w.heap.size G cuts) (hn0 : 0 ≤ what) (hn1 : what ≤ 255) :
    Calls Try.prog 41 #[.agg #[.slice E st.length eap, .slice G cuts.length gap], .int .u8 what, .int .i64 n] w fun e w' => BentP w e w' := by
  have bw0 : Below w.heap.size w ((w.alloc (.cells #[.slice E st.length eap, .slice G cuts.length gap] 56)).alloc (.cells #[.slice none 0 0, .slice none 0 0] 56)) := (below_new w (.cells #[.slice E st.length eap, .slice G cuts.length gap] 56)).alloc (by simp) _
  have bw1 : Below w.heap.size w (((w.alloc (.cells #[.slice E st.length eap, .slice G cuts.length gap] 56)).alloc (.cells #[.slice none 0 0, .slice none 0 0] 56)).alloc (.cells #[] 3)) := bw0.alloc (by simp; omega) _
  have kR1 : Blk (((w.alloc (.cells #[.slice E st.length eap, .slice G cuts.length gap] 56)).alloc (.cells #[.slice none 0 0, .slice none 0 0] 56)).alloc (.cells #[] 3)) w.heap.size 56 #[.slice E st.length eap, .slice G cuts.length gap] := ((Blk.new _ _ _).alloc _).alloc _
  have kQ1 : Blk (((w.alloc (.cells #[.slice E st.length eap, .slice G cuts.length gap] 56)).alloc (.cells #[.slice none 0 0, .slice none 0 0] 56)).alloc (.cells #[] 3)) (w.heap.size + 1) 56 #[.slice none 0 0, .slice none 0 0] := Blk.alloc (Blk.newAt (by simp)) _
  have kE1 : Blk (((w.alloc (.cells #[.slice E st.length eap, .slice G cuts.length gap] 56)).alloc (.cells #[.slice none 0 0, .slice none 0 0] 56)).alloc (.cells #[] 3)) (w.heap.size + 2) 3 #[] := Blk.newAt (by simp)
  have own1 := own_emptyB kE1 (Nat.le_refl _)
  have iS1 := hs.behind bw1
  obtain ⟨d0, d1⟩ := And.intro (kR1.cell 0) (kR1.cell 1)
  have hz : (w.heap.size + 2) ≤ (((w.alloc (.cells #[.slice E st.length eap, .slice G cuts.length gap] 56)).alloc (.cells #[.slice none 0 0, .slice none 0 0] 56)).alloc (.cells #[] 3)).heap.size := by simp
  go_enter Try.func41, Try.ntmps41
  go_wp2_with (first
    | (at_builtin; refine wpl_appG (by rfl) _ _ (by rfl) (by rfl) (w.heap.size + 2) ([] : List Int) st 0 st.length st.length (.slice (some ⟨w.heap.size + 2, 0, none⟩) 0 0) E eap _ (by rfl) (by rfl) (Nat.zero_add _) (by rfl) own1 (by rfl) iS1 (by omega) (by omega) hz ?_; intro S sap w2 own2 hb2 _; rw [List.nil_append] at own2; have bw2 := bw1.trans (hb2.mono (by omega)); have kR2 := kR1.below hb2 (by omega); have kQ2 := kQ1.below hb2 (by omega))
    | fail)
  have hn3 := below_new w2 (.cells #[.slice S st.length sap, .slice none 0 0] 56)
  have kR3 := kR2.below hn3 kR2.lt
  have kQ3 := kQ2.below hn3 kQ2.lt
  have kB3 := Blk.new w2 56 #[.slice S st.length sap, .slice none 0 0]
  have hz2 : w.heap.size + 2 ≤ w2.heap.size := by have := kQ2.lt; omega
  have iG3 := hg.below (below_next bw2 bw2.size hn3)
  clear bw0 bw1 kR1 kQ1 kE1 own1 iS1 d0 d1 hz hb2
  go_loopw [8] (fun i wr => ∃ (G' : Option Addr) (g' : Nat) (cv : List CutV), cv.length ≤ cuts.length ∧ i = .int .i64 (cv.length : Nat) ∧ (∀ p ∈ cv, p.1.2.length = N) ∧ Below w2.heap.size w2 wr ∧ Blk wr w.heap.size 56 #[.slice E st.length eap, .slice G cuts.length gap] ∧ Blk wr (w.heap.size + 1) 56 #[.slice none 0 0, .slice none 0 0] ∧ Blk wr w2.heap.size 56 #[.slice S st.length sap, .slice G' cv.length g'] ∧ w2.heap.size + 1 ≤ wr.heap.size ∧ OwnC wr (w2.heap.size + 1) G' g' cv)
    (fun i _ => cuts.length - (intOf i).toNat)
  case atStart => exact ⟨none, 0, [], by simp, rfl, by simp, hn3, kR3, kQ3, kB3, by simp, OwnC.nil _ _⟩
  case round =>
    clear hn3 kR3 kQ3 kB3 iG3
    obtain ⟨G', g', cv, hk, rfl, hcl, hb, kR, kQ, kB, hzr, hown⟩ := hrel
    have bw := below_next bw2 bw2.size hb
    obtain ⟨d0, d1⟩ := And.intro (kR.cell 0) (kR.cell 1)
    obtain ⟨b0, b1⟩ := And.intro (kB.cell 0) (kB.cell 1)
    by_cases hlt : cv.length < cuts.length
    · obtain ⟨ad, E2, cap2, hA, hadb, h1, h2, h3, h4, h5⟩ := (hg.below bw).get hlt
      subst hA
      have hlt2 : (cv.length : Int) < (cuts.length : Int) := by omega
      have hc2 : Hid (cuts[cv.length].2.length = N) := hcc _ (List.getElem_mem hlt)
      have hc210 : cuts[cv.length].2.length ≤ 210 := by rw [hc2.out]; exact hN
      generalize cuts[cv.length].1 = x at *
      generalize cuts[cv.length].2 = m at *
      have be : Below wr.heap.size wr (wr.drew.alloc (.cells #[] 3)) := (Below.refl _ _).drew.alloc (by simp) _
      have ke : Blk (wr.drew.alloc (.cells #[] 3)) wr.heap.size 3 #[] := Blk.new wr.drew 3 #[]
      have oe := own_emptyB ke (Nat.le_refl wr.heap.size)
      have ie := (h3.more (show w.heap.size ≤ wr.heap.size by have := bw.size; omega)).behind be
      have hze := be.size
      have hadw : (ad.add (cv.length * 2)).block < wr.heap.size := by rw [addr_block]; have := bw.size; omega
      have b1A : (wr.drew.alloc (.cells #[] 3)).cell? ⟨w2.heap.size, 1, none⟩ = some (.slice G' cv.length g') := (kB.below be kB.lt).cell 1
      have sA : (wr.drew.alloc (.cells #[] 3)).cell? ⟨w.heap.size, 1, none⟩ = some (.slice (some ad) cuts.length gap) ∧ (wr.drew.alloc (.cells #[] 3)).cell? (ad.add (cv.length * 2)) = some (.int .i64 x) ∧ (wr.drew.alloc (.cells #[] 3)).cell? ⟨(ad.add (cv.length * 2)).block, (ad.add (cv.length * 2)).off + 1, none⟩ = some (.slice E2 m.length cap2) := ⟨(kR.below be kR.lt).cell 1, (be.cell hadw).trans h1, (be.cell (p := ⟨(ad.add (cv.length * 2)).block, (ad.add (cv.length * 2)).off + 1, none⟩) hadw).trans h2⟩
      go_wp2_with fail
      refine wp_region_held_drew (S := fun w' => w'.cell? ⟨w.heap.size, 1, none⟩ = some (.slice (some ad) cuts.length gap) ∧ w'.cell? (ad.add (cv.length * 2)) = some (.int .i64 x) ∧ w'.cell? ⟨(ad.add (cv.length * 2)).block, (ad.add (cv.length * 2)).off + 1, none⟩ = some (.slice E2 m.length cap2)) (by kernel_rfl) ⟨d1, h1, h2⟩ (fun hHeld => ?_)
      (refine wpAnyH_take (i := 0) (v := ?_) rfl (by kernel_rfl) (by kernel_rfl) (by kernel_rfl) (fun _ _ _ h => h) (Or.inl ⟨by rfl, ?_⟩) (by assumption) ?_; rotate_left; (· intro w5 hS5; (try dsimp only at hS5); go_simp <;> with_reducible rfl); (try simp only [List.getElem_toArray, List.getElem_cons_zero, List.getElem_cons_succ, Act.put, List.setIfInBounds_toArray, List.set_cons_zero, List.set_cons_succ]))
      (refine wpAnyH_take (i := 2) (v := ?_) rfl (by kernel_rfl) (by kernel_rfl) (by kernel_rfl) (fun _ _ _ h => h) (Or.inl ⟨by rfl, ?_⟩) (by assumption) ?_; rotate_left; (· intro w5 hS5; (try dsimp only at hS5); go_simp <;> with_reducible rfl); (try simp only [List.getElem_toArray, List.getElem_cons_zero, List.getElem_cons_succ, Act.put, List.setIfInBounds_toArray, List.set_cons_zero, List.set_cons_succ]))
      (refine wpAnyH_take (i := 3) (v := ?_) rfl (by kernel_rfl) (by kernel_rfl) (by kernel_rfl) (fun _ _ _ h => h) (Or.inl ⟨by rfl, ?_⟩) (by assumption) ?_; rotate_left; (· intro w5 hS5; (try dsimp only at hS5); go_simp <;> with_reducible rfl); (try simp only [List.getElem_toArray, List.getElem_cons_zero, List.getElem_cons_succ, Act.put, List.setIfInBounds_toArray, List.set_cons_zero, List.set_cons_succ]))
      (refine wpAnyH_take (i := 4) (v := ?_) rfl (by kernel_rfl) (by kernel_rfl) (by kernel_rfl) (fun _ _ _ h => h) (Or.inl ⟨by rfl, ?_⟩) (by assumption) ?_; rotate_left; (· intro w5 hS5; (try dsimp only at hS5); go_simp <;> with_reducible rfl); (try simp only [List.getElem_toArray, List.getElem_cons_zero, List.getElem_cons_succ, Act.put, List.setIfInBounds_toArray, List.set_cons_zero, List.set_cons_succ]))
      (refine wpAnyH_take (i := 5) (v := ?_) rfl (by kernel_rfl) (by kernel_rfl) (by kernel_rfl) (fun _ _ _ h => h) (Or.inl ⟨by rfl, ?_⟩) (by assumption) ?_; rotate_left; (· intro w5 hS5; (try dsimp only at hS5); go_simp <;> with_reducible rfl); (try simp only [List.getElem_toArray, List.getElem_cons_zero, List.getElem_cons_succ, Act.put, List.setIfInBounds_toArray, List.set_cons_zero, List.set_cons_succ]))
      (refine wpAnyH_take (i := 6) (v := ?_) rfl (by kernel_rfl) (by kernel_rfl) (by kernel_rfl) (fun _ _ _ h => h) (Or.inl ⟨by rfl, ?_⟩) (by assumption) ?_; rotate_left; (· intro w5 hS5; (try dsimp only at hS5); go_simp <;> with_reducible rfl); (try simp only [List.getElem_toArray, List.getElem_cons_zero, List.getElem_cons_succ, Act.put, List.setIfInBounds_toArray, List.set_cons_zero, List.set_cons_succ]))
      (refine wpAnyH_take (i := 7) (v := ?_) rfl (by kernel_rfl) (by kernel_rfl) (by kernel_rfl) (fun _ _ _ h => h) (Or.inl ⟨by rfl, ?_⟩) (by assumption) ?_; rotate_left; (· intro w5 hS5; (try dsimp only at hS5); go_simp <;> with_reducible rfl); (try simp only [List.getElem_toArray, List.getElem_cons_zero, List.getElem_cons_succ, Act.put, List.setIfInBounds_toArray, List.set_cons_zero, List.set_cons_succ]))
      (refine wpAnyH_take (i := 9) (v := ?_) rfl (by kernel_rfl) (by kernel_rfl) (by kernel_rfl) (fun _ _ _ h => h) (Or.inl ⟨by rfl, ?_⟩) (by assumption) ?_; rotate_left; (· intro w5 hS5; (try dsimp only at hS5); go_simp <;> with_reducible rfl); (try simp only [List.getElem_toArray, List.getElem_cons_zero, List.getElem_cons_succ, Act.put, List.setIfInBounds_toArray, List.set_cons_zero, List.set_cons_succ]))
      (refine wpAnyH_take (i := 10) (v := ?_) rfl (by kernel_rfl) (by kernel_rfl) (by kernel_rfl) (fun _ _ _ h => h) (Or.inl ⟨by rfl, ?_⟩) (by assumption) ?_; rotate_left; (· intro w5 hS5; (try dsimp only at hS5); go_simp <;> with_reducible rfl); (try simp only [List.getElem_toArray, List.getElem_cons_zero, List.getElem_cons_succ, Act.put, List.setIfInBounds_toArray, List.set_cons_zero, List.set_cons_succ]))
      (refine wpAnyH_take (i := 11) (v := ?_) rfl (by kernel_rfl) (by kernel_rfl) (by kernel_rfl) (fun _ _ _ h => h) (Or.inl ⟨by rfl, ?_⟩) (by assumption) ?_; rotate_left; (· intro w5 hS5; (try dsimp only at hS5); go_simp <;> with_reducible rfl); (try simp only [List.getElem_toArray, List.getElem_cons_zero, List.getElem_cons_succ, Act.put, List.setIfInBounds_toArray, List.set_cons_zero, List.set_cons_succ]))
      (refine wpAnyH_take (i := 12) (v := ?_) rfl (by kernel_rfl) (by kernel_rfl) (by kernel_rfl) (fun _ _ _ h => h) (Or.inl ⟨by rfl, ?_⟩) (by assumption) ?_; rotate_left; (· intro w5 hS5; (try dsimp only at hS5); go_simp <;> with_reducible rfl); (try simp only [List.getElem_toArray, List.getElem_cons_zero, List.getElem_cons_succ, Act.put, List.setIfInBounds_toArray, List.set_cons_zero, List.set_cons_succ]))
      (refine wpAnyH_take (i := 13) (v := ?_) rfl (by kernel_rfl) (by kernel_rfl) (by kernel_rfl) (fun _ _ _ h => h) (Or.inl ⟨by rfl, ?_⟩) (by assumption) ?_; rotate_left; (· intro w5 hS5; (try dsimp only at hS5); go_simp <;> with_reducible rfl); (try simp only [List.getElem_toArray, List.getElem_cons_zero, List.getElem_cons_succ, Act.put, List.setIfInBounds_toArray, List.set_cons_zero, List.set_cons_succ]))
      (refine wpAnyH_take (i := 14) (v := ?_) rfl (by kernel_rfl) (by kernel_rfl) (by kernel_rfl) (fun _ _ _ h => h) (Or.inl ⟨by rfl, ?_⟩) (by assumption) ?_; rotate_left; (· intro w5 hS5; (try dsimp only at hS5); go_simp <;> with_reducible rfl); (try simp only [List.getElem_toArray, List.getElem_cons_zero, List.getElem_cons_succ, Act.put, List.setIfInBounds_toArray, List.set_cons_zero, List.set_cons_succ]))
      (refine wpAnyH_ready (rs := [1, 8]) (by kernel_rfl) (by simp) ?_; refine AllReadyH.cons rfl (fun K hK => ?_) (AllReadyH.cons rfl (fun K hK => ?_) AllReadyH.nil))
      · go_simp
        refine hK.out _ _ (⟨d1, h1, h2⟩) (fun hHeld => ?_)
        clear hK K
        (try simp only [List.getElem_toArray, List.getElem_cons_zero, List.getElem_cons_succ, Act.put, List.setIfInBounds_toArray, List.set_cons_zero, List.set_cons_succ])
        (refine wpAnyH_ready (rs := [8]) (by kernel_rfl) (by simp) ?_; refine AllReadyH.cons rfl (fun K hK => ?_) AllReadyH.nil)
        go_simp
        have v1 : (wr.alloc (.cells #[] 3)).cell? ⟨w2.heap.size, 1, none⟩ = some (.slice G' cv.length g') := (kB.alloc _).cell 1
        refine hK.out _ _ (sA) (fun hHeld => ?_)
        clear hK K
        (try simp only [List.getElem_toArray, List.getElem_cons_zero, List.getElem_cons_succ, Act.put, List.setIfInBounds_toArray, List.set_cons_zero, List.set_cons_succ])
        (refine wpAnyH_ready (rs := [15]) (by kernel_rfl) (by simp) ?_; refine AllReadyH.cons rfl (fun K hK => ?_) AllReadyH.nil)
        rw [if_pos (by rfl)]
        refine wp_appM _ _ (by rfl) (by rfl) wr.heap.size ([] : List Int) m 0 m.length m.length (.slice (some ⟨wr.heap.size, 0, none⟩) 0 0) E2 cap2 _ (by rfl) (by rfl) (by omega) (by rfl) oe (by rfl) ie (by omega) (by omega) hze ?_
        intro Y y w4 own4 hb4 _
        rw [List.nil_append] at own4
        have hb4w : Below wr.heap.size wr w4 := be.trans hb4
        have kB4 := kB.below hb4w kB.lt
        have v4 := kB4.cell 1
        have s4 : w4.cell? ⟨w.heap.size, 1, none⟩ = some (.slice (some ad) cuts.length gap) ∧ w4.cell? (ad.add (cv.length * 2)) = some (.int .i64 x) ∧ w4.cell? ⟨(ad.add (cv.length * 2)).block, (ad.add (cv.length * 2)).off + 1, none⟩ = some (.slice E2 m.length cap2) := ⟨(kR.below hb4w kR.lt).cell 1, (hb4w.cell hadw).trans h1, (hb4w.cell (p := ⟨(ad.add (cv.length * 2)).block, (ad.add (cv.length * 2)).off + 1, none⟩) hadw).trans h2⟩
        refine hK.out _ _ (s4) (fun hHeld => ?_)
        clear hK K
        (try simp only [List.getElem_toArray, List.getElem_cons_zero, List.getElem_cons_succ, Act.put, List.setIfInBounds_toArray, List.set_cons_zero, List.set_cons_succ])
        (refine wpAnyH_take (i := 16) (v := ?_) rfl (by kernel_rfl) (by kernel_rfl) (by kernel_rfl) (fun _ _ _ h => h) (Or.inl ⟨by rfl, ?_⟩) (by assumption) ?_; rotate_left; (· intro w5 hS5; (try dsimp only at hS5); go_simp <;> with_reducible rfl); (try simp only [List.getElem_toArray, List.getElem_cons_zero, List.getElem_cons_succ, Act.put, List.setIfInBounds_toArray, List.set_cons_zero, List.set_cons_succ]))
        (refine wpAnyH_ready (rs := [17]) (by kernel_rfl) (by simp) ?_; refine AllReadyH.cons rfl (fun K hK => ?_) AllReadyH.nil)
        go_simp
        have b5 := below_new w4 (.cells #[.int .i64 x, .slice Y m.length y] 104)
        have hb5w : Below wr.heap.size wr (w4.alloc (.cells #[.int .i64 x, .slice Y m.length y] 104)) := hb4w.trans (b5.mono hb4w.size)
        have v5 : (w4.alloc (.cells #[.int .i64 x, .slice Y m.length y] 104)).cell? ⟨w2.heap.size, 1, none⟩ = some (.slice G' cv.length g') := (kB4.alloc _).cell 1
        have s5 : (w4.alloc (.cells #[.int .i64 x, .slice Y m.length y] 104)).cell? ⟨w.heap.size, 1, none⟩ = some (.slice (some ad) cuts.length gap) ∧ (w4.alloc (.cells #[.int .i64 x, .slice Y m.length y] 104)).cell? (ad.add (cv.length * 2)) = some (.int .i64 x) ∧ (w4.alloc (.cells #[.int .i64 x, .slice Y m.length y] 104)).cell? ⟨(ad.add (cv.length * 2)).block, (ad.add (cv.length * 2)).off + 1, none⟩ = some (.slice E2 m.length cap2) := ⟨(kR.below hb5w kR.lt).cell 1, (hb5w.cell hadw).trans h1, (hb5w.cell (p := ⟨(ad.add (cv.length * 2)).block, (ad.add (cv.length * 2)).off + 1, none⟩) hadw).trans h2⟩
        refine hK.out _ _ (s5) (fun hHeld => ?_)
        clear hK K
        (try simp only [List.getElem_toArray, List.getElem_cons_zero, List.getElem_cons_succ, Act.put, List.setIfInBounds_toArray, List.set_cons_zero, List.set_cons_succ])
        (refine wpAnyH_ready (rs := [18]) (by kernel_rfl) (by simp) ?_; refine AllReadyH.cons rfl (fun K hK => ?_) AllReadyH.nil)
        rw [if_pos (by rfl)]
        refine wp_appC _ _ (by rfl) (w2.heap.size + 1) cv ((x, m), (Y, y)) G' g' (by rfl) (hown.behind hb5w) w4.heap.size (by rfl) (Blk.new _ _ _) ((own_less own4 (show w2.heap.size + 1 ≤ wr.heap.size by omega)).alloc _) (by omega) (by have := hb5w.size; omega) ?_
        intro G6 g6 w6 hown6 hb6
        have hb6w : Below (w2.heap.size + 1) wr w6 := (hb5w.mono hzr).trans hb6
        have kB6 := kB.below hb6w (by omega)
        have kR6 := kR.below hb6w (by omega)
        have kQ6 := kQ.below hb6w (by omega)
        have hz6 := hb6w.size
        have s6 : w6.cell? ⟨w.heap.size, 1, none⟩ = some (.slice (some ad) cuts.length gap) ∧ w6.cell? (ad.add (cv.length * 2)) = some (.int .i64 x) ∧ w6.cell? ⟨(ad.add (cv.length * 2)).block, (ad.add (cv.length * 2)).off + 1, none⟩ = some (.slice E2 m.length cap2) := ⟨kR6.cell 1, (hb6w.cell (by rw [addr_block]; omega)).trans h1, (hb6w.cell (p := ⟨(ad.add (cv.length * 2)).block, (ad.add (cv.length * 2)).off + 1, none⟩) (by show (ad.add (cv.length * 2)).block < _; rw [addr_block]; omega)).trans h2⟩
        refine hK.out _ _ (s6) (fun hHeld => ?_)
        clear hK K
        (try simp only [List.getElem_toArray, List.getElem_cons_zero, List.getElem_cons_succ, Act.put, List.setIfInBounds_toArray, List.set_cons_zero, List.set_cons_succ])
        (refine wpAnyH_take (i := 19) (v := ?_) rfl (by kernel_rfl) (by kernel_rfl) (by kernel_rfl) (fun _ _ _ h => h) (Or.inl ⟨by rfl, ?_⟩) (by assumption) ?_; rotate_left; (· intro w5 hS5; (try dsimp only at hS5); go_simp <;> with_reducible rfl); (try simp only [List.getElem_toArray, List.getElem_cons_zero, List.getElem_cons_succ, Act.put, List.setIfInBounds_toArray, List.set_cons_zero, List.set_cons_succ]))
        (refine wpAnyH_ready (rs := [20]) (by kernel_rfl) (by simp) ?_; refine AllReadyH.cons rfl (fun K hK => ?_) AllReadyH.nil)
        have n1 : w6.cell? ⟨w2.heap.size, 1, none⟩ = some (.slice G' cv.length g') := kB6.cell 1
        have n2 := kB6.frozen 1
        go_simp
        clear n1 n2
        refine hK.out _ _ (⟨(World.cell?_setCell_far _ _ _ _ (by simp; omega)).trans s6.1, (World.cell?_setCell_far _ _ _ _ (by rw [addr_block]; simp; omega)).trans s6.2.1, (World.cell?_setCell_far _ _ _ _ (by show _ ≠ (ad.add (cv.length * 2)).block; rw [addr_block]; simp; omega)).trans s6.2.2⟩) (fun hHeld => ?_)
        clear hK K
        (try simp only [List.getElem_toArray, List.getElem_cons_zero, List.getElem_cons_succ, Act.put, List.setIfInBounds_toArray, List.set_cons_zero, List.set_cons_succ])
        refine wpAnyH_done (by kernel_rfl) ?_ _
        clear hHeld
        go_wp2_with fail
        go_roundw
        case rel =>
          refine ⟨G6, g6, cv ++ [((x, m), (Y, y))], by simp; omega, by simp, fun p hp => ?_, (hb.trans (hb6w.mono (by omega))).setCell (p := ⟨w2.heap.size, 1, none⟩) (by simp) _, kR6.far (p := ⟨w2.heap.size, 1, none⟩) (by simp; omega) _, kQ6.far (p := ⟨w2.heap.size, 1, none⟩) (by simp; omega) _, (by rw [show (cv ++ [((x, m), (Y, y))]).length = cv.length + 1 by simp]; exact kB6.store 1 _), by simp [World.setCell]; omega, hown6.keepCell (show w2.heap.size < w2.heap.size + 1 by omega) _⟩
          rcases List.mem_append.1 hp with hp | hp
          · exact hcl p hp
          · rw [List.mem_singleton.1 hp]; exact hc2.out
        case measure => simp [intOf]; try omega
      · go_simp
        have v1 : (wr.alloc (.cells #[] 3)).cell? ⟨w2.heap.size, 1, none⟩ = some (.slice G' cv.length g') := (kB.alloc _).cell 1
        refine hK.out _ _ (sA) (fun hHeld => ?_)
        clear hK K
        (try simp only [List.getElem_toArray, List.getElem_cons_zero, List.getElem_cons_succ, Act.put, List.setIfInBounds_toArray, List.set_cons_zero, List.set_cons_succ])
        (refine wpAnyH_ready (rs := [1, 15]) (by kernel_rfl) (by simp) ?_; refine AllReadyH.cons rfl (fun K hK => ?_) (AllReadyH.cons rfl (fun K hK => ?_) AllReadyH.nil))
        · go_simp
          refine hK.out _ _ (sA) (fun hHeld => ?_)
          clear hK K
          (try simp only [List.getElem_toArray, List.getElem_cons_zero, List.getElem_cons_succ, Act.put, List.setIfInBounds_toArray, List.set_cons_zero, List.set_cons_succ])
          (refine wpAnyH_ready (rs := [15]) (by kernel_rfl) (by simp) ?_; refine AllReadyH.cons rfl (fun K hK => ?_) AllReadyH.nil)
          rw [if_pos (by rfl)]
          refine wp_appM _ _ (by rfl) (by rfl) wr.heap.size ([] : List Int) m 0 m.length m.length (.slice (some ⟨wr.heap.size, 0, none⟩) 0 0) E2 cap2 _ (by rfl) (by rfl) (by omega) (by rfl) oe (by rfl) ie (by omega) (by omega) hze ?_
          intro Y y w4 own4 hb4 _
          rw [List.nil_append] at own4
          have hb4w : Below wr.heap.size wr w4 := be.trans hb4
          have kB4 := kB.below hb4w kB.lt
          have v4 := kB4.cell 1
          have s4 : w4.cell? ⟨w.heap.size, 1, none⟩ = some (.slice (some ad) cuts.length gap) ∧ w4.cell? (ad.add (cv.length * 2)) = some (.int .i64 x) ∧ w4.cell? ⟨(ad.add (cv.length * 2)).block, (ad.add (cv.length * 2)).off + 1, none⟩ = some (.slice E2 m.length cap2) := ⟨(kR.below hb4w kR.lt).cell 1, (hb4w.cell hadw).trans h1, (hb4w.cell (p := ⟨(ad.add (cv.length * 2)).block, (ad.add (cv.length * 2)).off + 1, none⟩) hadw).trans h2⟩
          refine hK.out _ _ (s4) (fun hHeld => ?_)
          clear hK K
          (try simp only [List.getElem_toArray, List.getElem_cons_zero, List.getElem_cons_succ, Act.put, List.setIfInBounds_toArray, List.set_cons_zero, List.set_cons_succ])
          (refine wpAnyH_take (i := 16) (v := ?_) rfl (by kernel_rfl) (by kernel_rfl) (by kernel_rfl) (fun _ _ _ h => h) (Or.inl ⟨by rfl, ?_⟩) (by assumption) ?_; rotate_left; (· intro w5 hS5; (try dsimp only at hS5); go_simp <;> with_reducible rfl); (try simp only [List.getElem_toArray, List.getElem_cons_zero, List.getElem_cons_succ, Act.put, List.setIfInBounds_toArray, List.set_cons_zero, List.set_cons_succ]))
          (refine wpAnyH_ready (rs := [17]) (by kernel_rfl) (by simp) ?_; refine AllReadyH.cons rfl (fun K hK => ?_) AllReadyH.nil)
          go_simp
          have b5 := below_new w4 (.cells #[.int .i64 x, .slice Y m.length y] 104)
          have hb5w : Below wr.heap.size wr (w4.alloc (.cells #[.int .i64 x, .slice Y m.length y] 104)) := hb4w.trans (b5.mono hb4w.size)
          have v5 : (w4.alloc (.cells #[.int .i64 x, .slice Y m.length y] 104)).cell? ⟨w2.heap.size, 1, none⟩ = some (.slice G' cv.length g') := (kB4.alloc _).cell 1
          have s5 : (w4.alloc (.cells #[.int .i64 x, .slice Y m.length y] 104)).cell? ⟨w.heap.size, 1, none⟩ = some (.slice (some ad) cuts.length gap) ∧ (w4.alloc (.cells #[.int .i64 x, .slice Y m.length y] 104)).cell? (ad.add (cv.length * 2)) = some (.int .i64 x) ∧ (w4.alloc (.cells #[.int .i64 x, .slice Y m.length y] 104)).cell? ⟨(ad.add (cv.length * 2)).block, (ad.add (cv.length * 2)).off + 1, none⟩ = some (.slice E2 m.length cap2) := ⟨(kR.below hb5w kR.lt).cell 1, (hb5w.cell hadw).trans h1, (hb5w.cell (p := ⟨(ad.add (cv.length * 2)).block, (ad.add (cv.length * 2)).off + 1, none⟩) hadw).trans h2⟩
          refine hK.out _ _ (s5) (fun hHeld => ?_)
          clear hK K
          (try simp only [List.getElem_toArray, List.getElem_cons_zero, List.getElem_cons_succ, Act.put, List.setIfInBounds_toArray, List.set_cons_zero, List.set_cons_succ])
          (refine wpAnyH_ready (rs := [18]) (by kernel_rfl) (by simp) ?_; refine AllReadyH.cons rfl (fun K hK => ?_) AllReadyH.nil)
          rw [if_pos (by rfl)]
          refine wp_appC _ _ (by rfl) (w2.heap.size + 1) cv ((x, m), (Y, y)) G' g' (by rfl) (hown.behind hb5w) w4.heap.size (by rfl) (Blk.new _ _ _) ((own_less own4 (show w2.heap.size + 1 ≤ wr.heap.size by omega)).alloc _) (by omega) (by have := hb5w.size; omega) ?_
          intro G6 g6 w6 hown6 hb6
          have hb6w : Below (w2.heap.size + 1) wr w6 := (hb5w.mono hzr).trans hb6
          have kB6 := kB.below hb6w (by omega)
          have kR6 := kR.below hb6w (by omega)
          have kQ6 := kQ.below hb6w (by omega)
          have hz6 := hb6w.size
          have s6 : w6.cell? ⟨w.heap.size, 1, none⟩ = some (.slice (some ad) cuts.length gap) ∧ w6.cell? (ad.add (cv.length * 2)) = some (.int .i64 x) ∧ w6.cell? ⟨(ad.add (cv.length * 2)).block, (ad.add (cv.length * 2)).off + 1, none⟩ = some (.slice E2 m.length cap2) := ⟨kR6.cell 1, (hb6w.cell (by rw [addr_block]; omega)).trans h1, (hb6w.cell (p := ⟨(ad.add (cv.length * 2)).block, (ad.add (cv.length * 2)).off + 1, none⟩) (by show (ad.add (cv.length * 2)).block < _; rw [addr_block]; omega)).trans h2⟩
          refine hK.out _ _ (s6) (fun hHeld => ?_)
          clear hK K
          (try simp only [List.getElem_toArray, List.getElem_cons_zero, List.getElem_cons_succ, Act.put, List.setIfInBounds_toArray, List.set_cons_zero, List.set_cons_succ])
          (refine wpAnyH_take (i := 19) (v := ?_) rfl (by kernel_rfl) (by kernel_rfl) (by kernel_rfl) (fun _ _ _ h => h) (Or.inl ⟨by rfl, ?_⟩) (by assumption) ?_; rotate_left; (· intro w5 hS5; (try dsimp only at hS5); go_simp <;> with_reducible rfl); (try simp only [List.getElem_toArray, List.getElem_cons_zero, List.getElem_cons_succ, Act.put, List.setIfInBounds_toArray, List.set_cons_zero, List.set_cons_succ]))
          (refine wpAnyH_ready (rs := [20]) (by kernel_rfl) (by simp) ?_; refine AllReadyH.cons rfl (fun K hK => ?_) AllReadyH.nil)
          have n1 : w6.cell? ⟨w2.heap.size, 1, none⟩ = some (.slice G' cv.length g') := kB6.cell 1
          have n2 := kB6.frozen 1
          go_simp
          clear n1 n2
          refine hK.out _ _ (⟨(World.cell?_setCell_far _ _ _ _ (by simp; omega)).trans s6.1, (World.cell?_setCell_far _ _ _ _ (by rw [addr_block]; simp; omega)).trans s6.2.1, (World.cell?_setCell_far _ _ _ _ (by show _ ≠ (ad.add (cv.length * 2)).block; rw [addr_block]; simp; omega)).trans s6.2.2⟩) (fun hHeld => ?_)
          clear hK K
          (try simp only [List.getElem_toArray, List.getElem_cons_zero, List.getElem_cons_succ, Act.put, List.setIfInBounds_toArray, List.set_cons_zero, List.set_cons_succ])
          refine wpAnyH_done (by kernel_rfl) ?_ _
          clear hHeld
          go_wp2_with fail
          go_roundw
          case rel =>
            refine ⟨G6, g6, cv ++ [((x, m), (Y, y))], by simp; omega, by simp, fun p hp => ?_, (hb.trans (hb6w.mono (by omega))).setCell (p := ⟨w2.heap.size, 1, none⟩) (by simp) _, kR6.far (p := ⟨w2.heap.size, 1, none⟩) (by simp; omega) _, kQ6.far (p := ⟨w2.heap.size, 1, none⟩) (by simp; omega) _, (by rw [show (cv ++ [((x, m), (Y, y))]).length = cv.length + 1 by simp]; exact kB6.store 1 _), by simp [World.setCell]; omega, hown6.keepCell (show w2.heap.size < w2.heap.size + 1 by omega) _⟩
            rcases List.mem_append.1 hp with hp | hp
            · exact hcl p hp
            · rw [List.mem_singleton.1 hp]; exact hc2.out
          case measure => simp [intOf]; try omega
        · rw [if_pos (by rfl)]
          refine wp_appM _ _ (by rfl) (by rfl) wr.heap.size ([] : List Int) m 0 m.length m.length (.slice (some ⟨wr.heap.size, 0, none⟩) 0 0) E2 cap2 _ (by rfl) (by rfl) (by omega) (by rfl) oe (by rfl) ie (by omega) (by omega) hze ?_
          intro Y y w4 own4 hb4 _
          rw [List.nil_append] at own4
          have hb4w : Below wr.heap.size wr w4 := be.trans hb4
          have kB4 := kB.below hb4w kB.lt
          have v4 := kB4.cell 1
          have s4 : w4.cell? ⟨w.heap.size, 1, none⟩ = some (.slice (some ad) cuts.length gap) ∧ w4.cell? (ad.add (cv.length * 2)) = some (.int .i64 x) ∧ w4.cell? ⟨(ad.add (cv.length * 2)).block, (ad.add (cv.length * 2)).off + 1, none⟩ = some (.slice E2 m.length cap2) := ⟨(kR.below hb4w kR.lt).cell 1, (hb4w.cell hadw).trans h1, (hb4w.cell (p := ⟨(ad.add (cv.length * 2)).block, (ad.add (cv.length * 2)).off + 1, none⟩) hadw).trans h2⟩
          refine hK.out _ _ (s4) (fun hHeld => ?_)
          clear hK K
          (try simp only [List.getElem_toArray, List.getElem_cons_zero, List.getElem_cons_succ, Act.put, List.setIfInBounds_toArray, List.set_cons_zero, List.set_cons_succ])
          (refine wpAnyH_take (i := 16) (v := ?_) rfl (by kernel_rfl) (by kernel_rfl) (by kernel_rfl) (fun _ _ _ h => h) (Or.inl ⟨by rfl, ?_⟩) (by assumption) ?_; rotate_left; (· intro w5 hS5; (try dsimp only at hS5); go_simp <;> with_reducible rfl); (try simp only [List.getElem_toArray, List.getElem_cons_zero, List.getElem_cons_succ, Act.put, List.setIfInBounds_toArray, List.set_cons_zero, List.set_cons_succ]))
          (refine wpAnyH_ready (rs := [1, 17]) (by kernel_rfl) (by simp) ?_; refine AllReadyH.cons rfl (fun K hK => ?_) (AllReadyH.cons rfl (fun K hK => ?_) AllReadyH.nil))
          · go_simp
            refine hK.out _ _ (s4) (fun hHeld => ?_)
            clear hK K
            (try simp only [List.getElem_toArray, List.getElem_cons_zero, List.getElem_cons_succ, Act.put, List.setIfInBounds_toArray, List.set_cons_zero, List.set_cons_succ])
            (refine wpAnyH_ready (rs := [17]) (by kernel_rfl) (by simp) ?_; refine AllReadyH.cons rfl (fun K hK => ?_) AllReadyH.nil)
            go_simp
            have b5 := below_new w4 (.cells #[.int .i64 x, .slice Y m.length y] 104)
            have hb5w : Below wr.heap.size wr (w4.alloc (.cells #[.int .i64 x, .slice Y m.length y] 104)) := hb4w.trans (b5.mono hb4w.size)
            have v5 : (w4.alloc (.cells #[.int .i64 x, .slice Y m.length y] 104)).cell? ⟨w2.heap.size, 1, none⟩ = some (.slice G' cv.length g') := (kB4.alloc _).cell 1
            have s5 : (w4.alloc (.cells #[.int .i64 x, .slice Y m.length y] 104)).cell? ⟨w.heap.size, 1, none⟩ = some (.slice (some ad) cuts.length gap) ∧ (w4.alloc (.cells #[.int .i64 x, .slice Y m.length y] 104)).cell? (ad.add (cv.length * 2)) = some (.int .i64 x) ∧ (w4.alloc (.cells #[.int .i64 x, .slice Y m.length y] 104)).cell? ⟨(ad.add (cv.length * 2)).block, (ad.add (cv.length * 2)).off + 1, none⟩ = some (.slice E2 m.length cap2) := ⟨(kR.below hb5w kR.lt).cell 1, (hb5w.cell hadw).trans h1, (hb5w.cell (p := ⟨(ad.add (cv.length * 2)).block, (ad.add (cv.length * 2)).off + 1, none⟩) hadw).trans h2⟩
            refine hK.out _ _ (s5) (fun hHeld => ?_)
            clear hK K
            (try simp only [List.getElem_toArray, List.getElem_cons_zero, List.getElem_cons_succ, Act.put, List.setIfInBounds_toArray, List.set_cons_zero, List.set_cons_succ])
            (refine wpAnyH_ready (rs := [18]) (by kernel_rfl) (by simp) ?_; refine AllReadyH.cons rfl (fun K hK => ?_) AllReadyH.nil)
            rw [if_pos (by rfl)]
            refine wp_appC _ _ (by rfl) (w2.heap.size + 1) cv ((x, m), (Y, y)) G' g' (by rfl) (hown.behind hb5w) w4.heap.size (by rfl) (Blk.new _ _ _) ((own_less own4 (show w2.heap.size + 1 ≤ wr.heap.size by omega)).alloc _) (by omega) (by have := hb5w.size; omega) ?_
            intro G6 g6 w6 hown6 hb6
            have hb6w : Below (w2.heap.size + 1) wr w6 := (hb5w.mono hzr).trans hb6
            have kB6 := kB.below hb6w (by omega)
            have kR6 := kR.below hb6w (by omega)
            have kQ6 := kQ.below hb6w (by omega)
            have hz6 := hb6w.size
            have s6 : w6.cell? ⟨w.heap.size, 1, none⟩ = some (.slice (some ad) cuts.length gap) ∧ w6.cell? (ad.add (cv.length * 2)) = some (.int .i64 x) ∧ w6.cell? ⟨(ad.add (cv.length * 2)).block, (ad.add (cv.length * 2)).off + 1, none⟩ = some (.slice E2 m.length cap2) := ⟨kR6.cell 1, (hb6w.cell (by rw [addr_block]; omega)).trans h1, (hb6w.cell (p := ⟨(ad.add (cv.length * 2)).block, (ad.add (cv.length * 2)).off + 1, none⟩) (by show (ad.add (cv.length * 2)).block < _; rw [addr_block]; omega)).trans h2⟩
            refine hK.out _ _ (s6) (fun hHeld => ?_)
            clear hK K
            (try simp only [List.getElem_toArray, List.getElem_cons_zero, List.getElem_cons_succ, Act.put, List.setIfInBounds_toArray, List.set_cons_zero, List.set_cons_succ])
            (refine wpAnyH_take (i := 19) (v := ?_) rfl (by kernel_rfl) (by kernel_rfl) (by kernel_rfl) (fun _ _ _ h => h) (Or.inl ⟨by rfl, ?_⟩) (by assumption) ?_; rotate_left; (· intro w5 hS5; (try dsimp only at hS5); go_simp <;> with_reducible rfl); (try simp only [List.getElem_toArray, List.getElem_cons_zero, List.getElem_cons_succ, Act.put, List.setIfInBounds_toArray, List.set_cons_zero, List.set_cons_succ]))
            (refine wpAnyH_ready (rs := [20]) (by kernel_rfl) (by simp) ?_; refine AllReadyH.cons rfl (fun K hK => ?_) AllReadyH.nil)
            have n1 : w6.cell? ⟨w2.heap.size, 1, none⟩ = some (.slice G' cv.length g') := kB6.cell 1
            have n2 := kB6.frozen 1
            go_simp
            clear n1 n2
            refine hK.out _ _ (⟨(World.cell?_setCell_far _ _ _ _ (by simp; omega)).trans s6.1, (World.cell?_setCell_far _ _ _ _ (by rw [addr_block]; simp; omega)).trans s6.2.1, (World.cell?_setCell_far _ _ _ _ (by show _ ≠ (ad.add (cv.length * 2)).block; rw [addr_block]; simp; omega)).trans s6.2.2⟩) (fun hHeld => ?_)
            clear hK K
            (try simp only [List.getElem_toArray, List.getElem_cons_zero, List.getElem_cons_succ, Act.put, List.setIfInBounds_toArray, List.set_cons_zero, List.set_cons_succ])
            refine wpAnyH_done (by kernel_rfl) ?_ _
            clear hHeld
            go_wp2_with fail
            go_roundw
            case rel =>
              refine ⟨G6, g6, cv ++ [((x, m), (Y, y))], by simp; omega, by simp, fun p hp => ?_, (hb.trans (hb6w.mono (by omega))).setCell (p := ⟨w2.heap.size, 1, none⟩) (by simp) _, kR6.far (p := ⟨w2.heap.size, 1, none⟩) (by simp; omega) _, kQ6.far (p := ⟨w2.heap.size, 1, none⟩) (by simp; omega) _, (by rw [show (cv ++ [((x, m), (Y, y))]).length = cv.length + 1 by simp]; exact kB6.store 1 _), by simp [World.setCell]; omega, hown6.keepCell (show w2.heap.size < w2.heap.size + 1 by omega) _⟩
              rcases List.mem_append.1 hp with hp | hp
              · exact hcl p hp
              · rw [List.mem_singleton.1 hp]; exact hc2.out
            case measure => simp [intOf]; try omega
          · go_simp
            have b5 := below_new w4 (.cells #[.int .i64 x, .slice Y m.length y] 104)
            have hb5w : Below wr.heap.size wr (w4.alloc (.cells #[.int .i64 x, .slice Y m.length y] 104)) := hb4w.trans (b5.mono hb4w.size)
            have v5 : (w4.alloc (.cells #[.int .i64 x, .slice Y m.length y] 104)).cell? ⟨w2.heap.size, 1, none⟩ = some (.slice G' cv.length g') := (kB4.alloc _).cell 1
            have s5 : (w4.alloc (.cells #[.int .i64 x, .slice Y m.length y] 104)).cell? ⟨w.heap.size, 1, none⟩ = some (.slice (some ad) cuts.length gap) ∧ (w4.alloc (.cells #[.int .i64 x, .slice Y m.length y] 104)).cell? (ad.add (cv.length * 2)) = some (.int .i64 x) ∧ (w4.alloc (.cells #[.int .i64 x, .slice Y m.length y] 104)).cell? ⟨(ad.add (cv.length * 2)).block, (ad.add (cv.length * 2)).off + 1, none⟩ = some (.slice E2 m.length cap2) := ⟨(kR.below hb5w kR.lt).cell 1, (hb5w.cell hadw).trans h1, (hb5w.cell (p := ⟨(ad.add (cv.length * 2)).block, (ad.add (cv.length * 2)).off + 1, none⟩) hadw).trans h2⟩
            refine hK.out _ _ (s5) (fun hHeld => ?_)
            clear hK K
            (try simp only [List.getElem_toArray, List.getElem_cons_zero, List.getElem_cons_succ, Act.put, List.setIfInBounds_toArray, List.set_cons_zero, List.set_cons_succ])
            (refine wpAnyH_ready (rs := [1]) (by kernel_rfl) (by simp) ?_; refine AllReadyH.cons rfl (fun K hK => ?_) AllReadyH.nil)
            go_simp
            refine hK.out _ _ (s5) (fun hHeld => ?_)
            clear hK K
            (try simp only [List.getElem_toArray, List.getElem_cons_zero, List.getElem_cons_succ, Act.put, List.setIfInBounds_toArray, List.set_cons_zero, List.set_cons_succ])
            (refine wpAnyH_ready (rs := [18]) (by kernel_rfl) (by simp) ?_; refine AllReadyH.cons rfl (fun K hK => ?_) AllReadyH.nil)
            rw [if_pos (by rfl)]
            refine wp_appC _ _ (by rfl) (w2.heap.size + 1) cv ((x, m), (Y, y)) G' g' (by rfl) (hown.behind hb5w) w4.heap.size (by rfl) (Blk.new _ _ _) ((own_less own4 (show w2.heap.size + 1 ≤ wr.heap.size by omega)).alloc _) (by omega) (by have := hb5w.size; omega) ?_
            intro G6 g6 w6 hown6 hb6
            have hb6w : Below (w2.heap.size + 1) wr w6 := (hb5w.mono hzr).trans hb6
            have kB6 := kB.below hb6w (by omega)
            have kR6 := kR.below hb6w (by omega)
            have kQ6 := kQ.below hb6w (by omega)
            have hz6 := hb6w.size
            have s6 : w6.cell? ⟨w.heap.size, 1, none⟩ = some (.slice (some ad) cuts.length gap) ∧ w6.cell? (ad.add (cv.length * 2)) = some (.int .i64 x) ∧ w6.cell? ⟨(ad.add (cv.length * 2)).block, (ad.add (cv.length * 2)).off + 1, none⟩ = some (.slice E2 m.length cap2) := ⟨kR6.cell 1, (hb6w.cell (by rw [addr_block]; omega)).trans h1, (hb6w.cell (p := ⟨(ad.add (cv.length * 2)).block, (ad.add (cv.length * 2)).off + 1, none⟩) (by show (ad.add (cv.length * 2)).block < _; rw [addr_block]; omega)).trans h2⟩
            refine hK.out _ _ (s6) (fun hHeld => ?_)
            clear hK K
            (try simp only [List.getElem_toArray, List.getElem_cons_zero, List.getElem_cons_succ, Act.put, List.setIfInBounds_toArray, List.set_cons_zero, List.set_cons_succ])
            (refine wpAnyH_take (i := 19) (v := ?_) rfl (by kernel_rfl) (by kernel_rfl) (by kernel_rfl) (fun _ _ _ h => h) (Or.inl ⟨by rfl, ?_⟩) (by assumption) ?_; rotate_left; (· intro w5 hS5; (try dsimp only at hS5); go_simp <;> with_reducible rfl); (try simp only [List.getElem_toArray, List.getElem_cons_zero, List.getElem_cons_succ, Act.put, List.setIfInBounds_toArray, List.set_cons_zero, List.set_cons_succ]))
            (refine wpAnyH_ready (rs := [20]) (by kernel_rfl) (by simp) ?_; refine AllReadyH.cons rfl (fun K hK => ?_) AllReadyH.nil)
            have n1 : w6.cell? ⟨w2.heap.size, 1, none⟩ = some (.slice G' cv.length g') := kB6.cell 1
            have n2 := kB6.frozen 1
            go_simp
            clear n1 n2
            refine hK.out _ _ (⟨(World.cell?_setCell_far _ _ _ _ (by simp; omega)).trans s6.1, (World.cell?_setCell_far _ _ _ _ (by rw [addr_block]; simp; omega)).trans s6.2.1, (World.cell?_setCell_far _ _ _ _ (by show _ ≠ (ad.add (cv.length * 2)).block; rw [addr_block]; simp; omega)).trans s6.2.2⟩) (fun hHeld => ?_)
            clear hK K
            (try simp only [List.getElem_toArray, List.getElem_cons_zero, List.getElem_cons_succ, Act.put, List.setIfInBounds_toArray, List.set_cons_zero, List.set_cons_succ])
            refine wpAnyH_done (by kernel_rfl) ?_ _
            clear hHeld
            go_wp2_with fail
            go_roundw
            case rel =>
              refine ⟨G6, g6, cv ++ [((x, m), (Y, y))], by simp; omega, by simp, fun p hp => ?_, (hb.trans (hb6w.mono (by omega))).setCell (p := ⟨w2.heap.size, 1, none⟩) (by simp) _, kR6.far (p := ⟨w2.heap.size, 1, none⟩) (by simp; omega) _, kQ6.far (p := ⟨w2.heap.size, 1, none⟩) (by simp; omega) _, (by rw [show (cv ++ [((x, m), (Y, y))]).length = cv.length + 1 by simp]; exact kB6.store 1 _), by simp [World.setCell]; omega, hown6.keepCell (show w2.heap.size < w2.heap.size + 1 by omega) _⟩
              rcases List.mem_append.1 hp with hp | hp
              · exact hcl p hp
              · rw [List.mem_singleton.1 hp]; exact hc2.out
            case measure => simp [intOf]; try omega
    · obtain ⟨cs, hcs⟩ : ∃ cs, cs = cv.map (·.1) := ⟨_, rfl⟩
      have CB : CutsB wr (w2.heap.size + 1) wr.heap.size G' cs := hcs ▸ hown.cutsB
      have hcsl : Hid (cv.length = cs.length) := by unfold Hid; rw [hcs]; simp
      have hcs210 : cv.length ≤ 210 := by omega
      have hcN : Hid (∀ c ∈ cs, c.2.length = N) := by unfold Hid; rw [hcs]; intro c hc; obtain ⟨p, hp, rfl⟩ := List.mem_map.1 hc; exact hcl p hp
      have ownS := own_below own2 hb
      have iS : Ints wr wr.heap.size S st := Ints.of_own ownS
      have hSb : ∀ k, (Value.slice S st.length sap).ownBlock = some k → w.heap.size + 2 ≤ k ∧ k < w2.heap.size := fun k hk => own2.lt k hk
      have hS1 : ∀ ad, S = some ad → w.heap.size + 1 ≠ ad.block := fun ad h => by subst h; have := (hSb ad.block rfl).1; omega
      have hwz : w2.heap.size < wr.heap.size := by omega
      have hclH : Hid (∀ p ∈ cv, p.1.2.length = N) := hcl
      clear hcs hcl hb own2
      have hm : what % 5 = 0 ∨ what % 5 = 1 ∨ what % 5 = 2 ∨ what % 5 = 3 ∨ what % 5 = 4 := by omega
      rcases hm with hm | hm | hm | hm | hm
      · have f0 : (what % 5 == 0) = true := by rw [hm]; rfl
        clear hm
        by_cases h0 : 0 < st.length
        · have h0' : (0 : Int) < (st.length : Int) := by omega
          have hz0 : ¬ (st.length : Int) = 0 := by omega
          have h5 : 0 ≤ what / 5 := by omega
          obtain ⟨k, hk'⟩ : ∃ k : Nat, what / 5 % (st.length : Int) = k := ⟨(what / 5 % (st.length : Int)).toNat, by have := Int.emod_nonneg (what / 5) hz0; omega⟩
          have hkl : k < st.length := by have := Int.emod_lt_of_pos (what / 5) h0'; omega
          obtain ⟨ad, z, hS, hadb, hcz, hfz⟩ := own_cellC ownS hkl
          subst hS
          have hkl' : (k : Int) < (st.length : Int) := by omega
          have hadS : w.heap.size + 2 ≤ (ad.add k).block ∧ w2.heap.size ≠ (ad.add k).block := by have := hSb ad.block rfl; rw [addr_block]; omega
          obtain ⟨q0, q1, q2, q3⟩ := And.intro (kB.cell 0) (And.intro (kB.cell 1) (And.intro (kB.frozen 0) (kB.frozen 1)))
          go_wp2_with fail
          go_region
          obtain ⟨cs', hcl1, hcl2, CB'⟩ := CB.anyStore hcz (wrap64 (z + n))
          obtain ⟨st', hsl', iS'⟩ := iS.anyStore hcz (wrap64 (z + n))
          have hcN' : Hid (∀ c ∈ cs', c.2.length ≤ 210) := fun c hc => by obtain ⟨c0, h0, h1⟩ := hcl2 c hc; rw [h1, hcN.out c0 h0]; exact hN
          obtain ⟨w3, he3, kB3, kQ3, iS3, CB3, bw3⟩ : ∃ w3, w3 = ((wr.setCell (ad.add k) (.int .i64 (wrap64 (z + n)))).drew) ∧ Blk w3 w2.heap.size 56 #[.slice (some ad) st.length sap, .slice G' cv.length g'] ∧ Blk w3 (w.heap.size + 1) 56 #[.slice none 0 0, .slice none 0 0] ∧ Ints w3 w3.heap.size (some ad) st' ∧ CutsB w3 (w2.heap.size + 1) w3.heap.size G' cs' ∧ Below w.heap.size w w3 := ⟨_, rfl, kB.far (p := ad.add k) (hadS.2) _, kQ.far (p := ad.add k) (by have := hadS.1; omega) _, iS'.more (by simp [World.setCell, World.drew]), CB'.more (by simp [World.setCell, World.drew]), (bw.setCell (p := ad.add k) (by have := hadS.1; omega) _).drew⟩
          rw [← he3]
          clear he3 iS' CB' hcl2 iS CB kB kQ q0 q1 q2 q3
          obtain ⟨q0, q1⟩ := And.intro (kB3.cell 0) (kB3.cell 1)
          obtain ⟨p0, p1, p2, p3⟩ := And.intro (kQ3.cell 0) (And.intro (kQ3.cell 1) (And.intro (kQ3.frozen 0) (kQ3.frozen 1)))
          go_wp2_with fail
          refine bodyPost_ret (v := .agg #[.slice (some ad) st.length sap, .slice G' cv.length g']) (results_cell_row (g := w.heap.size + 1) rfl _ _ 56 _ (0, 0) _ rfl ((kQ3.store 0 (.slice (some ad) st.length sap)).store 1 (.slice G' cv.length g')) Try.underlying56 rfl info56) rfl ?_
          exact bent_end (b := w2.heap.size + 1) iS3 hS1 CB3 (by omega) bw3 (by omega) (by rw [hcl1, ← hcsl.out]; exact hcs210) (fun c hc => hcN'.out c hc) hsl'.symm (by rw [hcl1]; exact hcsl.out) _ _
        · have h0' : ¬ (0 : Int) < (st.length : Int) := by omega
          obtain ⟨p0, p1, p2, p3⟩ := And.intro (kQ.cell 0) (And.intro (kQ.cell 1) (And.intro (kQ.frozen 0) (kQ.frozen 1)))
          go_wp2_with fail
          refine bodyPost_ret (v := .agg #[.slice S st.length sap, .slice G' cv.length g']) (results_cell_row (g := w.heap.size + 1) rfl _ _ 56 _ (0, 0) _ rfl ((kQ.store 0 (.slice S st.length sap)).store 1 (.slice G' cv.length g')) Try.underlying56 rfl info56) rfl ?_
          exact bent_end (b := w2.heap.size + 1) iS hS1 CB (by omega) bw (by omega) (by rw [← hcsl.out]; exact hcs210) (fun c hc => by rw [hcN.out c hc]; exact hN) rfl hcsl.out _ _
      · have f0 : (what % 5 == 0) = false := by rw [hm]; rfl
        have f1 : (what % 5 == 1) = true := by rw [hm]; rfl
        clear hm
        by_cases h0 : 0 < st.length
        · obtain ⟨ad, z, hS, hadb, hcz, hfz⟩ := own_cellC ownS h0
          subst hS
          obtain ⟨oA, oc, hov, o2, o3⟩ := own_form ownS
          cases hov
          have h0' : (0 : Int) < (st.length : Int) := by omega
          have s1 : (1 : Int) ≤ (st.length : Int) := by omega
          have s2 : 1 ≤ st.length := by omega
          have s3 : (st.length : Int) ≤ (sap : Int) := by omega
          have s4 : (1 : Int) ≤ (sap : Int) := by omega
          have s5 : 1 ≤ sap := by omega
          obtain ⟨q0, q1, q2, q3⟩ := And.intro (kB.cell 0) (And.intro (kB.cell 1) (And.intro (kB.frozen 0) (kB.frozen 1)))
          obtain ⟨p0, p1, p2, p3⟩ := And.intro (kQ.cell 0) (And.intro (kQ.cell 1) (And.intro (kQ.frozen 0) (kQ.frozen 1)))
          have hne2 : w2.heap.size ≠ ad.block := by have := (hSb ad.block rfl).2; omega
          have CB3 := (CB.keep (p := ⟨w2.heap.size, 0, none⟩) (by simp) (.slice (some ad) (st.length - 1) 0)).more (Nat.le_of_eq (show wr.heap.size = (wr.setCell ⟨w2.heap.size, 0, none⟩ (.slice (some ad) (st.length - 1) 0)).heap.size by simp [World.setCell]))
          by_cases hcap : sap = 1
          · go_wp2_with fail
            refine bodyPost_ret (v := .agg #[.slice (some ad) (st.length - 1) (0), .slice (G') (cv.length) (g')]) (results_cell_row (g := w.heap.size + 1) rfl _ _ 56 _ (0, 0) _ rfl (((kQ.far (p := ⟨w2.heap.size, 0, none⟩) (by simp; omega) _).store 0 (.slice (some ad) (st.length - 1) (0))).store 1 (.slice (G') (cv.length) (g'))) Try.underlying56 rfl info56) rfl ?_
            exact bent_end (b := w2.heap.size + 1) (st1 := []) Ints.nil hS1 ((CB.keep (p := ⟨w2.heap.size, 0, none⟩) (by simp) _).more (by simp [World.setCell])) (by omega) (bw.setCell (p := ⟨w2.heap.size, 0, none⟩) (by simp; omega) _) (by simp) (by rw [← hcsl.out]; exact hcs210) (fun c hc => by rw [hcN.out c hc]; exact hN) (by simp; omega) hcsl.out _ _
          · go_wp2_with fail
            refine bodyPost_ret (v := .agg #[.slice (some ⟨ad.block, ad.off + 1, none⟩) (st.length - 1) (sap - 1), .slice (G') (cv.length) (g')]) (results_cell_row (g := w.heap.size + 1) rfl _ _ 56 _ (0, 0) _ rfl (((kQ.far (p := ⟨w2.heap.size, 0, none⟩) (by simp; omega) _).store 0 (.slice (some ⟨ad.block, ad.off + 1, none⟩) (st.length - 1) (sap - 1))).store 1 (.slice (G') (cv.length) (g'))) Try.underlying56 rfl info56) rfl ?_
            exact bent_end (b := w2.heap.size + 1) (st1 := st.drop 1) (((iS.dropC 1).setNew (p := ⟨w2.heap.size, 0, none⟩) (fun a ha => by cases ha; rw [addr_block]; exact hne2) _).more (by simp [World.setCell])) (fun a ha => by cases ha; exact hS1 ad rfl) ((CB.keep (p := ⟨w2.heap.size, 0, none⟩) (by simp) _).more (by simp [World.setCell])) (by omega) (bw.setCell (p := ⟨w2.heap.size, 0, none⟩) (by simp; omega) _) (by simp; omega) (by rw [← hcsl.out]; exact hcs210) (fun c hc => by rw [hcN.out c hc]; exact hN) (by simp) hcsl.out _ _
        · have h0' : ¬ (0 : Int) < (st.length : Int) := by omega
          obtain ⟨p0, p1, p2, p3⟩ := And.intro (kQ.cell 0) (And.intro (kQ.cell 1) (And.intro (kQ.frozen 0) (kQ.frozen 1)))
          go_wp2_with fail
          refine bodyPost_ret (v := .agg #[.slice S st.length sap, .slice G' cv.length g']) (results_cell_row (g := w.heap.size + 1) rfl _ _ 56 _ (0, 0) _ rfl ((kQ.store 0 (.slice S st.length sap)).store 1 (.slice G' cv.length g')) Try.underlying56 rfl info56) rfl ?_
          exact bent_end (b := w2.heap.size + 1) iS hS1 CB (by omega) bw (by omega) (by rw [← hcsl.out]; exact hcs210) (fun c hc => by rw [hcN.out c hc]; exact hN) rfl hcsl.out _ _
      · have f0 : (what % 5 == 0) = false := by rw [hm]; rfl
        have f1 : (what % 5 == 1) = false := by rw [hm]; rfl
        have f2 : (what % 5 == 2) = true := by rw [hm]; rfl
        clear hm
        by_cases h0 : 0 < cv.length
        · obtain ⟨ad, hG, _⟩ := hown.atk h0
          subst hG
          obtain ⟨oA, oc, hov, o2, o3⟩ := own_form hown.1
          cases hov
          have h0' : (0 : Int) < (cv.length : Int) := by omega
          have s1 : (1 : Int) ≤ (cv.length : Int) := by omega
          have s2 : 1 ≤ cv.length := by omega
          have s3 : (cv.length : Int) ≤ (g' : Int) := by omega
          have s4 : (1 : Int) ≤ (g' : Int) := by omega
          have s5 : 1 ≤ g' := by omega
          obtain ⟨q0, q1, q2, q3⟩ := And.intro (kB.cell 0) (And.intro (kB.cell 1) (And.intro (kB.frozen 0) (kB.frozen 1)))
          obtain ⟨p0, p1, p2, p3⟩ := And.intro (kQ.cell 0) (And.intro (kQ.cell 1) (And.intro (kQ.frozen 0) (kQ.frozen 1)))
          have hS2 : ∀ a, S = some a → w2.heap.size ≠ a.block := fun a ha => by subst ha; have := (hSb a.block rfl).2; omega
          by_cases hcap : g' = 1
          · go_wp2_with fail
            refine bodyPost_ret (v := .agg #[.slice (S) (st.length) (sap), .slice (some ad) (cv.length - 1) (0)]) (results_cell_row (g := w.heap.size + 1) rfl _ _ 56 _ (0, 0) _ rfl (((kQ.far (p := ⟨w2.heap.size, 1, none⟩) (by simp; omega) _).store 0 (.slice (S) (st.length) (sap))).store 1 (.slice (some ad) (cv.length - 1) (0))) Try.underlying56 rfl info56) rfl ?_
            exact bent_end (b := w2.heap.size + 1) (cs1 := []) ((iS.setNew (p := ⟨w2.heap.size, 1, none⟩) hS2 _).more (by simp [World.setCell])) hS1 CutsB.nil (by omega) (bw.setCell (p := ⟨w2.heap.size, 1, none⟩) (by simp; omega) _) (by omega) (by simp) (fun c hc => by simp at hc) rfl (by simp; omega) _ _
          · go_wp2_with fail
            refine bodyPost_ret (v := .agg #[.slice (S) (st.length) (sap), .slice (some ⟨ad.block, ad.off + 2, none⟩) (cv.length - 1) (g' - 1)]) (results_cell_row (g := w.heap.size + 1) rfl _ _ 56 _ (0, 0) _ rfl (((kQ.far (p := ⟨w2.heap.size, 1, none⟩) (by simp; omega) _).store 0 (.slice (S) (st.length) (sap))).store 1 (.slice (some ⟨ad.block, ad.off + 2, none⟩) (cv.length - 1) (g' - 1))) Try.underlying56 rfl info56) rfl ?_
            exact bent_end (b := w2.heap.size + 1) (cs1 := cs.drop 1) ((iS.setNew (p := ⟨w2.heap.size, 1, none⟩) hS2 _).more (by simp [World.setCell])) hS1 (((CB.drop 1).keep (p := ⟨w2.heap.size, 1, none⟩) (by simp) _).more (by simp [World.setCell])) (by omega) (bw.setCell (p := ⟨w2.heap.size, 1, none⟩) (by simp; omega) _) (by omega) (by rw [List.length_drop, ← hcsl.out]; omega) (fun c hc => by rw [hcN.out c (List.mem_of_mem_drop hc)]; exact hN) rfl (by rw [List.length_drop, ← hcsl.out]) _ _
        · have h0' : ¬ (0 : Int) < (cv.length : Int) := by omega
          obtain ⟨p0, p1, p2, p3⟩ := And.intro (kQ.cell 0) (And.intro (kQ.cell 1) (And.intro (kQ.frozen 0) (kQ.frozen 1)))
          go_wp2_with fail
          refine bodyPost_ret (v := .agg #[.slice S st.length sap, .slice G' cv.length g']) (results_cell_row (g := w.heap.size + 1) rfl _ _ 56 _ (0, 0) _ rfl ((kQ.store 0 (.slice S st.length sap)).store 1 (.slice G' cv.length g')) Try.underlying56 rfl info56) rfl ?_
          exact bent_end (b := w2.heap.size + 1) iS hS1 CB (by omega) bw (by omega) (by rw [← hcsl.out]; exact hcs210) (fun c hc => by rw [hcN.out c hc]; exact hN) rfl hcsl.out _ _
      · have f0 : (what % 5 == 0) = false := by rw [hm]; rfl
        have f1 : (what % 5 == 1) = false := by rw [hm]; rfl
        have f2 : (what % 5 == 2) = false := by rw [hm]; rfl
        have f3 : (what % 5 == 3) = true := by rw [hm]; rfl
        clear hm
        obtain ⟨q0, q1, q2, q3⟩ := And.intro (kB.cell 0) (And.intro (kB.cell 1) (And.intro (kB.frozen 0) (kB.frozen 1)))
        by_cases h0 : 0 < cv.length
        · have h0' : (0 : Int) < (cv.length : Int) := by omega
          obtain ⟨ad, hG, z0⟩ := hown.atk h0
          subst hG
          rw [hclH.out _ (List.getElem_mem h0)] at z0
          generalize cv[0].2.1 = E0 at *
          generalize cv[0].2.2 = c0 at *
          have z0' : wr.cell? ⟨ad.block, ad.off + 1, none⟩ = some (.slice E0 N c0) := z0
          clear z0
          by_cases hN0 : 0 < N
          · have hN0' : (0 : Int) < (N : Int) := by omega
            have hz0 : ¬ (cv.length : Int) = 0 := by omega
            have h5 : 0 ≤ what / 5 := by omega
            obtain ⟨k, hk'⟩ : ∃ k : Nat, what / 5 % (cv.length : Int) = k := ⟨(what / 5 % (cv.length : Int)).toNat, by have := Int.emod_nonneg (what / 5) hz0; omega⟩
            have hkl : k < cv.length := by have := Int.emod_lt_of_pos (what / 5) h0'; omega
            have hkl' : (k : Int) < (cv.length : Int) := by omega
            obtain ⟨ad', hG, zk⟩ := hown.atk hkl
            cases hG
            have hNk := hclH.out _ (List.getElem_mem hkl)
            rw [hNk] at zk
            have ok := hown.2 _ (List.getElem_mem hkl)
            rw [hNk] at ok
            generalize cv[k].2.1 = Ek at *
            generalize cv[k].2.2 = ck at *
            generalize cv[k].1.2 = Lk at *
            clear hNk
            obtain ⟨ae, z, hE, haeb, hcz, hfz⟩ := own_cellC ok (show N - 1 < N by omega)
            subst hE
            have hw1 : IntKind.i64.wrap ((N : Int) - 1) = (N : Int) - 1 := IntWalk.i64_in _ (by omega)
            have hn2 : ((N : Int) - 1).toNat = N - 1 := by omega
            have hn3 : 0 ≤ (N : Int) - 1 := by omega
            have hn4 : (N : Int) - 1 < (N : Int) := by omega
            have hn5 : N - 1 < N := by omega
            have hab : w.heap.size + 2 ≤ (ae.add (N - 1)).block ∧ w2.heap.size ≠ (ae.add (N - 1)).block := by rw [addr_block]; omega
            obtain ⟨p0, p1, p2, p3⟩ := And.intro (kQ.cell 0) (And.intro (kQ.cell 1) (And.intro (kQ.frozen 0) (kQ.frozen 1)))
            have x0 : (wr.setCell (ae.add (N - 1)) (.int .i64 (wrap64 (z + n)))).cell? ⟨w2.heap.size, 0, none⟩ = some (.slice S st.length sap) := (World.cell?_setCell_far _ _ _ _ (Ne.symm hab.2)).trans q0
            have x1 : (wr.setCell (ae.add (N - 1)) (.int .i64 (wrap64 (z + n)))).cell? ⟨w2.heap.size, 1, none⟩ = some (.slice (some ad) cv.length g') := (World.cell?_setCell_far _ _ _ _ (Ne.symm hab.2)).trans q1
            have kQx : Blk (wr.setCell (ae.add (N - 1)) (.int .i64 (wrap64 (z + n)))) (w.heap.size + 1) 56 #[.slice none 0 0, .slice none 0 0] := kQ.far (by have := hab.1; omega) _
            obtain ⟨x2, x3, x4, x5⟩ := And.intro (kQx.cell 0) (And.intro (kQx.cell 1) (And.intro (kQx.frozen 0) (kQx.frozen 1)))
            go_wp2_with fail
            go_region
            go_wp2_with fail
            obtain ⟨cs', hcl1, hcl2, CB'⟩ := CB.anyStore hcz (wrap64 (z + n))
            obtain ⟨st', hsl', iS'⟩ := iS.anyStore hcz (wrap64 (z + n))
            have hcN' : Hid (∀ c ∈ cs', c.2.length ≤ 210) := fun c hc => by obtain ⟨c0, h0, h1⟩ := hcl2 c hc; rw [h1, hcN.out c0 h0]; exact hN
            obtain ⟨w3, he3, kB3, kQ3, iS3, CB3, bw3⟩ : ∃ w3, w3 = ((wr.setCell (ae.add (N - 1)) (.int .i64 (wrap64 (z + n))))) ∧ Blk w3 w2.heap.size 56 #[.slice (S) st.length sap, .slice (some ad) cv.length g'] ∧ Blk w3 (w.heap.size + 1) 56 #[.slice none 0 0, .slice none 0 0] ∧ Ints w3 w3.heap.size (S) st' ∧ CutsB w3 (w2.heap.size + 1) w3.heap.size (some ad) cs' ∧ Below w.heap.size w w3 := ⟨_, rfl, kB.far (p := ae.add (N - 1)) (hab.2) _, kQ.far (p := ae.add (N - 1)) (by have := hab.1; omega) _, iS'.more (by simp [World.setCell, World.drew]), CB'.more (by simp [World.setCell, World.drew]), (bw.setCell (p := ae.add (N - 1)) (by have := hab.1; omega) _)⟩
            rw [← he3]
            refine bodyPost_ret (v := .agg #[.slice (S) st.length sap, .slice (some ad) cv.length g']) (results_cell_row (g := w.heap.size + 1) rfl _ _ 56 _ (0, 0) _ rfl (Blk.drewN (n := 1) ((kQ3.store 0 (.slice (S) st.length sap)).store 1 (.slice (some ad) cv.length g'))) Try.underlying56 rfl info56) rfl ?_
            exact BentP.drew (bent_end (b := w2.heap.size + 1) iS3 hS1 CB3 (by omega) bw3 (by omega) (by rw [hcl1, ← hcsl.out]; exact hcs210) (fun c hc => hcN'.out c hc) hsl'.symm (by rw [hcl1]; exact hcsl.out) _ _)
          · have hN0' : ¬ (0 : Int) < (N : Int) := by omega
            obtain ⟨p0, p1, p2, p3⟩ := And.intro (kQ.cell 0) (And.intro (kQ.cell 1) (And.intro (kQ.frozen 0) (kQ.frozen 1)))
            go_wp2_with fail
            refine bodyPost_ret (v := .agg #[.slice S st.length sap, .slice (some ad) cv.length g']) (results_cell_row (g := w.heap.size + 1) rfl _ _ 56 _ (0, 0) _ rfl ((kQ.store 0 (.slice S st.length sap)).store 1 (.slice (some ad) cv.length g')) Try.underlying56 rfl info56) rfl ?_
            exact bent_end (b := w2.heap.size + 1) iS hS1 CB (by omega) bw (by omega) (by rw [← hcsl.out]; exact hcs210) (fun c hc => by rw [hcN.out c hc]; exact hN) rfl hcsl.out _ _
        · have h0' : ¬ (0 : Int) < (cv.length : Int) := by omega
          obtain ⟨p0, p1, p2, p3⟩ := And.intro (kQ.cell 0) (And.intro (kQ.cell 1) (And.intro (kQ.frozen 0) (kQ.frozen 1)))
          go_wp2_with fail
          refine bodyPost_ret (v := .agg #[.slice S st.length sap, .slice G' cv.length g']) (results_cell_row (g := w.heap.size + 1) rfl _ _ 56 _ (0, 0) _ rfl ((kQ.store 0 (.slice S st.length sap)).store 1 (.slice G' cv.length g')) Try.underlying56 rfl info56) rfl ?_
          exact bent_end (b := w2.heap.size + 1) iS hS1 CB (by omega) bw (by omega) (by rw [← hcsl.out]; exact hcs210) (fun c hc => by rw [hcN.out c hc]; exact hN) rfl hcsl.out _ _
      · have f0 : (what % 5 == 0) = false := by rw [hm]; rfl
        have f1 : (what % 5 == 1) = false := by rw [hm]; rfl
        have f2 : (what % 5 == 2) = false := by rw [hm]; rfl
        have f3 : (what % 5 == 3) = false := by rw [hm]; rfl
        clear hm
        have bA := below_new wr (.cells #[.int .i64 n] 3)
        have ownA := own_below ownS bA
        have kBA := kB.below bA kB.lt
        have kQA := kQ.below bA kQ.lt
        have CBA := CB.behind bA
        have iN := one_newM wr n
        have hzA := bA.size
        go_wp2_with (first
          | (at_builtin; refine wpl_appG (by rfl) _ _ (by rfl) (by rfl) (w.heap.size + 2) st [n] st.length 1 (st.length + 1) (.slice S st.length sap) (some ⟨wr.heap.size, 0, none⟩) 1 _ (by rfl) (by rfl) (by rfl) (by rfl) ownA (by rfl) iN (by omega) (by omega) (by omega) ?_; intro S8 s8 w8 own8 hb8 hg8; have kB8 := kBA.grown hg8 (fun h => by have := hSb _ h; omega); have kQ8 := kQA.grown hg8 (fun h => by have := hSb _ h; omega); have CB8 := CBA.grown hg8 (fun k hk => by have := hSb k hk; omega); have bw8 : Below w.heap.size w w8 := (bw.trans (bA.mono bw.size)).trans (hb8.mono (by omega)); obtain ⟨q0, q1, q2, q3⟩ := And.intro (kB8.cell 0) (And.intro (kB8.cell 1) (And.intro (kB8.frozen 0) (kB8.frozen 1))); obtain ⟨p0, p1, p2, p3⟩ := And.intro (kQ8.cell 0) (And.intro (kQ8.cell 1) (And.intro (kQ8.frozen 0) (kQ8.frozen 1))))
          | fail)
        have hS8 : ∀ ad, S8 = some ad → w.heap.size + 1 ≠ ad.block ∧ w2.heap.size ≠ ad.block := fun ad h => by
          subst h
          refine ⟨by have := (own8.lt ad.block rfl).1; omega, ?_⟩
          obtain ⟨ad', e', _, hc'⟩ := (Ints.of_own own8).get (show 0 < (st ++ [n]).length by simp)
          cases e'
          have := kB8.notInt hc'
          rwa [addr_block] at this
        refine bodyPost_ret (v := .agg #[.slice S8 (st.length + 1) s8, .slice G' cv.length g']) (results_cell_row (g := w.heap.size + 1) rfl _ _ 56 _ (0, 0) _ rfl (((kQ8.far (p := ⟨w2.heap.size, 0, none⟩) (by simp; omega) _).store 0 (.slice S8 (st.length + 1) s8)).store 1 (.slice G' cv.length g')) Try.underlying56 rfl info56) rfl ?_
        exact bent_end (b := w2.heap.size + 1) (((Ints.of_own own8).setNew (p := ⟨w2.heap.size, 0, none⟩) (fun ad h => (hS8 ad h).2) _).more (by simp [World.setCell])) (fun ad h => (hS8 ad h).1) ((CB8.keep (p := ⟨w2.heap.size, 0, none⟩) (by simp) _).more (by simp [World.setCell])) (by omega) (bw8.setCell (p := ⟨w2.heap.size, 0, none⟩) (by simp; omega) _) (by simp; omega) (by rw [← hcsl.out]; exact hcs210) (fun c hc => by rw [hcN.out c hc]; exact hN) (by simp) hcsl.out _ _

end Go.Proofs.Ytnjmkdgglpcfpaa
