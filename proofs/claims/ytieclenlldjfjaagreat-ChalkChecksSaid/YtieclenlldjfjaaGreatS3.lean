import Derived.Test.YtieclenlldjfjaaGreatS2
import Derived.Lib.RabinKarpLaws
set_option linter.unusedSimpArgs false
set_option linter.unusedVariables false
/- Scan 31. -/
namespace Go.Proofs.YtieclenlldjfjaaGreat
open Go.RowKit

/-- where the first letter stands that is none -/
def badAt (bs : List UInt8) : Option Nat := bs.findIdx? fun b => (decB b).isNone
def marks (bs : List UInt8) : List Int := bs.map fun b => (decB b).getD 0
def scanL (s : ByteArray) : List Int := if (badAt s.data.toList).isSome then [] else if 16 < s.size then [] else marks s.data.toList
def scanE (s : ByteArray) : Int := if (badAt s.data.toList).isSome then 7 else if 16 < s.size then 2 else 0
def scanI (s : ByteArray) : Int := match badAt s.data.toList with | some i => (i : Int) | none => 0

theorem bad_at {bs : List UInt8} {k : Nat} (hk : k < bs.length) (h : ∀ i (hi : i < k), (decB bs[i]).isSome = true) (hb : decB bs[k] = none) : badAt bs = some k := by
  unfold badAt
  rw [List.findIdx?_eq_some_iff_getElem]
  refine ⟨hk, by simp [hb], fun j hj => ?_⟩
  have := h j hj
  cases hd : decB bs[j] with
  | none => rw [hd] at this; cases this
  | some x => simp
theorem bad_none {bs : List UInt8} (h : ∀ i (hi : i < bs.length), (decB bs[i]).isSome = true) : badAt bs = none := by
  unfold badAt
  rw [List.findIdx?_eq_none_iff]
  intro b hb
  obtain ⟨i, hi, rfl⟩ := List.mem_iff_getElem.1 hb
  have := h i hi
  cases hd : decB bs[i] with
  | none => rw [hd] at this; cases this
  | some x => rfl

theorem marks_next {bs : List UInt8} {k : Nat} (hk : k < bs.length) {x : Int} (h : decB bs[k] = some x) : marks (bs.take (k + 1)) = marks (bs.take k) ++ [x] := by
  unfold marks
  rw [List.take_succ_eq_append_getElem hk, List.map_append]
  simp only [List.map_cons, List.map_nil, h, Option.getD_some]
theorem some_next {bs : List UInt8} {k : Nat} (hk : k < bs.length) (h : ∀ i (hi : i < k), (decB bs[i]).isSome = true) {x : Int} (hx : decB bs[k] = some x) : ∀ i (hi : i < k + 1), (decB bs[i]).isSome = true := by
  intro i hi
  rcases Nat.lt_or_ge i k with h' | h'
  · exact h i h'
  · have : i = k := by omega
    subst this
    rw [hx]; rfl

/-- what Scan hands back -/
def RetScan (w : World) (l : List Int) (er i : Int) (e : Ending) (w' : World) : Prop :=
  ∃ A c, e = .returned (.tuple #[.slice A l.length c, .int .i64 er, .int .i64 i]) ∧ l.length ≤ c ∧ c ≤ maxLen ∧ Ints w' w'.heap.size A l ∧ Below w.heap.size w w'

theorem int_info : (Tryz.prog.info? 3).map (fun i => (i.zero, i.size, i.bytes)) = some (some (.int .i64 0), 1, 8) := by kernel_rfl

/-- 'l = append(l, y)' on a slice of the call's own -/
theorem app1 {ops : Array Oper} {rest : List Oper} {o : Oper} {a : Act} {Q : Exit → Act → World → Prop} {w : World} (hgd : o.guard = none) (s x : Operand)
    (ho : o.op = .call { callee := .builtin .append, args := #[s, x], argTypes := #[25, 25] }) (base : Nat) (l : List Int) (y : Int) (v : Value)
    (hs : a.eval s = v) (hown : w.ownsRow base 3 1 v l.length (l.map (Value.int .i64))) (hx : a.eval x = .slice (some ⟨w.heap.size, 0, none⟩) 1 1) (hl : l.length ≤ 1000000) (hbase : base ≤ w.heap.size)
    (h : ∀ A' c' w', w'.ownsRow base 3 1 (.slice A' (l ++ [y]).length c') (l ++ [y]).length ((l ++ [y]).map (Value.int .i64)) → Below base w w' → wpList Tryz.prog ops Q rest (a.put o.dst (.slice A' (l ++ [y]).length c')) w') :
    wpList Tryz.prog ops Q (o :: rest) a (w.alloc (.cells #[.int .i64 y] 3)) := by
  obtain ⟨i0, hi, hz0, hz1, hz2⟩ := info_parts int_info
  refine wpList_append_own _ hgd s x 25 ho base 3 i0 (.int .i64 0) 1 8 Tryz.underlying25 hi hz0 hz1 hz2 rfl (by decide) v l.length (l.map (Value.int .i64)) hs (hown.alloc _) ⟨w.heap.size, 0, none⟩ 1 1 [.int .i64 y] hx rfl (cell_one_new _ _ _) (by simp [Value.oneCell'])
    (by simp only [maxLen]; omega) (by omega) (by simp; omega) ?_
  intro v' w' h1 h2 _
  have hb : Below base w w' := ((Below.refl _ _).alloc hbase _).grown h2 (by simp; omega) fun k hk => (hown.lt k hk).1
  have e1 : (l ++ [y]).length = l.length + 1 := by simp
  have e2 : (l ++ [y]).map (Value.int .i64) = l.map (Value.int .i64) ++ [Value.int .i64 y] := by simp
  have h1' : w'.ownsRow base 3 1 v' (l ++ [y]).length ((l ++ [y]).map (Value.int .i64)) := by rw [e1, e2]; exact h1
  obtain ⟨A', c', rfl, _, _⟩ := own_form h1'
  exact h A' c' w' h1' hb

theorem run_at (s : ByteArray) (k : Nat) (hk : k < s.size) (hk2 : k < s.data.toList.length) (w : World) : (Instr.index 9 (.string s) (.int .i64 (k : Int))).run Tryz.prog w = .ok (.int .u8 ((s.data.toList[k].toNat : Nat) : Int)) w := by
  rw [run_index_string w 9 s .i64 k Tryz.underlying9, dif_pos ⟨by omega, by omega⟩]
  congr 3

set_option maxRecDepth 100000 in
set_option maxHeartbeats 1000000 in
theorem scan_any (s : ByteArray) (hs : s.size ≤ 100000) (w : World) :
    Calls Tryz.prog 31 #[.string s] w (RetScan w (scanL s) (scanE s) (scanI s)) := by
  have hlen : s.data.toList.length = s.size := Array.length_toList
  obtain ⟨bs, hbs⟩ : ∃ bs, bs = s.data.toList := ⟨_, rfl⟩
  have hat : ∀ k (hk : k < bs.length) (w : World), (Instr.index 9 (.string s) (.int .i64 (k : Int))).run Tryz.prog w = .ok (.int .u8 ((bs[k].toNat : Nat) : Int)) w := by
    subst hbs
    exact fun k hk w => run_at s k (by omega) hk w
  have hbl : bs.length = s.size := by rw [hbs]; exact hlen
  have hHat := Lib.hid hat
  have hB := Lib.hid hbs
  clear hat hbs hlen
  go_enter Tryz.func31, Tryz.ntmps31
  go_wp2_with fail
  go_loopw [5, 10] (fun v i wr => ∃ k : Nat, ∃ A c, k ≤ s.size ∧ i = .int .i64 k ∧ v = .slice A (marks (bs.take k)).length c ∧ Hid (∀ i (hi : i < k) (h : i < bs.length), (decB bs[i]).isSome = true) ∧ Below w.heap.size w wr ∧ wr.ownsRow w.heap.size 3 1 (.slice A (marks (bs.take k)).length c) (marks (bs.take k)).length ((marks (bs.take k)).map (Value.int .i64)))
    (fun _ i _ => s.size - (intOf i).toNat)
  case atStart => exact ⟨0, none, 0, by omega, rfl, rfl, (fun i hi => absurd hi (by omega)), Below.refl _ _, World.ownsRow_nil _ _ _ _⟩
  case round =>
    obtain ⟨k, A, c, hk, rfl, rfl, hall, hb, hown⟩ := hrel
    by_cases hlt : k < s.size
    · have hkb : k < bs.length := by omega
      have hx := hHat.out k hkb
      have hlt2 : (k : Int) < (s.size : Int) := by omega
      have hsz := hb.size
      have hml : (marks (bs.take k)).length ≤ 1000000 := by simp [marks]; omega
      obtain ⟨b, hbv⟩ : ∃ b : Nat, b = bs[k].toNat := ⟨_, rfl⟩
      have hb256 : b < 256 := by rw [hbv]; exact UInt8.toNat_lt _
      have hdec : Hid (decB bs[k] = if b = 63 then some 0 else if 97 ≤ b ∧ b ≤ 116 then some ((b : Int) - 96) else none) := by
        show decB bs[k] = _
        unfold decB
        rw [hbv]
        congr 1
        exact propext ⟨fun h => by rw [h]; rfl, fun h => UInt8.toNat_inj.1 h⟩
      rw [← hbv] at hx
      clear hbv
      by_cases h63 : b = 63
      · have hd : Hid (decB bs[k] = some 0) := by show _ = _; rw [hdec.out, if_pos h63]
        have HY := Lib.hid (marks_next hkb hd.out)
        have hn : Hid (∀ i (hi : i < k + 1) (h : i < bs.length), (decB bs[i]).isSome = true) := fun i hi h => some_next hkb (fun i hi => hall.out i hi (by omega)) hd.out i hi
        subst h63
        clear hdec hd hall
        go_wp2_with (at_builtin; refine app1 (by rfl) _ _ (by rfl) w.heap.size (marks (bs.take k)) 0 _ (by rfl) hown (by rfl) hml hsz ?_; intro A' c' w1 hown1 hb1)
        go_roundw
        case rel => exact ⟨k + 1, A', c', by omega, by go_num, by rw [HY.out]; simp, hn, hb.trans hb1, by rw [HY.out]; exact hown1⟩
        case measure => simp [intOf]; try omega
      · have hq : ((b : Int) == 63) = false := by simp; omega
        by_cases hr : 97 ≤ b ∧ b ≤ 116
        · have hd : Hid (decB bs[k] = some ((b : Int) - 97 + 1)) := by show _ = _; rw [hdec.out, if_neg h63, if_pos hr]; congr 1; omega
          have HY := Lib.hid (marks_next hkb hd.out)
          have hn : Hid (∀ i (hi : i < k + 1) (h : i < bs.length), (decB bs[i]).isSome = true) := fun i hi h => some_next hkb (fun i hi => hall.out i hi (by omega)) hd.out i hi
          have hst : Hid (decide (1 ≤ (b : Int) - 97 + 1 ∧ (b : Int) - 97 + 1 ≤ 20) = true) := decide_eq_true (by omega)
          clear hdec hd hall
          go_wp2_with (first
            | (go_at_call 77; refine (isStroke_any _ _).mono ?_; rw [hst.out]; rintro e w1 ⟨rfl, rfl⟩)
            | (at_builtin; refine app1 (by rfl) _ _ (by rfl) w.heap.size (marks (bs.take k)) ((b : Int) - 97 + 1) _ (by rfl) hown (by rfl) hml hsz ?_; intro A' c' w1 hown1 hb1))
          go_roundw
          case rel => exact ⟨k + 1, A', c', by omega, by go_num, by rw [HY.out]; simp, hn, hb.trans hb1, by rw [HY.out]; exact hown1⟩
          case measure => simp [intOf]; try omega
        · have hd : Hid (decB bs[k] = none) := by show _ = _; rw [hdec.out, if_neg h63, if_neg hr]
          have hbad : Hid (badAt s.data.toList = some k) := by rw [← hB.out]; exact bad_at hkb (fun i hi => hall.out i hi (by omega)) hd.out
          have hst : Hid (decide (1 ≤ (b : Int) - 97 + 1 ∧ (b : Int) - 97 + 1 ≤ 20) = false) := decide_eq_false (by omega)
          have r1 : Hid (scanL s = []) := by show scanL s = []; unfold scanL; rw [hbad.out]; rfl
          have r2 : Hid (scanE s = 7) := by show scanE s = 7; unfold scanE; rw [hbad.out]; rfl
          have r3 : Hid (scanI s = (k : Int)) := by show scanI s = _; unfold scanI; rw [hbad.out]
          clear hdec hd hall hbad
          go_wp2_with (go_at_call 77; refine (isStroke_any _ _).mono ?_; rw [hst.out]; rintro e w1 ⟨rfl, rfl⟩)
          go_ret3
          exact ⟨none, 0, by rw [r1.out, r2.out, r3.out]; rfl, by rw [r1.out]; exact Nat.le_refl _, by simp [maxLen], by rw [r1.out]; exact Ints.nil, hb⟩
    · obtain rfl : k = s.size := by omega
      have hall2 : ∀ i (hi : i < bs.length), (decB bs[i]).isSome = true := fun i hi => hall.out i (by omega) hi
      have hbad : Hid (badAt s.data.toList = none) := by rw [← hB.out]; exact bad_none hall2
      have ht : bs.take s.size = bs := List.take_of_length_le (by omega)
      rw [ht] at hown ⊢
      have hml : (marks bs).length = s.size := by simp [marks, hbl]
      clear hall hall2 ht
      by_cases h16 : 16 < s.size
      · have hq1 : decide ((16 : Int) < ((marks bs).length : Int)) = true := decide_eq_true (by omega)
        have hq2 : decide (16 < (marks bs).length) = true := decide_eq_true (by omega)
        have r1 : Hid (scanL s = []) := by show scanL s = []; unfold scanL; rw [hbad.out, if_pos h16]; rfl
        have r2 : Hid (scanE s = 2) := by show scanE s = 2; unfold scanE; rw [hbad.out, if_pos h16]; rfl
        have r3 : Hid (scanI s = 0) := by show scanI s = _; unfold scanI; rw [hbad.out]
        clear hbad hml
        go_wp2_with fail
        go_ret3
        exact ⟨none, 0, by rw [r1.out, r2.out, r3.out]; rfl, by rw [r1.out]; exact Nat.le_refl _, by simp [maxLen], by rw [r1.out]; exact Ints.nil, hb⟩
      · have hq1 : decide ((16 : Int) < ((marks bs).length : Int)) = false := decide_eq_false (by omega)
        have hq2 : decide (16 < (marks bs).length) = false := decide_eq_false (by omega)
        have r1 : Hid (scanL s = marks bs) := by show scanL s = _; unfold scanL; rw [hbad.out, if_neg h16, ← hB.out]; rfl
        have r2 : Hid (scanE s = 0) := by show scanE s = _; unfold scanE; rw [hbad.out, if_neg h16]; rfl
        have r3 : Hid (scanI s = 0) := by show scanI s = _; unfold scanI; rw [hbad.out]
        obtain ⟨A', c', e1, e2, e3⟩ := own_form hown
        cases e1
        clear hbad hml
        go_wp2_with fail
        go_ret3
        exact ⟨A, c, by rw [r1.out, r2.out, r3.out]; rfl, by rw [r1.out]; exact e2, e3, by rw [r1.out]; exact Ints.of_own hown, hb⟩
end Go.Proofs.YtieclenlldjfjaaGreat
