import Derived.Test.YtnjmkdgglpcfpaaA1
import Derived.Maps.AppendAt
import Derived.OwnWalk
namespace Go.Proofs.Ytnjmkdgglpcfpaa
open Go.RowKit

theorem int_info : (Try.prog.info? 3).map (fun i => (i.zero, i.size, i.bytes)) = some (some (.int .i64 0), 1, 8) := by kernel_rfl

/-- 'l = append(l, y)' on a slice of the call's own -/
theorem app1 {ops : Array Oper} {rest : List Oper} {o : Oper} {a : Act} {Q : Exit → Act → World → Prop} {w : World} (hgd : o.guard = none) (s x : Operand)
    (ho : o.op = .call { callee := .builtin .append, args := #[s, x], argTypes := #[22, 22] }) (base : Nat) (l : List Int) (y : Int) (v : Value)
    (hs : a.eval s = v) (hown : w.ownsRow base 3 1 v l.length (l.map (Value.int .i64))) (hx : a.eval x = .slice (some ⟨w.heap.size, 0, none⟩) 1 1) (hl : l.length ≤ 1000000) (hbase : base ≤ w.heap.size)
    (h : ∀ A' c' w', w'.ownsRow base 3 1 (.slice A' (l ++ [y]).length c') (l ++ [y]).length ((l ++ [y]).map (Value.int .i64)) → Below base w w' → wpList Try.prog ops Q rest (a.put o.dst (.slice A' (l ++ [y]).length c')) w') :
    wpList Try.prog ops Q (o :: rest) a (w.alloc (.cells #[.int .i64 y] 3)) := by
  obtain ⟨i0, hi, hz0, hz1, hz2⟩ := info_parts int_info
  refine wpList_append_own _ hgd s x 22 ho base 3 i0 (.int .i64 0) 1 8 Try.underlying22 hi hz0 hz1 hz2 rfl (by decide) v l.length (l.map (Value.int .i64)) hs (hown.alloc _) ⟨w.heap.size, 0, none⟩ 1 1 [.int .i64 y] hx rfl (cell_one_new _ _ _) (by simp [Value.oneCell'])
    (by simp only [maxLen]; omega) (by omega) (by simp; omega) ?_
  intro v' w' h1 h2 _
  have hb : Below base w w' := ((Below.refl _ _).alloc hbase _).grown h2 (by simp; omega) fun k hk => (hown.lt k hk).1
  have e1 : (l ++ [y]).length = l.length + 1 := by simp
  have e2 : (l ++ [y]).map (Value.int .i64) = l.map (Value.int .i64) ++ [Value.int .i64 y] := by simp
  have h1' : w'.ownsRow base 3 1 v' (l ++ [y]).length ((l ++ [y]).map (Value.int .i64)) := by rw [e1, e2]; exact h1
  obtain ⟨A', c', rfl, _, _⟩ := own_form h1'
  exact h A' c' w' h1' hb

theorem run_index_mk (p : Nat → Bool) (k : Nat) (hk : k < 120) (w : World) : (Instr.index 93 (.agg (mk p)) (.int .i64 (k : Int))).run Try.prog w = .ok (.bool (p k)) w := by
  have h4 : (Try.prog.info? 4).map (·.size) = some 1 := by kernel_rfl
  cases hq : Try.prog.info? 4 with
  | none => simp [hq] at h4
  | some i =>
    have hs : i.size = 1 := by simpa [hq] using h4
    simp [Instr.index, run_underlying Try.underlying93, asIntOf, part, isAgg, run_underlying Try.underlying4, sizeOf, typeInfo, hq, hs, mk_get p k hk]
    intro h
    omega

set_option maxRecDepth 100000 in
set_option maxHeartbeats 400000 in
theorem list_any (p : Nat → Bool) (w : World) : Calls Try.prog 78 #[.agg (mk p)] w (RetInts w (cols p)) := by
  go_enter Try.func78, Try.ntmps78
  go_wp2_with (refine wpList_load_row rfl 93 _ rfl _ rfl 93 _ (0, 0) _ (Blk.new _ _ _) Try.underlying93 rfl (info93 _) ?_)
  go_loopw [3, 4, 5, 7] (fun v _ _ i wr => ∃ k : Nat, ∃ A c, k ≤ 120 ∧ i = .int .i64 k ∧ v = .slice A (colsTo p k).length c ∧ Below w.heap.size w wr ∧ wr.ownsRow w.heap.size 3 1 (.slice A (colsTo p k).length c) (colsTo p k).length ((colsTo p k).map (Value.int .i64)))
    (fun _ _ _ i _ => 120 - (intOf i).toNat)
  case atStart => exact ⟨0, none, 0, by omega, rfl, rfl, below_new _ _, World.ownsRow_nil _ _ _ _⟩
  case round =>
    obtain ⟨k, A, c, hk, rfl, rfl, hb, hown⟩ := hrel
    by_cases hlt : k < 120
    · have hx := run_index_mk p k hlt
      have hsz := hb.size
      have hln := colsTo_len p k
      cases hp : p k with
      | true =>
        have HY := Lib.hid (colsTo_yes hp)
        simp only [hp] at hx
        clear hp
        go_wp2_with (at_builtin; refine app1 (by rfl) _ _ (by rfl) w.heap.size (colsTo p k) k _ (by rfl) hown (by rfl) (by omega) hsz ?_; intro A' c' w1 hown1 hb1)
        go_roundw
        case rel => exact ⟨k + 1, A', c', by omega, by go_num, by rw [HY.out]; simp, hb.trans hb1, by rw [HY.out]; exact hown1⟩
        case measure => simp [intOf]; try omega
      | false =>
        have HY := Lib.hid (colsTo_no hp)
        simp only [hp] at hx
        clear hp
        go_wp2
        go_roundw
        case rel => exact ⟨k + 1, A, c, by omega, by go_num, by rw [HY.out], hb, by rw [HY.out]; exact hown⟩
        case measure => simp [intOf]; try omega
    · obtain rfl : k = 120 := by omega
      go_wp2
      go_ret
      exact RetInts.of_own hown hb
end Go.Proofs.Ytnjmkdgglpcfpaa
