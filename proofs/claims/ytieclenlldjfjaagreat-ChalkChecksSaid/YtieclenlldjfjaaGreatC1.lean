import Derived.Test.YtieclenlldjfjaaGreatS5
import Derived.Test.YtieclenlldjfjaaGreatG2
set_option linter.unusedSimpArgs false
set_option linter.unusedVariables false
/- slices.Clone 70. -/
namespace Go.Proofs.YtieclenlldjfjaaGreat
open Go.RowKit

theorem eqlNil (A : Option Addr) (n c : Nat) (w : World) : (binOp .eql 25 (.slice A n c) (.slice none 0 0)).run Tryz.prog w = .ok (.bool A.isNone) w := by
  simp only [binOp]
  simp [run_equal_slice_nil w 25 3 A n c Tryz.underlying25]

set_option maxRecDepth 100000 in
set_option maxHeartbeats 1000000 in
theorem clone_any (l : List Int) (A : Option Addr) (cap : Nat) (w : World) (hll : l.length ≤ 1000000) (hr : Ints w w.heap.size A l) :
    Calls Tryz.prog 70 #[.slice A l.length cap] w fun e w' => ∃ A' c', e = .returned (.slice A' l.length c') ∧ l.length ≤ c' ∧ c' ≤ maxLen ∧ Ints w' w'.heap.size A' l ∧ (∀ ad, A' = some ad → w.heap.size ≤ ad.block ∧ ad.block < w'.heap.size) ∧ Below w.heap.size w w' := by
  cases A with
  | none =>
    have hl : l = [] := by
      cases l with
      | nil => rfl
      | cons x l => obtain ⟨ad, h, _⟩ := hr 0 x rfl; cases h
    subst hl
    have he := fun w => eqlNil (none : Option Addr) 0 cap w
    go_enter Tryz.func70, Tryz.ntmps70
    go_wp2_with fail
    go_ret
    exact ⟨none, 0, rfl, Nat.le_refl _, Nat.zero_le _, (fun k x h => by simp at h), (fun ad h => by cases h), Below.refl _ _⟩
  | some ad =>
    have he := fun w => eqlNil (some ad) l.length cap w
    go_enter Tryz.func70, Tryz.ntmps70
    obtain ⟨i0, hi, hz0, hz1, hz2⟩ := info_parts int_info
    have hown0 : (w.alloc (.cells #[] 3)).ownsRow w.heap.size 3 1 (.slice (some ⟨w.heap.size, 0, none⟩) 0 0) 0 [] := ⟨rfl, .inr ⟨w.heap.size, 0, #[], rfl, Nat.le_refl _, heap_alloc_new w _, Nat.le_refl _, by simp [maxLen], rfl, rfl⟩⟩
    have hsrc : ∀ (j : Nat) (u : Value), (l.map (Value.int .i64))[j]? = some u → (w.alloc (.cells #[] 3)).cell? (ad.add j) = some u := fun j u hj => by
      rw [List.getElem?_map] at hj
      cases hx : l[j]? with
      | none => rw [hx] at hj; cases hj
      | some x =>
        rw [hx] at hj
        cases hj
        obtain ⟨ad', e, hb, hc⟩ := hr j x hx
        cases e
        exact ((below_new w (.cells #[] 3)).cell (p := ad.add j) (by rw [addr_block]; exact hb)).trans hc
    have hone : ∀ u ∈ l.map (Value.int .i64), u.oneCell' = true := fun u hu => by
      obtain ⟨x, _, rfl⟩ := List.mem_map.1 hu
      rfl
    have hb0 := below_new w (.cells #[] 3)
    have hfin : ∀ (v' : Value) (w' : World), w'.ownsRow w.heap.size 3 1 v' l.length (l.map (Value.int .i64)) → Below w.heap.size w w' → ∃ A' c', v' = .slice A' l.length c' ∧ l.length ≤ c' ∧ c' ≤ maxLen ∧ Ints w' w'.heap.size A' l ∧ (∀ ad, A' = some ad → w.heap.size ≤ ad.block ∧ ad.block < w'.heap.size) ∧ Below w.heap.size w w' := fun v' w' h hb => by
      obtain ⟨A', c', rfl, h1, h2⟩ := own_form h
      exact ⟨A', c', rfl, h1, h2, Ints.of_own h, (fun ad e => by subst e; exact h.lt ad.block rfl), hb⟩
    clear hr
    have HS := Lib.hid hsrc
    have HO := Lib.hid hone
    clear hsrc hone
    go_wp2_with (at_builtin; refine wpList_append_own _ rfl (.tmp 5) (.tmp 6) 25 rfl w.heap.size 3 i0 (.int .i64 0) 1 8 Tryz.underlying25 hi hz0 hz1 hz2 rfl (by decide) (.slice (some ⟨w.heap.size, 0, none⟩) 0 0) 0 [] rfl hown0 ad l.length cap (l.map (Value.int .i64)) rfl (by simp) HS.out HO.out (by simp only [maxLen]; omega) (by omega) (by simp) ?_; intro v' w' h1 h2 h3)
    have hb : Below w.heap.size w w' := hb0.grown h2 (by simp) fun k hk => by cases hk; exact Nat.le_refl _
    obtain ⟨A', c', rfl, g1, g2, g3, g5, g4⟩ := hfin v' w' (by simpa using h1) hb
    go_ret
    exact ⟨A', c', rfl, g1, g2, g3, g5, g4⟩
end Go.Proofs.YtieclenlldjfjaaGreat
