import Derived.Test.YtbhiphjifdnhmaaGreatDoorPU
set_option linter.unusedSimpArgs false
set_option linter.unusedVariables false
/- AboutNarrows: what is asked first. -/
namespace Go.Proofs.YtbhiphjifdnhmaaGreatDoor
open Go.RowKit Go.Maps
theorem mid_days {w : World} {g o : Nat} {d : Df} (h : w.rangeAt g o (dfL d)) : w.rangeAt g (o + 5) (va d.days).toList := fun j v hv => by
  have hj : j < 24 := by have := (List.getElem?_eq_some_iff.1 hv).1; simpa [va_size] using this
  have hd := dfA_days d j hj
  have := h (5 + j) _ (by simpa [dfA] using hd)
  rw [Array.getElem?_toList, va_get d.days j hj] at hv
  rw [show o + 5 + j = o + (5 + j) by omega, this]
  exact hv
set_option maxRecDepth 100000 in
set_option maxHeartbeats 4000000 in
theorem law8_bad (hS : Hid SanityIs) (A : Option Addr) (cap : Nat) (l : List Df) (T : Int) (nar : Nat → Int) (n : ByteArray) (known CE : Int) (w : World) (hF : ∀ W, Defs W W.heap.size A l → Calls Tryz.prog 32 #[.slice A l.length cap] W fun e w' => e = .returned (.bool (fewB l)) ∧ W = w')
    (hC : l.length ≤ 9 → ∀ W, Defs W W.heap.size A l → Calls Tryz.prog 33 #[.slice A l.length cap] W fun e w' => e = .returned (.int .i64 CE) ∧ Below W.heap.size W w') (hD : Defs w w.heap.size A l)
    (ho : ¬ (fewB l = true ∧ l.length ≤ 9 ∧ 0 < l.length ∧ n.size ≤ 40 ∧ CE = 0)) :
    Calls Tryz.prog 8 #[.slice A l.length cap, .int .u8 T, .agg (va nar), .string n, .int .i64 known] w fun e w' => e = .returned (.bool true) ∧ Below w.heap.size w w' := by
  have hW := below_new w (.cells (va nar) 26)
  have hD0 := hD.behind hW
  have HF := Lib.hid (hF _ hD0)
  cases hf : fewB l
  · rw [hf] at HF
    clear hf ho hF hC hD
    go_enter Tryz.func8, Tryz.ntmps8
    go_wp2_with (first
      | go_skip
      | (go_at_call 32; refine HF.out.mono ?_; rintro e w1 ⟨rfl, rfl⟩)
      | (go_at_call 15; refine (hS.out _).mono ?_; rintro e w3 ⟨rfl, hb⟩; replace hW := below_next hW hW.size hb))
    go_ret
    exact ⟨rfl, hW⟩
  · rw [hf] at HF
    clear hF hD
    by_cases c0 : 9 < l.length
    · have d0 : (9 : Int) < (l.length : Int) := by omega
      clear ho hf hC
      go_enter Tryz.func8, Tryz.ntmps8
      go_wp2_with (first
        | go_skip
        | (go_at_call 32; refine HF.out.mono ?_; rintro e w1 ⟨rfl, rfl⟩)
        | (go_at_call 15; refine (hS.out _).mono ?_; rintro e w3 ⟨rfl, hb⟩; replace hW := below_next hW hW.size hb))
      go_ret
      exact ⟨rfl, hW⟩
    · have d0 : ¬ (9 : Int) < (l.length : Int) := by omega
      have HC := Lib.hid (hC (by omega) _ hD0)
      clear hC
      by_cases c1 : l.length = 0
      · have d1 : ((l.length : Int) == 0) = true := by simp [c1]
        clear ho hf HC c1
        go_enter Tryz.func8, Tryz.ntmps8
        go_wp2_with (first
          | go_skip
          | (go_at_call 32; refine HF.out.mono ?_; rintro e w1 ⟨rfl, rfl⟩)
          | (go_at_call 15; refine (hS.out _).mono ?_; rintro e w3 ⟨rfl, hb⟩; replace hW := below_next hW hW.size hb))
        go_ret
        exact ⟨rfl, hW⟩
      · have d1 : ((l.length : Int) == 0) = false := beq_eq_false_iff_ne.2 (by omega)
        by_cases c2 : 40 < n.size
        · have d2 : (40 : Int) < (n.size : Int) := by omega
          clear ho hf HC c1
          go_enter Tryz.func8, Tryz.ntmps8
          go_wp2_with (first
            | go_skip
            | (go_at_call 32; refine HF.out.mono ?_; rintro e w1 ⟨rfl, rfl⟩)
            | (go_at_call 15; refine (hS.out _).mono ?_; rintro e w3 ⟨rfl, hb⟩; replace hW := below_next hW hW.size hb))
          go_ret
          exact ⟨rfl, hW⟩
        · have d2 : ¬ (40 : Int) < (n.size : Int) := by omega
          have hce : CE ≠ 0 := fun e => ho ⟨hf, by omega, by omega, by omega, e⟩
          have g0 : (CE != 0) = true := by simp [hce]
          clear ho hf hce c1
          go_enter Tryz.func8, Tryz.ntmps8
          go_wp2_with (first
            | go_skip
            | (go_at_call 32; refine HF.out.mono ?_; rintro e w1 ⟨rfl, rfl⟩)
            | (go_at_call 33; refine HC.out.mono ?_; rintro e w2 ⟨rfl, hb⟩; replace hW := below_next hW hW.size hb; clear hb)
            | (go_at_call 15; refine (hS.out _).mono ?_; rintro e w3 ⟨rfl, hb⟩; replace hW := below_next hW hW.size hb))
          go_ret
          exact ⟨rfl, hW⟩
end Go.Proofs.YtbhiphjifdnhmaaGreatDoor
