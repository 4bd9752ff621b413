import Derived.Test.YtbhiphjifdnhmaaGreatDoorPR
set_option linter.unusedSimpArgs false
set_option linter.unusedVariables false
/- AboutOrder: what is asked first. -/
namespace Go.Proofs.YtbhiphjifdnhmaaGreatDoor
open Go.RowKit Go.Maps

set_option maxRecDepth 100000 in
set_option maxHeartbeats 4000000 in
theorem law7_bad (hS : Hid SanityIs) (A : Option Addr) (cap : Nat) (l : List Df) (T : Int) (x : Df) (n : ByteArray) (known CE : Int) (w : World) (hF : ∀ W, Defs W W.heap.size A l → Calls Tryz.prog 32 #[.slice A l.length cap] W fun e w' => e = .returned (.bool (fewB l)) ∧ W = w')
    (hC : l.length ≤ 9 → ∀ W, Defs W W.heap.size A l → Calls Tryz.prog 33 #[.slice A l.length cap] W fun e w' => e = .returned (.int .i64 CE) ∧ Below W.heap.size W w') (hD : Defs w w.heap.size A l)
    (ho : ¬ (fewB l = true ∧ l.length ≤ 9 ∧ n.size ≤ 40 ∧ x.name.size ≤ 40 ∧ x.of.size ≤ 40 ∧ x.wth.size ≤ 40 ∧ CE = 0)) :
    Calls Tryz.prog 7 #[.slice A l.length cap, .int .u8 T, .agg (dfA x), .string n, .int .i64 known] w fun e w' => e = .returned (.bool true) ∧ Below w.heap.size w w' := by
  have kX := Blk.new w 60 (dfA x)
  have hW := below_new w (.cells (dfA x) 60)
  have hD0 := hD.behind hW
  obtain ⟨x0, _, _, x3, x4⟩ := kX.df
  have HF := Lib.hid (hF _ hD0)
  cases hf : fewB l
  · rw [hf] at HF
    clear hf ho hF hC hD
    go_enter Tryz.func7, Tryz.ntmps7
    go_wp2_with (first
      | go_skip
      | (go_at_call 32; refine HF.out.mono ?_; rintro e w1 ⟨rfl, rfl⟩)
      | (go_at_call 15; refine (hS.out _).mono ?_; rintro e w3 ⟨rfl, hb⟩; replace hW := below_next hW hW.size hb))
    go_ret
    exact ⟨rfl, hW⟩
  · rw [hf] at HF
    clear hF hD
    by_cases c0 : 9 < l.length
    · have d0 : (9 : Int) < (l.length : Int) := by omega
      clear ho hf hC
      go_enter Tryz.func7, Tryz.ntmps7
      go_wp2_with (first
        | go_skip
        | (go_at_call 32; refine HF.out.mono ?_; rintro e w1 ⟨rfl, rfl⟩)
        | (go_at_call 15; refine (hS.out _).mono ?_; rintro e w3 ⟨rfl, hb⟩; replace hW := below_next hW hW.size hb))
      go_ret
      exact ⟨rfl, hW⟩
    · have d0 : ¬ (9 : Int) < (l.length : Int) := by omega
      have HC := Lib.hid (hC (by omega) _ hD0)
      clear hC
      by_cases c1 : 40 < n.size
      · have d1 : (40 : Int) < (n.size : Int) := by omega
        clear ho hf HC
        go_enter Tryz.func7, Tryz.ntmps7
        go_wp2_with (first
          | go_skip
          | (go_at_call 32; refine HF.out.mono ?_; rintro e w1 ⟨rfl, rfl⟩)
          | (go_at_call 15; refine (hS.out _).mono ?_; rintro e w3 ⟨rfl, hb⟩; replace hW := below_next hW hW.size hb))
        go_ret
        exact ⟨rfl, hW⟩
      · have d1 : ¬ (40 : Int) < (n.size : Int) := by omega
        by_cases c2 : 40 < x.name.size
        · have d2 : (40 : Int) < (x.name.size : Int) := by omega
          clear ho hf HC
          go_enter Tryz.func7, Tryz.ntmps7
          go_wp2_with (first
            | go_skip
            | (go_at_call 32; refine HF.out.mono ?_; rintro e w1 ⟨rfl, rfl⟩)
            | (go_at_call 15; refine (hS.out _).mono ?_; rintro e w3 ⟨rfl, hb⟩; replace hW := below_next hW hW.size hb))
          go_ret
          exact ⟨rfl, hW⟩
        · have d2 : ¬ (40 : Int) < (x.name.size : Int) := by omega
          by_cases c3 : 40 < x.of.size
          · have d3 : (40 : Int) < (x.of.size : Int) := by omega
            clear ho hf HC
            go_enter Tryz.func7, Tryz.ntmps7
            go_wp2_with (first
              | go_skip
              | (go_at_call 32; refine HF.out.mono ?_; rintro e w1 ⟨rfl, rfl⟩)
              | (go_at_call 15; refine (hS.out _).mono ?_; rintro e w3 ⟨rfl, hb⟩; replace hW := below_next hW hW.size hb))
            go_ret
            exact ⟨rfl, hW⟩
          · have d3 : ¬ (40 : Int) < (x.of.size : Int) := by omega
            by_cases c4 : 40 < x.wth.size
            · have d4 : (40 : Int) < (x.wth.size : Int) := by omega
              clear ho hf HC
              go_enter Tryz.func7, Tryz.ntmps7
              go_wp2_with (first
                | go_skip
                | (go_at_call 32; refine HF.out.mono ?_; rintro e w1 ⟨rfl, rfl⟩)
                | (go_at_call 15; refine (hS.out _).mono ?_; rintro e w3 ⟨rfl, hb⟩; replace hW := below_next hW hW.size hb))
              go_ret
              exact ⟨rfl, hW⟩
            · have d4 : ¬ (40 : Int) < (x.wth.size : Int) := by omega
              have hce : CE ≠ 0 := fun e => ho ⟨hf, by omega, by omega, by omega, by omega, by omega, e⟩
              have g0 : (CE != 0) = true := by simp [hce]
              clear ho hf hce
              go_enter Tryz.func7, Tryz.ntmps7
              go_wp2_with (first
                | go_skip
                | (go_at_call 32; refine HF.out.mono ?_; rintro e w1 ⟨rfl, rfl⟩)
                | (go_at_call 33; refine HC.out.mono ?_; rintro e w2 ⟨rfl, hb⟩; replace hW := below_next hW hW.size hb; clear hb)
                | (go_at_call 15; refine (hS.out _).mono ?_; rintro e w3 ⟨rfl, hb⟩; replace hW := below_next hW hW.size hb))
              go_ret
              exact ⟨rfl, hW⟩
end Go.Proofs.YtbhiphjifdnhmaaGreatDoor
