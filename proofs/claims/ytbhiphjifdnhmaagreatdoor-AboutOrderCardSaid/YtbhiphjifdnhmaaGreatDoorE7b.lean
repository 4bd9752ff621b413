import Derived.Test.YtbhiphjifdnhmaaGreatDoorE7m
set_option linter.unusedSimpArgs false
set_option linter.unusedVariables false
/- AboutOrder, of any definitions. -/
namespace Go.Proofs.YtbhiphjifdnhmaaGreatDoor
open Go.RowKit Go.Maps
theorem needE_zero {l : List Df} {n : ByteArray} {k : Int} (h : needE l n k = 0) : nameE l n k = 0 ∧ ∃ d, bookF l k n.data.toList = some d := by
  unfold needE at h
  by_cases h0 : nameE l n k = 0
  · rw [if_pos h0] at h
    refine ⟨h0, ?_⟩
    cases hb : bookF l k n.data.toList with
    | none => rw [hb] at h; cases h
    | some d => exact ⟨d, rfl⟩
  · rw [if_neg h0] at h
    exact absurd h h0
theorem law7_any (hS : Hid SanityIs) (A : Option Addr) (cap : Nat) (l : List Df) (T : Nat) (hT : T ≤ 255) (x : Df) (hx : x.name.size ≤ maxLen ∧ x.of.size ≤ maxLen ∧ x.wth.size ≤ maxLen) (n : ByteArray) (hn : n.size ≤ maxLen) (known : Int) (ev : Value) (w : World) (hlc : l.length ≤ cap) (hcm : cap ≤ maxLen) (hs : DfsSz l) (hD : Defs w w.heap.size A l) (hE : ErrAt w ev) (h0 : 0 < w.heap.size) :
    Calls Tryz.prog 7 #[.slice A l.length cap, .int .u8 (T : Int), .agg (dfA x), .string n, .int .i64 known] w fun e w' => e = .returned (.bool true) ∧ Below w.heap.size w w' := by
  have hF := fun W (hD : Defs W W.heap.size A l) => few_any A cap l W (Nat.le_trans hlc hcm) hs hD
  have hC := fun (hl9 : l.length ≤ 9) W (hD : Defs W W.heap.size A l) => calendar_any A cap l W (by omega) hlc hcm hD hs
  by_cases ho : fewB l = true ∧ l.length ≤ 9 ∧ n.size ≤ 40 ∧ x.name.size ≤ 40 ∧ x.of.size ≤ 40 ∧ x.wth.size ≤ 40 ∧ calE l = 0
  · obtain ⟨hf, hl9, hn40, hx1, hx2, hx3, hc⟩ := ho
    rw [hf] at hF
    have hC := hC hl9
    rw [hc] at hC
    have hg := (calE_iff l).1 hc
    have h : LOk A cap l := ⟨by omega, hlc, hcm, hs⟩
    obtain ⟨V, E, hM⟩ := meansIs_ex hs n hn known
    obtain ⟨R, ⟨hR, hRr⟩, hRl⟩ := reach_of (by omega) hs n known
    rw [useL_len] at hRl
    have hr := rotTo_len l T l.length
    have he := earlyTo_len l known l.length
    have sr : DfsSz (rotTo l T l.length) := fun d hd => hs d (rotTo_mem (Nat.le_refl _) hd)
    have se : DfsSz (earlyTo l known l.length) := fun d hd => hs d ((earlyTo_sub l known l.length).subset hd)
    have sm : DfsSz (l ++ [x]) := fun d hd => by
      rcases List.mem_append.1 hd with hd | hd
      · exact hs d hd
      · rw [List.mem_singleton] at hd
        subst hd
        exact hx
    have hml : (l ++ [x]).length = l.length + 1 := by simp
    refine law7_in hS A cap l T x n known ev V E (needE l n known) (calE (l ++ [x])) (if needE l n known = 0 then R else []) w hT hl9 hn40 hx1 hx2 hx3 ?_ (Lib.hid hF) (Lib.hid hC)
      (Lib.hid fun W hD hE h0 => means_prog h n hn known W hD ev hE h0 hM) (Lib.hid fun W hD => needs_prog h n hn known W hD R hR hRr)
      (Lib.hid fun A' c' W hc1 hc2 hD hE h0 => means_prog ⟨by omega, hc1, hc2, sr⟩ n hn known W hD ev hE h0 (hM.perm hg (rotTo_perm l T)))
      (Lib.hid fun A' c' W hc1 hc2 hD hE h0 => means_prog ⟨by omega, hc1, hc2, se⟩ n hn known W hD ev hE h0 (hM.early hg))
      (Lib.hid fun A' c' W hc1 hc2 hD => calendar_any A' c' (l ++ [x]) W (by omega) hc1 hc2 hD sm)
      (Lib.hid fun hne hcx hxk A' c' W hc1 hc2 hD hE h0 => means_prog ⟨by omega, hc1, hc2, sm⟩ n hn known W hD ev hE h0 (hM.more hg ((calE_iff _).1 hcx) fun hk => ?_))
      (Lib.hid fun hne => ?_) hD hE h0
    · split
      · omega
      · simp
    · obtain ⟨h1, h2⟩ := hxk hk
      rw [if_pos hne] at h2
      exact ⟨h1, fun hr => h2 ((hRr _).2 hr)⟩
    · obtain ⟨_, d, hd⟩ := needE_zero hne
      exact List.length_pos_of_mem (bookF_some l d hd).1
  · exact law7_bad hS A cap l T x n known (calE l) w hF hC hD ho
end Go.Proofs.YtbhiphjifdnhmaaGreatDoor
