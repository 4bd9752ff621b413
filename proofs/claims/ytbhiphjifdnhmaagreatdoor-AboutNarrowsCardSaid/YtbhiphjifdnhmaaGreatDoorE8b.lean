import Derived.Test.YtbhiphjifdnhmaaGreatDoorE80
import Derived.Test.YtbhiphjifdnhmaaGreatDoorE81
import Derived.Test.YtbhiphjifdnhmaaGreatDoorE82
set_option linter.unusedSimpArgs false
set_option linter.unusedVariables false
/- AboutNarrows, of any definitions. -/
namespace Go.Proofs.YtbhiphjifdnhmaaGreatDoor
open Go.RowKit Go.Maps
theorem chgs_mem {M : Int → (Nat → Int) × Int} {l : List Df} {c : Int} (h : c ∈ chgs M l) : someTo l c l.length = true := by
  have h1 := (chgL_sub M _ _).subset h
  rw [someTo_all, List.any_eq_true]
  exact ⟨c, ((daysTo_mem _ _ _).1 h1).1, by simp⟩
theorem chgs_rise {M : Int → (Nat → Int) × Int} {l : List Df} {i : Nat} {a b : Int} (ha : (chgs M l)[i]? = some a) (hb : (chgs M l)[i + 1]? = some b) : a < b := by
  have hp := (daysTo_rise (l.map (·.known)) 731).sublist (chgL_sub M _ (zeroV, 5))
  have hp : (chgs M l).Pairwise (· < ·) := hp
  obtain ⟨i1, i2⟩ := List.getElem?_eq_some_iff.1 ha
  obtain ⟨j1, j2⟩ := List.getElem?_eq_some_iff.1 hb
  have := List.pairwise_iff_getElem.1 hp i (i + 1) i1 j1 (by omega)
  rwa [i2, j2] at this
theorem narrow_ex {l : List Df} (hs : DfsSz l) (hg : CalGood l) {r : Nat} {y : Df} (hy : l[r]? = some y) (nar : Nat → Int) {n : ByteArray} (hn : n.size ≤ maxLen) {known : Int} {V : Nat → Int} {E : Int} (hM : MeansIs l n known V E) (hss : DfsSz (l.set r { y with days := nar })) (hk : y.kind = 1 ∨ y.kind = 2) :
    ∃ V2 E2, MeansIs (l.set r { y with days := nar }) n known V2 E2 ∧ (holdsV nar y.days = true → (∀ d ∈ l, ¬ d.kind = 3) → E = 0 → E2 = 0 ∧ chk2 V2 V = 0 ∧ holdsV V2 V = true) := by
  by_cases h : holdsV nar y.days = true ∧ (∀ d ∈ l, ¬ d.kind = 3) ∧ E = 0
  · obtain ⟨h1, h2, h3⟩ := h
    subst h3
    obtain ⟨v, hv, hi⟩ := hM.narrow hg hs hy (ins_iff.1 h1) hk h2
    refine ⟨v, 0, hv, fun _ _ _ => ⟨rfl, chk2_ok ?_, ins_iff.2 hi⟩⟩
    rw [vok_iff.2 hi.l, vok_iff.2 hi.r]
    rfl
  · obtain ⟨v, e, hv⟩ := meansIs_ex hss n hn known
    exact ⟨v, e, hv, fun h1 h2 h3 => absurd ⟨h1, h2, h3⟩ h⟩
theorem law8_any (hS : Hid SanityIs) (A : Option Addr) (cap : Nat) (l : List Df) (T : Nat) (hT : T ≤ 255) (nar : Nat → Int) (n : ByteArray) (hn : n.size ≤ maxLen) (known : Int) (ev : Value) (w : World) (hlc : l.length ≤ cap) (hcm : cap ≤ maxLen) (hs : DfsSz l) (hD : Defs w w.heap.size A l) (hE : ErrAt w ev) (h0 : 0 < w.heap.size) :
    Calls Tryz.prog 8 #[.slice A l.length cap, .int .u8 (T : Int), .agg (va nar), .string n, .int .i64 known] w fun e w' => e = .returned (.bool true) ∧ Below w.heap.size w w' := by
  have hF := fun W (hD : Defs W W.heap.size A l) => few_any A cap l W (Nat.le_trans hlc hcm) hs hD
  have hC := fun (hl9 : l.length ≤ 9) W (hD : Defs W W.heap.size A l) => calendar_any A cap l W (by omega) hlc hcm hD hs
  by_cases ho : fewB l = true ∧ l.length ≤ 9 ∧ 0 < l.length ∧ n.size ≤ 40 ∧ calE l = 0
  · obtain ⟨hf, hl9, hl1, hn40, hc⟩ := ho
    rw [hf] at hF
    have hC := hC hl9
    rw [hc] at hC
    have hg := (calE_iff l).1 hc
    have h : LOk A cap l := ⟨by omega, hlc, hcm, hs⟩
    obtain ⟨V, E, hM⟩ := meansIs_ex hs n hn known
    have hMk : ∀ k, ∃ q : (Nat → Int) × Int, MeansIs l n k q.1 q.2 := fun k => by
      obtain ⟨v, e, h⟩ := meansIs_ex hs n hn k
      exact ⟨(v, e), h⟩
    obtain ⟨M, hMM⟩ := Classical.axiomOfChoice hMk
    have hchl : (chgs M l).length ≤ 731 := by
      have h1 := (chgL_sub M (daysTo (l.map (·.known)) 731) (zeroV, 5)).length_le
      have h2 : (daysTo (l.map (·.known)) 731).length ≤ 731 := by
        unfold daysTo
        rw [List.length_map]
        exact Nat.le_trans (List.length_filter_le _ _) (by simp)
      exact Nat.le_trans h1 h2
    obtain ⟨LC, hLC⟩ : ∃ LC, LC = if nameE l n 0 = 0 then chgs M l else [] := ⟨_, rfl⟩
    have hL1 : LC.length ≤ 1000000 := by rw [hLC]; split; (· omega); (· simp)
    have hL2 : 0 < LC.length → nameE l n 0 = 0 := fun h => by
      by_cases h0 : nameE l n 0 = 0
      · exact h0
      · rw [hLC, if_neg h0] at h
        exact absurd h (Nat.lt_irrefl _)
    have hL3 : ∀ (i : Nat) (c : Int), LC[i]? = some c → someTo l c l.length = true := fun i c hc => by
      have hm := List.mem_of_getElem? hc
      rw [hLC] at hm
      by_cases h0 : nameE l n 0 = 0
      · rw [if_pos h0] at hm
        exact chgs_mem hm
      · rw [if_neg h0] at hm
        cases hm
    have hL4 : ∀ (i : Nat) (a b : Int), LC[i]? = some a → LC[i + 1]? = some b → a < b := fun i a b ha hb => by
      rw [hLC] at ha hb
      by_cases h0 : nameE l n 0 = 0
      · rw [if_pos h0] at ha hb
        exact chgs_rise ha hb
      · rw [if_neg h0] at ha
        simp at ha
    have H37 := fun W (hD : Defs W W.heap.size A l) (hE : ErrAt W ev) (h0 : 0 < W.heap.size) => changes_prog h n hn W hD ev hE h0 M hMM
    rw [← hLC] at H37
    obtain ⟨r, hr⟩ : ∃ r, r = T % l.length := ⟨_, rfl⟩
    have hrl : r < l.length := by rw [hr]; exact Nat.mod_lt _ hl1
    obtain ⟨y, hy⟩ : ∃ y, l[r]? = some y := ⟨_, List.getElem?_eq_getElem hrl⟩
    have hyl : y ∈ l := List.mem_of_getElem? hy
    have hss : DfsSz (l.set r { y with days := nar }) := fun d hd => by
      rcases List.mem_or_eq_of_mem_set hd with hd | rfl
      · exact hs d hd
      · exact hs y hyl
    have hsl : (l.set r { y with days := nar }).length = l.length := by simp
    have H34b := fun (V2 : Nat → Int) (E2 : Int) (hM2 : MeansIs (l.set r { y with days := nar }) n known V2 E2) (A' : Option Addr) (c' : Nat) (W : World) (hc1 : l.length ≤ c') (hc2 : c' ≤ maxLen) (hD : Defs W W.heap.size A' (l.set r { y with days := nar })) (hE : ErrAt W ev) (h0 : 0 < W.heap.size) =>
      means_prog (cap := c') ⟨by rw [hsl]; omega, by rw [hsl]; omega, hc2, hss⟩ n hn known W hD ev hE h0 hM2
    rw [hsl] at H34b
    by_cases hk1 : y.kind = 1
    · obtain ⟨V2, E2, hM2, hX⟩ := narrow_ex hs hg hy nar hn hM hss (.inl hk1)
      exact law8_1 hS A cap l T nar n known ev V V2 E E2 (nameE l n 0) (chk2 nar y.days) (chk2 V2 V) (holdsV nar y.days) (holdsV V2 V) LC r y w hT hl1 hl9 hn40 hL1 hr hy hk1
        (Lib.hid hF) (Lib.hid hC) (Lib.hid H37) (Lib.hid hL2) (Lib.hid hL3) (Lib.hid hL4) (Lib.hid fun W => holds_any nar y.days W) (Lib.hid fun W hD hE h0 => means_prog h n hn known W hD ev hE h0 hM) (Lib.hid (H34b V2 E2 hM2)) (Lib.hid fun W => holds_any V2 V W) (Lib.hid hX) hD hE h0
    · by_cases hk2 : y.kind = 2
      · obtain ⟨V2, E2, hM2, hX⟩ := narrow_ex hs hg hy nar hn hM hss (.inr hk2)
        exact law8_2 hS A cap l T nar n known ev V V2 E E2 (nameE l n 0) (chk2 nar y.days) (chk2 V2 V) (holdsV nar y.days) (holdsV V2 V) LC r y w hT hl1 hl9 hn40 hL1 hr hy hk2
          (Lib.hid hF) (Lib.hid hC) (Lib.hid H37) (Lib.hid hL2) (Lib.hid hL3) (Lib.hid hL4) (Lib.hid fun W => holds_any nar y.days W) (Lib.hid fun W hD hE h0 => means_prog h n hn known W hD ev hE h0 hM) (Lib.hid (H34b V2 E2 hM2)) (Lib.hid fun W => holds_any V2 V W) (Lib.hid hX) hD hE h0
      · exact law8_0 hS A cap l T nar n known ev V V E E (nameE l n 0) (chk2 nar y.days) 0 (holdsV nar y.days) true LC r y w hT hl1 hl9 hn40 hL1 hr hy ⟨hk1, hk2⟩
          (Lib.hid hF) (Lib.hid hC) (Lib.hid H37) (Lib.hid hL2) (Lib.hid hL3) (Lib.hid hL4) (Lib.hid fun W => holds_any nar y.days W) hD hE h0
  · exact law8_bad hS A cap l T nar n known (calE l) w hF hC hD ho
end Go.Proofs.YtbhiphjifdnhmaaGreatDoor
