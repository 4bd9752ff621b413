import Derived.Test.YtnjmkdgglpcfpaaM9
import Derived.Test.YtnjmkdgglpcfpaaC1
import Derived.Test.YtnjmkdgglpcfpaaA42
namespace Go.Proofs.Ytnjmkdgglpcfpaa
set_option linter.unusedSimpArgs false
set_option linter.unusedVariables false
open Go.RowKit

def roundsB (st : List Int) (cuts : List (Int × List Int)) : Bool := decide ((st.length ≤ 210 ∧ cuts.length ≤ 210) ∧ ∀ c ∈ cuts, c.2.length ≤ 210)
set_option maxRecDepth 100000 in
set_option maxHeartbeats 2000000 in
theorem rounds36_any (S : Option Addr) (sap : Nat) (st : List Int) (G : Option Addr) (gap : Nat) (cuts : List (Int × List Int)) (w : World) (hsl : st.length ≤ maxLen) (hgl : cuts.length ≤ maxLen) (hcc : ∀ c ∈ cuts, c.2.length ≤ maxLen) (hg : CutsC w w.heap.size G cuts) (res : Bool) (hres : res = roundsB st cuts) :
    Calls Try.prog 36 #[.agg #[.slice S st.length sap, .slice G cuts.length gap]] w fun e w' => e = .returned (.bool res) ∧ Below w.heap.size w w' := by
  have bw0 := below_new w (.cells #[.slice S st.length sap, .slice G cuts.length gap] 56)
  have kR := Blk.new w 56 #[.slice S st.length sap, .slice G cuts.length gap]
  have iG := hg.behind bw0
  have r0 := kR.cell 0
  have r1 := kR.cell 1
  have hg63 : (cuts.length : Int) ≤ 9223372036854775807 := by have : cuts.length ≤ 9223372036854775807 := Nat.le_trans hgl (by decide); omega
  have HR := Lib.hid hres
  clear hres
  go_enter Try.func36, Try.ntmps36
  go_wp2_with fail
  obtain ⟨w1, hw1⟩ : ∃ w1, w.alloc (.cells #[.slice S st.length sap, .slice G cuts.length gap] 56) = w1 := ⟨_, rfl⟩
  rw [hw1] at bw0 kR iG r0 r1 ⊢
  clear hw1
  go_loopw [3] (fun i wr => ∃ k : Nat, k ≤ cuts.length ∧ i = .int .i64 k ∧ Hid (∀ (j : Nat) (hj : j < k) (hj1 : j < cuts.length), cuts[j].2.length ≤ 210) ∧ wr = w1)
    (fun i _ => cuts.length - (intOf i).toNat)
  case atStart => exact ⟨0, Nat.zero_le _, rfl, (by intro j hj; omega), rfl⟩
  case round =>
    obtain ⟨k, hk, rfl, hall, rfl⟩ := hrel
    by_cases hlt : k < cuts.length
    · obtain ⟨ad, X, xap, hG, hBd, hx0, hx1, iX, _, _⟩ := iG.get hlt
      subst hG
      have hki : (k : Int) < (cuts.length : Int) := by omega
      have hmem := hcc _ (List.getElem_mem hlt)
      have HNX : Hid (cuts[k].2.length ≤ 210 → ∀ (j : Nat) (hj : j < k + 1) (hj1 : j < cuts.length), cuts[j].2.length ≤ 210) := fun h j hj hj1 => by
        rcases Nat.lt_or_ge j k with hjk | hjk
        · exact hall.out j hjk hj1
        · obtain rfl : j = k := by omega
          exact h
      have HF : Hid (210 < cuts[k].2.length → res = false) := fun h => by
        rw [HR.out]
        unfold roundsB
        exact decide_eq_false fun hh => by have := hh.2 _ (List.getElem_mem hlt); omega
      clear hall
      generalize cuts[k] = ck at *
      obtain ⟨s, lk⟩ := ck
      dsimp only at *
      by_cases h3 : 210 < lk.length
      · have f1 : (210 : Int) < (lk.length : Int) := by omega
        have f2 : decide ((210 : Int) < (lk.length : Int)) = true := decide_eq_true f1
        have HF2 := Lib.hid (HF.out h3)
        clear HNX HF
        go_wp2_with fail
        go_ret
        exact ⟨ret_bool HF2.out.symm, bw0⟩
      · have f1 : ¬ (210 : Int) < (lk.length : Int) := by omega
        have f2 : decide ((210 : Int) < (lk.length : Int)) = false := decide_eq_false f1
        have HN2 := Lib.hid (HNX.out (by omega))
        clear HNX HF
        go_wp2_with fail
        go_roundw
        case rel => exact ⟨k + 1, by omega, by go_num, HN2, trivial⟩
        case measure => simp [intOf]; try omega
    · have hall2 : ∀ c ∈ cuts, c.2.length ≤ 210 := fun c hc => by
        obtain ⟨j, hj, rfl⟩ := List.mem_iff_getElem.1 hc
        exact hall.out j (by omega) hj
      clear hall
      by_cases h1 : st.length ≤ 210
      · have e1 : (st.length : Int) ≤ 210 := by omega
        have e2 : decide ((st.length : Int) ≤ 210) = true := decide_eq_true e1
        by_cases h2 : cuts.length ≤ 210
        · have e3 : (cuts.length : Int) ≤ 210 := by omega
          have e4 : decide ((cuts.length : Int) ≤ 210) = true := decide_eq_true e3
          have HF : Hid (res = true) := by unfold Hid; rw [HR.out]; exact decide_eq_true ⟨⟨h1, h2⟩, hall2⟩
          clear hall2
          go_wp2_with fail
          go_ret
          exact ⟨ret_bool HF.out.symm, bw0⟩
        · have e3 : ¬ (cuts.length : Int) ≤ 210 := by omega
          have e4 : decide ((cuts.length : Int) ≤ 210) = false := decide_eq_false e3
          have HF : Hid (res = false) := by unfold Hid; rw [HR.out]; exact decide_eq_false fun hh => h2 hh.1.2
          clear hall2
          go_wp2_with fail
          go_ret
          exact ⟨ret_bool HF.out.symm, bw0⟩
      · have e1 : ¬ (st.length : Int) ≤ 210 := by omega
        have e2 : decide ((st.length : Int) ≤ 210) = false := decide_eq_false e1
        have HF : Hid (res = false) := by unfold Hid; rw [HR.out]; exact decide_eq_false fun hh => h1 hh.1.1
        clear hall2
        go_wp2_with fail
        go_ret
        exact ⟨ret_bool HF.out.symm, bw0⟩

end Go.Proofs.Ytnjmkdgglpcfpaa
