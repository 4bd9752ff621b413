import Derived.Test.YtnjmkdgglpcfpaaB27
namespace Go.Proofs.Ytnjmkdgglpcfpaa
open Go.RowKit

theorem refChk_one {C R B F : Int} {cl : List Int} (h : C < 3 ∨ 120 < C ∨ R < 1 ∨ 16 < R ∨ B < 0 ∨ F < 0 ∨ C ≤ B ∨ C - B ≤ F) : chk C R B F cl = 1 := by
  unfold chk
  by_cases h1 : C < 3 ∨ 120 < C ∨ R < 1 ∨ 16 < R
  · rw [if_pos h1]
  · rw [if_neg h1, if_pos (by omega)]
theorem refChk_rest {C R B F : Int} {cl : List Int} (h1 : 3 ≤ C) (h2 : C ≤ 120) (h3 : 1 ≤ R) (h4 : R ≤ 16) (h5 : 0 ≤ B) (h6 : 0 ≤ F) (h7 : F < C - B) : chk C R B F cl = if 120 < cl.length then 2 else riseI C cl := by
  unfold chk
  rw [if_neg (by omega), if_neg (by omega)]

theorem refCheck_any (C R B F : Int) (A : Option Addr) (cap : Nat) (cl : List Int) (w : World) (_hcl : cl.length ≤ 1000000) (hr : Ints w w.heap.size A cl) :
    Calls Try.prog 27 #[.agg #[.int .i64 C, .int .i64 R, .int .i64 B, .int .i64 F, .slice A cl.length cap]] w fun e w' => e = .returned (.int .i64 (chk C R B F cl)) ∧ Below w.heap.size w w' := by
  by_cases c0 : 3 ≤ C ∧ C ≤ 120
  case neg => rw [refChk_one (by omega)]; exact refCheck_0 C R B F A cap cl w hr c0
  by_cases c1 : 1 ≤ R ∧ R ≤ 16
  case neg => rw [refChk_one (by omega)]; exact refCheck_1 C R B F A cap cl w hr c0 c1
  by_cases c2 : B < 0
  case pos => rw [refChk_one (by omega)]; exact refCheck_2 C R B F A cap cl w hr c0 c1 c2
  by_cases c3 : F < 0
  case pos => rw [refChk_one (by omega)]; exact refCheck_3 C R B F A cap cl w hr c0 c1 c2 c3
  by_cases c4 : C ≤ B
  case pos => rw [refChk_one (by omega)]; exact refCheck_4 C R B F A cap cl w hr c0 c1 c2 c3 c4
  by_cases c5 : C - B ≤ F
  case pos => rw [refChk_one (by omega)]; exact refCheck_5 C R B F A cap cl w hr c0 c1 c2 c3 c4 c5
  rw [refChk_rest c0.1 c0.2 c1.1 c1.2 (by omega) (by omega) (by omega)]
  by_cases c6 : 120 < cl.length
  · rw [if_pos c6]; exact refCheck_6 C R B F A cap cl w hr c0 c1 c2 c3 c4 c5 c6
  · rw [if_neg c6]
    by_cases c7 : Rise C cl
    · rw [riseI_yes c7]; exact refCheck_7 C R B F A cap cl w hr c0 c1 c2 c3 c4 c5 c6 c7
    · rw [riseI_no c7]; exact refCheck_8 C R B F A cap cl w hr c0 c1 c2 c3 c4 c5 c6 c7

end Go.Proofs.Ytnjmkdgglpcfpaa
