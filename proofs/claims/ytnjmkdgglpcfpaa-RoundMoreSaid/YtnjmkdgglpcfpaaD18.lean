import Derived.Test.YtnjmkdgglpcfpaaD15
import Derived.Test.YtnjmkdgglpcfpaaD16
import Derived.Test.YtnjmkdgglpcfpaaD17
namespace Go.Proofs.Ytnjmkdgglpcfpaa
set_option linter.unusedSimpArgs false
set_option linter.unusedVariables false
open Go.RowKit

theorem findL_len {C R B F : Int} {cl l : List Int} : (findL C R B F cl l).length ≤ 1000 := by
  by_cases he : findErr C R B F cl l = 0
  · have hk := find_holes he
    have hb := find_best he
    have hr : Rise C (findL C R B F cl l) := ⟨hb.rise, fun x hx => ⟨(hb.cov.op x hx).lo, (hb.cov.op x hx).hi⟩⟩
    have := rise_len hr
    have := hk.ok.c120
    omega
  · by_cases hk : HolesOk C R B F cl l
    · rw [(find_none hk he).2.1]; simp
    · rw [(find_bad_err hk).2.1]; simp
theorem moreLaw_any (C R B F : Int) (A : Option Addr) (cap : Nat) (cl : List Int) (D : Option Addr) (dap : Nat) (l : List Int) (E : Option Addr) (eap : Nat) (m : List Int) (x : Int) (w : World) (hB : B ≤ 9223372036854775807) (hcl : cl.length ≤ maxLen) (hll : l.length ≤ maxLen) (hml : m.length ≤ maxLen) (hr : Ints w w.heap.size A cl) (hl : Ints w w.heap.size D l) (hm : Ints w w.heap.size E m) :
    Calls Try.prog 10 #[.agg #[.int .i64 C, .int .i64 R, .int .i64 B, .int .i64 F, .slice A cl.length cap], .slice D l.length dap, .slice E m.length eap, .int .i64 x] w fun e w' => e = .returned (.bool true) ∧ Below w.heap.size w w' := by
  have hc63 : cl.length ≤ 9223372036854775807 := Nat.le_trans hcl (by decide)
  by_cases hs : l.length ≤ 30 ∧ m.length ≤ 30 ∧ someB C R B F cl l = true
  · obtain ⟨h30, h30m, hs⟩ := hs
    have hl63 : l.length ≤ 9223372036854775807 := by omega
    have hm63 : m.length ≤ 9223372036854775807 := by omega
    have C1 := fun (W : World) (ha : Ints W W.heap.size A cl) (hd : Ints W W.heap.size D l) => count37 C R B F A cap cl D dap l hB hc63 hl63 W ha hd
    have C2 := fun (W : World) (ha : Ints W W.heap.size A cl) (hd : Ints W W.heap.size E m) => count37 C R B F A cap cl E eap m hB hc63 hm63 W ha hd
    have C3 := fun (X : Option Addr) (xap : Nat) (W : World) (ha : Ints W W.heap.size A cl) (hd : Ints W W.heap.size X (l ++ m)) => count37 C R B F A cap cl X xap (l ++ m) hB hc63 (by rw [List.length_append]; omega) W ha hd
    simp only [List.length_append] at C3
    by_cases he1 : findErr C R B F cl l = 0
    · rw [he1] at C1
      by_cases he2 : findErr C R B F cl m = 0
      · rw [he2] at C2
        obtain ⟨he3, hle⟩ := more_both he1 he2 (by omega)
        rw [he3] at C3
        have hk3 := find_holes he3
        have hz3 := holesErr_zero.2 hk3
        have hc1 := (more_left he3).2
        have hc2 := (more_right he3).2
        have C4 := fun (X : Option Addr) (xap : Nat) (W : World) (ha : Ints W W.heap.size A cl) (hd : Ints W W.heap.size X (l ++ [x])) => count37 C R B F A cap cl X xap (l ++ [x]) hB hc63 (by rw [List.length_append, List.length_singleton]; omega) W ha hd
        simp only [List.length_append, List.length_singleton] at C4
        have CS := fun (X : Option Addr) (xap : Nat) (W : World) (ha : Ints W W.heap.size A cl) (hd : Ints W W.heap.size X (l ++ m)) => saves47 C R B F A cap cl X xap (l ++ m) hB hc63 (by rw [List.length_append]; omega) W ha hd
        simp only [List.length_append, he3] at CS
        have CC := fun (X : Option Addr) (xap : Nat) (W : World) (ha : Ints W W.heap.size A cl) (hd : Ints W W.heap.size X (l ++ m)) => columns30_any C R B F A cap cl X xap (l ++ m) W hB hc63 (by rw [List.length_append]; omega) ha hd
        simp only [List.length_append, hz3, ↓reduceIte] at CC
        have hcsl : (cols (isIn (colm C (l ++ m)))).length ≤ 120 := colsTo_len _ _
        have hM := fun (k : Nat) (hk : k < (cols (isIn (colm C (l ++ m)))).length) => less_find he3 hk
        have hsl := (need_len (C := C) (R := R) (B := B) (F := F) (cl := cl) (l := l ++ m)).2.2
        have C5 : ∀ (k : Nat), k < (cols (isIn (colm C (l ++ m)))).length → ∀ (X : Option Addr) (xap : Nat) (W : World), Ints W W.heap.size A cl → Ints W W.heap.size X (lessOf (cols (isIn (colm C (l ++ m)))) k) → Calls Try.prog 37 #[.agg #[.int .i64 C, .int .i64 R, .int .i64 B, .int .i64 F, .slice A cl.length cap], .slice X (k + ((cols (isIn (colm C (l ++ m)))).length - (k + 1))) xap] W fun e w' => e = .returned (.tuple #[.int .i64 ((findL C R B F cl (lessOf (cols (isIn (colm C (l ++ m)))) k)).length : Nat), .int .i64 0]) ∧ Below W.heap.size W w' := fun k hk X xap W ha hd => by
          have hlen : (lessOf (cols (isIn (colm C (l ++ m)))) k).length = k + ((cols (isIn (colm C (l ++ m)))).length - (k + 1)) := by
            unfold lessOf
            rw [List.length_append, List.length_take, List.length_drop]
            omega
          have := count37 C R B F A cap cl X xap (lessOf (cols (isIn (colm C (l ++ m)))) k) hB hc63 (by omega) W ha hd
          rwa [hlen, (hM k hk).1] at this
        by_cases he4 : findErr C R B F cl (l ++ [x]) = 0
        · rw [he4] at C4
          exact moreLaw_m0 C R B F A cap cl D dap l E eap m x w hB hcl hll hml hr hl hm h30 h30m hs _ _ _ _ _ _ _ (by omega) hcsl ⟨findL_len, findL_len, findL_len, findL_len⟩ C1 C2 C3 C4 CS CC C5 hc1 hc2 hle (fun k hk => ⟨(hM k hk).2.1, (hM k hk).2.2.1, (hM k hk).2.2.2⟩) ⟨(more_left he4).2, more_one he1 he4⟩
        · rcases more_err1 h30 he1 he4 with h5 | h5
          · rw [h5] at C4
            exact moreLaw_m1 C R B F A cap cl D dap l E eap m x w hB hcl hll hml hr hl hm h30 h30m hs _ _ _ _ _ _ _ (by omega) hcsl ⟨findL_len, findL_len, findL_len, findL_len⟩ C1 C2 C3 C4 CS CC C5 hc1 hc2 hle (fun k hk => ⟨(hM k hk).2.1, (hM k hk).2.2.1, (hM k hk).2.2.2⟩) trivial
          · rw [h5] at C4
            exact moreLaw_m5 C R B F A cap cl D dap l E eap m x w hB hcl hll hml hr hl hm h30 h30m hs _ _ _ _ _ _ _ (by omega) hcsl ⟨findL_len, findL_len, findL_len, findL_len⟩ C1 C2 C3 C4 CS CC C5 hc1 hc2 hle (fun k hk => ⟨(hM k hk).2.1, (hM k hk).2.2.1, (hM k hk).2.2.2⟩) trivial
      · exact moreLaw_a2 C R B F A cap cl D dap l E eap m x w hB hcl hll hml hr hl hm h30 h30m hs _ _ _ _ _ _ C1 C2 C3 rfl he2 (fun h => he2 (more_right h).1)
    · exact moreLaw_a1 C R B F A cap cl D dap l E eap m x w hB hcl hll hml hr hl hm h30 h30m hs _ _ _ _ _ _ C1 C2 C3 he1 (fun h => he1 (more_left h).1)
  · exact moreLaw_out C R B F A cap cl D dap l E eap m x w hB hcl hll hml hr hl hm hs

end Go.Proofs.Ytnjmkdgglpcfpaa
