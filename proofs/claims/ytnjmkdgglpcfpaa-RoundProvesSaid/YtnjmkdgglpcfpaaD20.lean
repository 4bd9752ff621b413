import Derived.Test.YtnjmkdgglpcfpaaD8
import Derived.Test.YtnjmkdgglpcfpaaD19
namespace Go.Proofs.Ytnjmkdgglpcfpaa
set_option linter.unusedSimpArgs false
set_option linter.unusedVariables false
open Go.RowKit

theorem provesLaw_any (C R B F : Int) (A : Option Addr) (cap : Nat) (cl : List Int) (D : Option Addr) (dap : Nat) (l : List Int) (E : Option Addr) (eap : Nat) (ss : List Int) (S : Option Addr) (sap : Nat) (st : List Int) (G : Option Addr) (gap : Nat) (cuts : List (Int × List Int)) (w : World) (hB : B ≤ 9223372036854775807) (hcl : cl.length ≤ maxLen) (hll : l.length ≤ maxLen) (hel : ss.length ≤ maxLen) (hsl : st.length ≤ maxLen) (hgl : cuts.length ≤ maxLen) (hcc : ∀ c ∈ cuts, c.2.length ≤ maxLen) (hr : Ints w w.heap.size A cl) (hl : Ints w w.heap.size D l) (he : Ints w w.heap.size E ss) (hs : Ints w w.heap.size S st) (hg : CutsC w w.heap.size G cuts) :
    Calls Try.prog 8 #[.agg #[.int .i64 C, .int .i64 R, .int .i64 B, .int .i64 F, .slice A cl.length cap], .slice D l.length dap, .slice E ss.length eap, .agg #[.slice S st.length sap, .slice G cuts.length gap]] w fun e w' => e = .returned (.bool true) ∧ Below w.heap.size w w' := by
  have hc63 : cl.length ≤ 9223372036854775807 := Nat.le_trans hcl (by decide)
  have hl63 : l.length ≤ 9223372036854775807 := Nat.le_trans hll (by decide)
  have he63 : ss.length ≤ 9223372036854775807 := Nat.le_trans hel (by decide)
  have hs63 : st.length ≤ 9223372036854775807 := Nat.le_trans hsl (by decide)
  have hg63 : cuts.length ≤ 9223372036854775807 := Nat.le_trans hgl (by decide)
  have hcc63 : ∀ c ∈ cuts, c.2.length ≤ 9223372036854775807 := fun c hc => Nat.le_trans (hcc c hc) (by decide)
  cases hsb : someB C R B F cl l with
  | false => exact provesLaw_o1 C R B F A cap cl D dap l E eap ss S sap st G gap cuts w hB hcl hll hel hsl hgl hcc hr hl he hs hg hsb
  | true =>
    by_cases h2 : 210 < ss.length
    · exact provesLaw_o2 C R B F A cap cl D dap l E eap ss S sap st G gap cuts w hB hcl hll hel hsl hgl hcc hr hl he hs hg hsb h2
    · have h2' : ss.length ≤ 210 := by omega
      cases hrb : roundsB st cuts with
      | false => exact provesLaw_o3 C R B F A cap cl D dap l E eap ss S sap st G gap cuts w hB hcl hll hel hsl hgl hcc hr hl he hs hg hsb h2' hrb
      | true =>
        obtain ⟨hl60, hck⟩ := of_decide_eq_true hsb
        have hok := chk_ok.1 hck
        have C39 := fun (W : World) (ha : Ints W W.heap.size A cl) (hd : Ints W W.heap.size D l) => fewestC_any C R B F A cap cl D dap l W hB hc63 ha hd hl63
        have C1 := fun (W : World) (ha : Ints W W.heap.size A cl) (hd : Ints W W.heap.size D l) => count37 C R B F A cap cl D dap l hB hc63 hl63 W ha hd
        have C32 := fun (W : World) (ha : Ints W W.heap.size A cl) (hd : Ints W W.heap.size D l) (hee : Ints W W.heap.size E ss) => left_any C R B F A cap cl D dap l E eap ss W hB hc63 hl63 he63 ha hd hee
        by_cases her : findErr C R B F cl l = 0
        · have hk := find_holes her
          have hb := find_best her
          have hz := holesErr_zero.2 hk
          have k2 := hk.ok.c120
          obtain ⟨lb1, lb2⟩ := left_of_best her
          have hLr : Rise C (findL C R B F cl l) := ⟨hb.rise, fun x hx => ⟨(hb.cov.op x hx).lo, (hb.cov.op x hx).hi⟩⟩
          have hLlen := rise_len hLr
          have hshort := cuts_short her
          have hsh := shown_best her
          rw [her] at C1 C39
          simp only [↓reduceIte] at C39
          have hq1 : (cutsOf C B F (isIn cl) (isIn (colm C l)) (findL C R B F cl l).length).length ≤ 200 := Nat.le_of_not_lt fun h => hshort (.inr (.inl h))
          have hq2 : ∀ c ∈ cutsOf C B F (isIn cl) (isIn (colm C l)) (findL C R B F cl l).length, c.2.length ≤ 200 := fun c hc => Nat.le_of_not_lt fun h => hshort (.inr (.inr ⟨c, hc, h⟩))
          have C32b := fun (E2 : Option Addr) (e2ap : Nat) (W : World) (ha : Ints W W.heap.size A cl) (hd : Ints W W.heap.size D l) (h2 : Ints W W.heap.size E2 (findL C R B F cl l)) => left_any C R B F A cap cl D dap l E2 e2ap (findL C R B F cl l) W hB hc63 hl63 (by omega) ha hd h2
          rw [lb1, lb2] at C32b
          have C42a := fun (E2 : Option Addr) (e2ap : Nat) (G2 : Option Addr) (g2ap : Nat) (W : World) (ha : Ints W W.heap.size A cl) (hd : Ints W W.heap.size D l) (h2 : Ints W W.heap.size E2 (findL C R B F cl l)) (h3 : CutsC W W.heap.size G2 (cutsOf C B F (isIn cl) (isIn (colm C l)) (findL C R B F cl l).length)) => check42_any C R B F A cap cl D dap l E2 e2ap (findL C R B F cl l) G2 g2ap (cutsOf C B F (isIn cl) (isIn (colm C l)) (findL C R B F cl l).length) W hB hc63 hl63 (by omega) (by omega) (fun c hc => by have := hq2 c hc; omega) ha hd h2 h3 0 (fun h => absurd hz h) (fun _ h => absurd h hshort) (fun _ _ _ => rfl) (fun _ _ h => absurd ⟨lb1, lb2, hsh⟩ h)
          obtain ⟨cr, C42b, hcr⟩ : ∃ cr : Int, (∀ W : World, Ints W W.heap.size A cl → Ints W W.heap.size D l → Ints W W.heap.size S st → CutsC W W.heap.size G cuts → Calls Try.prog 42 #[.agg #[.int .i64 C, .int .i64 R, .int .i64 B, .int .i64 F, .slice A cl.length cap], .slice D l.length dap, .agg #[.slice S st.length sap, .slice G cuts.length gap]] W fun e w' => e = .returned (.int .i64 cr) ∧ Below W.heap.size W w') ∧ (cr = 0 → OkP C R B F cl l st cuts) := by
            by_cases hL : LongP st cuts
            · exact ⟨2, fun W ha hd h2 h3 => check42_any C R B F A cap cl D dap l S sap st G gap cuts W hB hc63 hl63 hs63 hg63 hcc63 ha hd h2 h3 2 (fun h => absurd hz h) (fun _ _ => rfl) (fun _ h => absurd hL h) (fun _ h => absurd hL h), fun h => by cases h⟩
            · by_cases ho : OkP C R B F cl l st cuts
              · exact ⟨0, fun W ha hd h2 h3 => check42_any C R B F A cap cl D dap l S sap st G gap cuts W hB hc63 hl63 hs63 hg63 hcc63 ha hd h2 h3 0 (fun h => absurd hz h) (fun _ h => absurd h hL) (fun _ _ _ => rfl) (fun _ _ h => absurd ho h), fun _ => ho⟩
              · exact ⟨8, fun W ha hd h2 h3 => check42_any C R B F A cap cl D dap l S sap st G gap cuts W hB hc63 hl63 hs63 hg63 hcc63 ha hd h2 h3 8 (fun h => absurd hz h) (fun _ h => absurd h hL) (fun _ _ h => absurd h ho) (fun _ _ _ => rfl), fun h => by cases h⟩
          have hn : cr = 0 → st.length = (findL C R B F cl l).length := fun h => by
            have ho := hcr h
            have h3 := hb.least _ (cov_of_left hk ho.1 ho.2.1)
            have h4 := shown_least hk ho.2.2 hb.cov
            omega
          by_cases hle : leftErr C R B F cl l ss = 0
          · rw [hle] at C32
            by_cases hL : leftL C R B F cl l ss = []
            · have hge := hb.least _ (cov_of_left hk hle hL)
              rw [hL] at C32
              by_cases hc0 : cr = 0
              · exact provesLaw_z6 C R B F A cap cl D dap l E eap ss S sap st G gap cuts w hB hcl hll hel hsl hgl hcc hr hl he hs hg hsb h2' hrb _ [] _ 0 0 cr C39 C1 C32 C32b C42a C42b rfl rfl rfl hge hc0 (hn hc0)
              · exact provesLaw_z5 C R B F A cap cl D dap l E eap ss S sap st G gap cuts w hB hcl hll hel hsl hgl hcc hr hl he hs hg hsb h2' hrb _ [] _ 0 0 cr C39 C1 C32 C32b C42a C42b rfl rfl rfl hge hc0
            · have hpos : 0 < (leftL C R B F cl l ss).length := List.length_pos_iff.2 hL
              by_cases hc0 : cr = 0
              · exact provesLaw_z4 C R B F A cap cl D dap l E eap ss S sap st G gap cuts w hB hcl hll hel hsl hgl hcc hr hl he hs hg hsb h2' hrb _ _ _ 0 0 cr C39 C1 C32 C32b C42a C42b rfl rfl hpos hc0 (hn hc0)
              · exact provesLaw_z3 C R B F A cap cl D dap l E eap ss S sap st G gap cuts w hB hcl hll hel hsl hgl hcc hr hl he hs hg hsb h2' hrb _ _ _ 0 0 cr C39 C1 C32 C32b C42a C42b rfl rfl hpos hc0
          · by_cases hc0 : cr = 0
            · exact provesLaw_z2 C R B F A cap cl D dap l E eap ss S sap st G gap cuts w hB hcl hll hel hsl hgl hcc hr hl he hs hg hsb h2' hrb _ _ _ 0 _ cr C39 C1 C32 C32b C42a C42b rfl hle hc0 (hn hc0)
            · exact provesLaw_z1 C R B F A cap cl D dap l E eap ss S sap st G gap cuts w hB hcl hll hel hsl hgl hcc hr hl he hs hg hsb h2' hrb _ _ _ 0 _ cr C39 C1 C32 C32b C42a C42b rfl hle hc0
        · by_cases hk : HolesOk C R B F cl l
          · obtain ⟨h5, _, hno⟩ := find_none hk her
            rw [h5] at C1 C39
            by_cases hle : leftErr C R B F cl l ss = 0
            · rw [hle] at C32
              have hpos : 0 < (leftL C R B F cl l ss).length := List.length_pos_iff.2 fun hL => hno _ (cov_of_left hk hle hL)
              exact provesLaw_e5b C R B F A cap cl D dap l E eap ss S sap st G gap cuts w hB hcl hll hel hsl hgl hcc hr hl he hs hg hsb h2' hrb _ _ _ 5 0 0 C39 C1 C32 rfl rfl hpos
            · exact provesLaw_e5a C R B F A cap cl D dap l E eap ss S sap st G gap cuts w hB hcl hll hel hsl hgl hcc hr hl he hs hg hsb h2' hrb _ _ _ 5 _ 0 C39 C1 C32 rfl hle
          · have h1 : findErr C R B F cl l = 1 := by
              rw [(find_bad_err hk).1, holesErr_ok _ hok, if_neg (by omega), if_neg]
              intro ha
              exact hk ⟨hok, by omega, ha⟩
            rw [h1] at C1 C39
            by_cases hle : leftErr C R B F cl l ss = 0
            · rw [hle] at C32
              by_cases hL : leftL C R B F cl l ss = []
              · rw [hL] at C32
                exact provesLaw_e1c C R B F A cap cl D dap l E eap ss S sap st G gap cuts w hB hcl hll hel hsl hgl hcc hr hl he hs hg hsb h2' hrb _ [] _ 1 0 0 C39 C1 C32 rfl rfl rfl
              · exact provesLaw_e1b C R B F A cap cl D dap l E eap ss S sap st G gap cuts w hB hcl hll hel hsl hgl hcc hr hl he hs hg hsb h2' hrb _ _ _ 1 0 0 C39 C1 C32 rfl rfl (List.length_pos_iff.2 hL)
            · exact provesLaw_e1a C R B F A cap cl D dap l E eap ss S sap st G gap cuts w hB hcl hll hel hsl hgl hcc hr hl he hs hg hsb h2' hrb _ _ _ 1 _ 0 C39 C1 C32 rfl hle

end Go.Proofs.Ytnjmkdgglpcfpaa
