import Derived.Test.YtieclenlldjfjaaGreatS6
set_option linter.unusedSimpArgs false
set_option linter.unusedVariables false
/- SameGrammar 24 of a grammar with itself. -/
namespace Go.Proofs.YtieclenlldjfjaaGreat
open Go.RowKit

set_option maxRecDepth 100000 in
set_option maxHeartbeats 2000000 in
theorem sameG_self (Sy St Ot Mi Ad Sm : Int) (A A' : Option Addr) (c c' : Nat) (ms : List Mkg) (w : World) (hml : ms.length ≤ 30) (hit : ∀ m ∈ ms, m.items.length ≤ 3) (hG : Gr w w.heap.size A ms) (hG' : Gr w w.heap.size A' ms) :
    Calls Tryz.prog 24 #[gv Sy St (.slice A ms.length c) Ot Mi Ad Sm, gv Sy St (.slice A' ms.length c') Ot Mi Ad Sm] w fun e w' => e = .returned (.bool true) ∧ Below w.heap.size w w' := by
  have HIT := Lib.hid hit
  clear hit
  have hb0 : Below w.heap.size w ((w.alloc (.cells #[.int .i64 Sy, .int .i64 St, .slice A ms.length c, .int .i64 Ot, .int .i64 Mi, .int .i64 Ad, .int .i64 Sm] 24)).alloc (.cells #[.int .i64 Sy, .int .i64 St, .slice A' ms.length c', .int .i64 Ot, .int .i64 Mi, .int .i64 Ad, .int .i64 Sm] 24)) := (below_new _ _).alloc (by simp) _
  have kA : Blk ((w.alloc (.cells #[.int .i64 Sy, .int .i64 St, .slice A ms.length c, .int .i64 Ot, .int .i64 Mi, .int .i64 Ad, .int .i64 Sm] 24)).alloc (.cells #[.int .i64 Sy, .int .i64 St, .slice A' ms.length c', .int .i64 Ot, .int .i64 Mi, .int .i64 Ad, .int .i64 Sm] 24)) w.heap.size 24 #[.int .i64 Sy, .int .i64 St, .slice A ms.length c, .int .i64 Ot, .int .i64 Mi, .int .i64 Ad, .int .i64 Sm] := (Blk.new _ _ _).alloc _
  have kB : Blk ((w.alloc (.cells #[.int .i64 Sy, .int .i64 St, .slice A ms.length c, .int .i64 Ot, .int .i64 Mi, .int .i64 Ad, .int .i64 Sm] 24)).alloc (.cells #[.int .i64 Sy, .int .i64 St, .slice A' ms.length c', .int .i64 Ot, .int .i64 Mi, .int .i64 Ad, .int .i64 Sm] 24)) (w.heap.size + 1) 24 #[.int .i64 Sy, .int .i64 St, .slice A' ms.length c', .int .i64 Ot, .int .i64 Mi, .int .i64 Ad, .int .i64 Sm] := Blk.newAt (by simp)
  have hG1 : Gr ((w.alloc (.cells #[.int .i64 Sy, .int .i64 St, .slice A ms.length c, .int .i64 Ot, .int .i64 Mi, .int .i64 Ad, .int .i64 Sm] 24)).alloc (.cells #[.int .i64 Sy, .int .i64 St, .slice A' ms.length c', .int .i64 Ot, .int .i64 Mi, .int .i64 Ad, .int .i64 Sm] 24)) ((w.alloc (.cells #[.int .i64 Sy, .int .i64 St, .slice A ms.length c, .int .i64 Ot, .int .i64 Mi, .int .i64 Ad, .int .i64 Sm] 24)).alloc (.cells #[.int .i64 Sy, .int .i64 St, .slice A' ms.length c', .int .i64 Ot, .int .i64 Mi, .int .i64 Ad, .int .i64 Sm] 24)).heap.size A ms := hG.behind hb0
  have hG1' : Gr ((w.alloc (.cells #[.int .i64 Sy, .int .i64 St, .slice A ms.length c, .int .i64 Ot, .int .i64 Mi, .int .i64 Ad, .int .i64 Sm] 24)).alloc (.cells #[.int .i64 Sy, .int .i64 St, .slice A' ms.length c', .int .i64 Ot, .int .i64 Mi, .int .i64 Ad, .int .i64 Sm] 24)) ((w.alloc (.cells #[.int .i64 Sy, .int .i64 St, .slice A ms.length c, .int .i64 Ot, .int .i64 Mi, .int .i64 Ad, .int .i64 Sm] 24)).alloc (.cells #[.int .i64 Sy, .int .i64 St, .slice A' ms.length c', .int .i64 Ot, .int .i64 Mi, .int .i64 Ad, .int .i64 Sm] 24)).heap.size A' ms := hG'.behind hb0
  go_enter Tryz.func24, Tryz.ntmps24
  go_wp2_with fail
  obtain ⟨W1, hW1⟩ : ∃ W1, W1 = ((w.alloc (.cells #[.int .i64 Sy, .int .i64 St, .slice A ms.length c, .int .i64 Ot, .int .i64 Mi, .int .i64 Ad, .int .i64 Sm] 24)).alloc (.cells #[.int .i64 Sy, .int .i64 St, .slice A' ms.length c', .int .i64 Ot, .int .i64 Mi, .int .i64 Ad, .int .i64 Sm] 24)) := ⟨_, rfl⟩
  rw [← hW1] at hb0 kA kB hG1 hG1' ⊢
  obtain ⟨B, hB⟩ : ∃ B, B = w.heap.size + 1 := ⟨_, rfl⟩
  rw [← hB] at kB ⊢
  clear hW1 hB hG hG'
  go_loopw [5] (fun i wr => ∃ k : Nat, k ≤ ms.length ∧ i = .int .i64 k ∧ Below W1.heap.size W1 wr)
    (fun i _ => ms.length - (intOf i).toNat)
  case atStart => exact ⟨0, Nat.zero_le _, rfl, Below.refl _ _⟩
  case round =>
    obtain ⟨k, hk, rfl, hbr⟩ := hrel
    have hG2 := hG1.behind hbr
    have hG2' := hG1'.behind hbr
    have a2 : wr.cell? ⟨w.heap.size, 2, none⟩ = some (.slice A ms.length c) := (kA.below hbr kA.lt).cell 2
    have b2 : wr.cell? ⟨B, 2, none⟩ = some (.slice A' ms.length c') := (kB.below hbr kB.lt).cell 2
    by_cases hlt : k < ms.length
    · obtain ⟨ad, rfl, hB1, m0, ⟨IA, icap, m1, n1, n2, hI⟩, m2⟩ := hG2.get hlt
      obtain ⟨ad', rfl, hB1', m0', ⟨IA', icap', m1', n1', n2', hI'⟩, m2'⟩ := hG2'.get hlt
      have hll2 : (k : Int) < (ms.length : Int) := by omega
      have hil := HIT.out _ (List.getElem_mem hlt)
      obtain ⟨mq, hmq⟩ : ∃ mq, mq = ms[k] := ⟨_, rfl⟩
      rw [← hmq] at m0 m1 m2 n1 hI m0' m1' m2' n1' hI' hil
      clear hmq
      obtain ⟨msym, items, mcost⟩ := mq
      simp only at m0 m1 m2 n1 hI m0' m1' m2' n1' hI' hil
      have hi6 : items.length ≤ 1000000 := by omega
      go_wp2_with fail
      go_quiet ((go_at_call 23; exact Calls.quiet_of (same_self items IA IA' icap icap' _ hi6 hI hI')))
      go_wp2_with fail
      go_quiet (fail)
      go_wp2_with fail
      go_roundw
      case rel => exact ⟨k + 1, by omega, by go_num, by first | exact below_drewN hbr _ | exact below_drewN (below_drewN hbr _) _⟩
      case measure => simp [intOf]; try omega
    · obtain rfl : k = ms.length := by omega
      go_wp2_with fail
      go_ret
      exact ⟨rfl, hb0.trans (hbr.mono hb0.size)⟩
end Go.Proofs.YtieclenlldjfjaaGreat
