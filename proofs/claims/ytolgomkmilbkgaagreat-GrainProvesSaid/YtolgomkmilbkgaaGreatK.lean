import Derived.Test.YtolgomkmilbkgaaGreatV47
import Derived.Test.YtolgomkmilbkgaaGreatSp
set_option autoImplicit false
set_option maxRecDepth 100000
set_option linter.unusedSimpArgs false
set_option linter.unusedVariables false
namespace Go.Proofs.YtolgomkmilbkgaaGreat
open Go.Proofs.YtolgomkmilbkgaaGreat.Ev Go.RowKit Go.Maps Go.Sort Go.Shelf Go.WideShapes
open Go.WideElems (Fit)
theorem sorts130 (m : Nat) : AnyZI.SortsIn Tryz.prog Tryz.sorted130_ren Fence.wide m :=
  ⟨fun blk off cap ss W hH hblk hsz => callsIn_wide.2 (AnyM.slices_Sort_int Tryz.sort93 blk off cap ss W hH hblk hsz),
   fun p cap W => callsIn_wide.2 (AnyM.slices_Sort_int_none Tryz.sort93 p cap W)⟩
/-- Any value will do. -/
def anyR (_ : Value) : Option (DataW Unit × List MemPlace) := some (.lit (.bool true), [])
theorem key_i64 {n : Int} (h : (Lit.int .i64 n).wf = true) : keyOf Tryz.prog 3 (I64 n) = some (.int .i64 n) := by
  have hu := Tryz.underlying3
  unfold keyOf
  rw [hu]
  simp [mapKey, hu, h]
def numV : Value → Int
  | .int _ n => n
  | _ => 0
set_option maxHeartbeats 1000000 in
theorem sortsAt : SortsAt Tryz.prog 130 151 := by
  intro Bm b es clock ks w hBm hcell hb hst hkeys hwf hlen
  obtain ⟨es⟩ := es
  have hsz : es.length = ks.length := by have := congrArg List.length hkeys; simpa using this
  have hkey : ∀ x, x ∈ es → ∃ n, x.key = I64 n ∧ (Lit.int .i64 n).wf = true := fun x hx => by
    have : x.key ∈ ks.map I64 := by rw [← hkeys]; exact List.mem_map.2 ⟨x, hx, rfl⟩
    obtain ⟨n, h1, h2⟩ := List.mem_map.1 this
    exact ⟨n, h2.symm, hwf n h1⟩
  have hFit : Fit Tryz.prog 3 anyR ⟨es⟩ clock := by
    refine ⟨?_, hst, fun x hx => ?_⟩
    · show es.length ≤ maxLen
      unfold maxLen; omega
    · obtain ⟨n, h1, h2⟩ := hkey x hx
      exact ⟨(.int .i64 n, .lit (.bool true)), by unfold WideElems.rd; rw [h1, key_i64 h2]; rfl⟩
  obtain ⟨D0, hD⟩ : ∃ D0, D0 = DataW.map ((es.map (WideElems.rg Tryz.prog 3 anyR)).foldr DataW.insert []) := ⟨_, rfl⟩
  have hown : w.ownsMap Tryz.prog 3 anyR b es.length D0 := ⟨⟨es⟩, clock, hb, hFit, Nat.le_refl _, hD⟩
  have hperm : (intKeys D0).Perm ks := by
    rw [hD]
    show (((es.map (WideElems.rg Tryz.prog 3 anyR)).foldr DataW.insert []).map fun (p : Lit × DataW Unit) => Go.intOf p.1).Perm ks
    refine ((sorted_perm _).map _).trans ?_
    rw [List.map_map]
    have : es.map ((fun (p : Lit × DataW Unit) => Go.intOf p.1) ∘ WideElems.rg Tryz.prog 3 anyR) = ks := by
      have e1 : es.map ((fun (p : Lit × DataW Unit) => Go.intOf p.1) ∘ WideElems.rg Tryz.prog 3 anyR) = (es.map (fun e => e.key)).map numV := by
        rw [List.map_map]
        refine List.map_congr_left fun x hx => ?_
        obtain ⟨n, h1, h2⟩ := hkey x hx
        show Go.intOf (WideElems.rg Tryz.prog 3 anyR x).1 = numV x.key
        unfold WideElems.rg WideElems.rd
        rw [h1, key_i64 h2]; rfl
      have hkeys : es.map (fun e => e.key) = ks.map I64 := hkeys
      rw [e1, hkeys, List.map_map]
      exact List.map_id _
    rw [this]
  have hDs : Maps.size D0 = ks.length := by
    have : (intKeys D0).length = Maps.size D0 := by rw [hD]; simp [intKeys, Maps.size]
    rw [← this]; exact hperm.length_eq
  have hseq : SeqGives Fence.wide 2 Tryz.prog 151 #[.pointer (some ⟨Bm, 0, none⟩)] encZ (fun ss => ss.Perm (intKeys D0)) (Maps.size D0) w :=
    AnyZI.keys_gives (ρ := Tryz.keys131_ren) { Tryz.keys131 with } Fence.wide _ trivial rfl (by omega) Bm b es.length D0 w hBm hcell hown
  have C := AnyZI.sorted_in Tryz.sorted130 Fence.wide 5 trivial trivial trivial trivial rfl (by omega) (sorts130 _) (enters_of Tryz.func93 (by kernel_rfl) rfl) 151 #[.pointer (some ⟨Bm, 0, none⟩)] trivial (enters_of Tryz.func151 (by kernel_rfl) rfl) _ (Maps.size D0) (by rw [hDs]; unfold maxLen; omega) (by rw [hDs]; omega) w hseq
  change CallsIn _ _ Tryz.prog 130 _ _ _ at C
  refine Calls.mono (callsIn_wide.1 C) fun e w' ⟨v, ss, h1, h2, h3, h4, h5⟩ => ⟨v, 3, h1, ?_, h5⟩
  have hp : ss.Perm ks := h2.trans hperm
  rw [srt_merge hp, hp.length_eq] at h3
  exact h3
end Go.Proofs.YtolgomkmilbkgaaGreat

