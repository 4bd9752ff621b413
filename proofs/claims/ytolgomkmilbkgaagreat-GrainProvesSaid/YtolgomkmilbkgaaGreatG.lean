import Derived.Test.YtolgomkmilbkgaaGreatE
import Derived.Test.YtolgomkmilbkgaaGreatK
import Derived.Test.YtolgomkmilbkgaaGreatH
set_option autoImplicit false
set_option maxRecDepth 100000
set_option linter.unusedSimpArgs false
set_option linter.unusedVariables false
namespace Go.Proofs.YtolgomkmilbkgaaGreat
open Go.Proofs.YtolgomkmilbkgaaGreat.Ev
theorem cells3 : Tryz.prog.cellsOf 3 = 1 := by kernel_rfl
theorem cells4 : Tryz.prog.cellsOf 4 = 1 := by kernel_rfl
theorem cells22 : Tryz.prog.cellsOf 22 = 1 := by kernel_rfl
theorem cells24 : Tryz.prog.cellsOf 24 = 3 := by kernel_rfl
theorem cells25 : Tryz.prog.cellsOf 25 = 1 := by kernel_rfl
theorem cells27 : Tryz.prog.cellsOf 27 = 3 := by kernel_rfl
theorem cells47 : Tryz.prog.cellsOf 47 = 2 := by kernel_rfl
theorem cells49 : Tryz.prog.cellsOf 49 = 5 := by kernel_rfl
theorem sh_int {d : Nat} {us : List Value} (h : Sh Tryz.prog (d + 1) 3 us) : ∃ n : Int, us = [I64 n] := by
  unfold Sh at h
  simp only [Tryz.underlying3] at h
  obtain ⟨n, h, _⟩ := h
  exact ⟨n, h⟩
theorem sh_bool {d : Nat} {us : List Value} (h : Sh Tryz.prog (d + 1) 4 us) : ∃ n : Bool, us = [.bool n] := by
  unfold Sh at h
  simp only [Tryz.underlying4] at h
  exact h
theorem sh_ints {d : Nat} {us : List Value} (h : Sh Tryz.prog (d + 2) 25 us) : ∃ l : List Int, us = [encI l] := by
  unfold Sh at h
  simp only [Tryz.underlying25] at h
  obtain ⟨n, cs, rfl, _, h2, h3⟩ := h
  rw [cells3] at h2 h3
  obtain ⟨l, rfl, rfl, _⟩ := list_of1 (e := Value.int .i64) (Q := fun _ => True) h2 fun i hi => by
    obtain ⟨b, hb⟩ := sh_int (h3 i hi)
    exact ⟨b, trivial, hb⟩
  exact ⟨l, rfl⟩
theorem sh_span {d : Nat} {us : List Value} (h : Sh Tryz.prog (d + 2) 47 us) : ∃ a b : Int, us = [I64 a, I64 b] := by
  unfold Sh at h
  simp only [Tryz.underlying47, cells47] at h
  obtain ⟨h1, h2⟩ := h
  have a1 := h2 _ (List.mem_cons_self ..)
  have a2 := h2 _ (List.mem_cons_of_mem _ (List.mem_cons_self ..))
  simp only [cells3] at a1 a2
  obtain ⟨x, hx⟩ := sh_int a1
  obtain ⟨y, hy⟩ := sh_int a2
  match us, h1 with
  | [a, b], _ =>
    simp at hx hy
    exact ⟨x, y, by rw [hx, hy]⟩
theorem sh_mkt {d : Nat} {us : List Value} (h : Sh Tryz.prog (d + 3) 49 us) : ∃ m : Mkt, us = encD m := by
  unfold Sh at h
  simp only [Tryz.underlying49, cells49] at h
  obtain ⟨h1, h2⟩ := h
  have a1 := h2 _ (List.mem_cons_self ..)
  have a2 := h2 _ (List.mem_cons_of_mem _ (List.mem_cons_self ..))
  have a3 := h2 _ (List.mem_cons_of_mem _ (List.mem_cons_of_mem _ (List.mem_cons_self ..)))
  have a4 := h2 _ (List.mem_cons_of_mem _ (List.mem_cons_of_mem _ (List.mem_cons_of_mem _ (List.mem_cons_self ..))))
  simp only [cells3, cells4, cells47] at a1 a2 a3 a4
  obtain ⟨p, hp⟩ := sh_int a1
  obtain ⟨f, hf⟩ := sh_int a2
  obtain ⟨c, hc⟩ := sh_bool a3
  obtain ⟨lo, hi, hlh⟩ := sh_span a4
  match us, h1 with
  | [u1, u2, u3, u4, u5], _ =>
    simp at hp hf hc hlh
    exact ⟨⟨p, f, c, lo, hi⟩, by rw [hp, hf, hc, hlh.1, hlh.2]; rfl⟩
theorem sh_mkts {d : Nat} {us : List Value} (h : Sh Tryz.prog (d + 4) 22 us) : ∃ l : List Mkt, us = [encDs l] := by
  unfold Sh at h
  simp only [Tryz.underlying22] at h
  obtain ⟨n, cs, rfl, _, h2, h3⟩ := h
  rw [cells49] at h2 h3
  obtain ⟨l, rfl, rfl, _⟩ := list_of (c := 5) (e := encD) (Q := fun _ => True) (by omega) h2 fun i hi => by
    obtain ⟨b, hb⟩ := sh_mkt (h3 i hi)
    exact ⟨b, trivial, hb⟩
  exact ⟨l, rfl⟩
theorem sh_barn {d : Nat} {us : List Value} (h : Sh Tryz.prog (d + 5) 24 us) : ∃ b : Br, us = encBl b := by
  unfold Sh at h
  simp only [Tryz.underlying24, cells24] at h
  obtain ⟨h1, h2⟩ := h
  have a1 := h2 _ (List.mem_cons_self ..)
  have a2 := h2 _ (List.mem_cons_of_mem _ (List.mem_cons_self ..))
  have a3 := h2 _ (List.mem_cons_of_mem _ (List.mem_cons_of_mem _ (List.mem_cons_self ..)))
  simp only [cells3, cells22] at a1 a2 a3
  obtain ⟨n, hn⟩ := sh_int a1
  obtain ⟨k, hk⟩ := sh_int a2
  obtain ⟨l, hl⟩ := sh_mkts a3
  match us, h1 with
  | [u1, u2, u3], _ =>
    simp at hn hk hl
    exact ⟨⟨n, k, l⟩, by rw [hn, hk, hl]; rfl⟩
theorem sh_lots {d : Nat} {us : List Value} (h : Sh Tryz.prog (d + 3) 27 us) : ∃ x : Lt, us = encLl x := by
  unfold Sh at h
  simp only [Tryz.underlying27, cells27] at h
  obtain ⟨h1, h2⟩ := h
  have a1 := h2 _ (List.mem_cons_self ..)
  have a2 := h2 _ (List.mem_cons_of_mem _ (List.mem_cons_self ..))
  have a3 := h2 _ (List.mem_cons_of_mem _ (List.mem_cons_of_mem _ (List.mem_cons_self ..)))
  simp only [cells3, cells25] at a1 a2 a3
  obtain ⟨n, hn⟩ := sh_ints a1
  obtain ⟨k, hk⟩ := sh_int a2
  obtain ⟨l, hl⟩ := sh_ints a3
  match us, h1 with
  | [u1, u2, u3], _ =>
    simp at hn hk hl
    exact ⟨⟨n, k, l⟩, by rw [hn, hk, hl]; rfl⟩
theorem grainProves_pur0 (hh : PurOk Tryz.prog 18 [] (.bool true)) : ∀ us, ShAll Tryz.prog 5 [24, 4, 25, 27] us → PurOk Tryz.prog 3 us (.bool true) := by
  rintro us ⟨u0, us1, rfl, h0, u1, us2, rfl, h1, u2, us3, rfl, h2, u3, us4, rfl, h3, h4⟩
  have h4 : us4 = [] := h4
  subst h4
  unfold ShV at h0 h1 h2 h3
  simp only [Tryz.underlying24] at h0
  simp only [Tryz.underlying4] at h1
  simp only [Tryz.underlying25] at h2
  simp only [Tryz.underlying27] at h3
  obtain ⟨vs, rfl, h0⟩ := h0
  obtain ⟨ws, rfl, h3⟩ := h3
  obtain ⟨b, rfl⟩ := sh_barn h0
  obtain ⟨m, hm⟩ := sh_bool h1
  obtain ⟨l, hl⟩ := sh_ints h2
  obtain ⟨x, rfl⟩ := sh_lots h3
  simp only [List.cons.injEq, and_true] at hm hl
  rw [hm, hl]
  exact p3 hh b m l x
theorem head18 : PurOk Tryz.prog 18 [] (.bool true) := pur_evalS mixed sortsAt (ks := []) (fun _ h => by cases h) 100000 head_run
theorem grainProves_pur : ∀ us, ShAll Tryz.prog 5 [24, 4, 25, 27] us → PurOk Tryz.prog 3 us (.bool true) := grainProves_pur0 head18
end Go.Proofs.YtolgomkmilbkgaaGreat

