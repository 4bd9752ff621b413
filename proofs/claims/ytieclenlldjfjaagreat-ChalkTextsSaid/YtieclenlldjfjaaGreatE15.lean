import Derived.Test.YtieclenlldjfjaaGreatE14
set_option autoImplicit false
set_option linter.unusedVariables false
set_option linter.unusedSimpArgs false
namespace Go.Proofs.YtieclenlldjfjaaGreat.Ev
open Go
section
variable {P : Program} {σ : Nm} {st st' : St} {w : World}

theorem apK_ok {e : TypeId} {f : Nat → List Value → Ap} {r : Ap} (h : apK P e f = r) (hne : r ≠ .no) : ∃ k z i zv, smallB P e = true ∧ P.info? e = some i ∧ i.size = k ∧ i.bytes ≤ 65536 ∧ zeroOf P e = some zv ∧ zv.cells = ⟨z⟩ ∧ z.all flat = true ∧ z.length = k ∧ f k z = r := by
  unfold apK at h
  obtain ⟨hb, h⟩ := bsel_ne h hne.symm
  obtain ⟨k, hk, h⟩ := osel_ne h hne.symm
  obtain ⟨z, hz, h⟩ := osel_ne h hne.symm
  obtain ⟨hl, h⟩ := bsel_ne h hne.symm
  obtain ⟨i, hi, his⟩ := tySize_some hk
  obtain ⟨zv, z1, z2, z3⟩ := zeroL_ok hz
  exact ⟨k, z, i, zv, hb, hi, his, smallB_ok hb hi, z1, z2, z3, by have := beq_iff.1 hl; rwa [lenL_eq] at this, h⟩

theorem ts_two {ts : Array TypeId} {t u : TypeId} (h : ts.toList = [t, u]) : ts = #[t, u] := by
  apply Array.ext'; simpa using h

theorem append_ok {ts : Array TypeId} {ty : TypeId} {s s' x x' v : Value} (h : appendA P ts s x st = .ok v st') (hr : Rel σ st w) (hs : VR σ s s') (hx : VR σ x x') :
    DoesV P (Builtin.append_ ts ty #[s', x']) σ st w v st' := by
  unfold appendA at h
  split at h
  · rename_i base len cap
    cases hap : apOf P ts with
    | no => rw [hap] at h; cases h
    | list k =>
      rw [hap] at h
      obtain ⟨n, hn, h⟩ := osel_ne h Re.no_ne
      obtain ⟨new, hnew, h⟩ := osel_ne h Re.no_ne
      obtain ⟨l1, l2, ys, l3, l4⟩ := listA_ok (P := P) hnew hr hx
      unfold apOf at hap
      split at hap
      · rename_i t xt hts
        have := ts_two hts; subst this
        split at hap
        · obtain ⟨_, _, _, _, _, _, _, _, _, _, _, _, hf⟩ := apK_ok hap (by simp)
          cases hf
        · rename_i e e' hu hux
          obtain ⟨k', z, i, zv, b1, b2, b3, b4, b5, b6, b7, b8, hf⟩ := apK_ok hap (by simp)
          cases hf
          exact appendK_ok hu b2 b4 b3 b5 b6 b8 (.inl ⟨.inl ⟨e', hux⟩, lenA_ok hn hx, l4⟩) l3 l2 l1 hr hs h
        · rename_i e hu hux
          obtain ⟨k', z, i, zv, b1, b2, b3, b4, b5, b6, b7, b8, hf⟩ := apK_ok hap (by simp)
          cases hf
          exact appendK_ok hu b2 b4 b3 b5 b6 b8 (.inl ⟨.inr hux, lenA_ok hn hx, l4⟩) l3 l2 l1 hr hs h
        · cases hap
      · cases hap
    | zeros k z =>
      rw [hap] at h
      obtain ⟨k2, n, rfl, hh⟩ := natK_ok h Re.no_ne
      clear h
      have := int_inv hx; subst this
      obtain ⟨hb, h⟩ := bsel_ne hh Re.no_ne
      have hb : n ≤ 65536 := ble_iff.1 hb
      unfold apOf at hap
      split at hap
      · rename_i t xt hts
        have := ts_two hts; subst this
        split at hap
        · rename_i e kk hu hux
          obtain ⟨k', z', i, zv, b1, b2, b3, b4, b5, b6, b7, b8, hf⟩ := apK_ok hap (by simp)
          cases hf
          have hfl := repL_flat b7 n
          exact appendK_ok hu b2 b4 b3 b5 b6 b8 (.inr ⟨kk, k2, z, zv, hux, rfl, hb, b5, b6, b8, rfl⟩) (VRL.flat hfl) (flat_one hfl) (by rw [repL_len, b8]) hr hs h
        · obtain ⟨_, _, _, _, _, _, _, _, _, _, _, _, hf⟩ := apK_ok hap (by simp)
          cases hf
        · obtain ⟨_, _, _, _, _, _, _, _, _, _, _, _, hf⟩ := apK_ok hap (by simp)
          cases hf
        · cases hap
      · cases hap
  · cases h

theorem minN_eq (a b : Nat) : minN a b = Nat.min a b := by
  unfold minN
  rw [bsel_eq]
  by_cases h : a ≤ b
  · rw [if_pos (ble_iff.2 h)]; exact (Nat.min_eq_left h).symm
  · rw [if_neg (fun h' => h (ble_iff.1 h'))]; exact (Nat.min_eq_right (by omega)).symm

theorem copy_ok {ts : Array TypeId} {ty : TypeId} {s s' x x' v : Value} (h : copyA P ts s x st = .ok v st') (hr : Rel σ st w) (hs : VR σ s s') (hx : VR σ x x') :
    DoesV P (Builtin.copy_ ts ty #[s', x']) σ st w v st' := by
  unfold copyA at h
  split at h
  · rename_i base dl c
    obtain ⟨t, ht, h⟩ := osel_ne h Re.no_ne
    obtain ⟨k, hk, h⟩ := osel_ne h Re.no_ne
    obtain ⟨sl, hsl, h⟩ := osel_ne h Re.no_ne
    obtain ⟨xs, hxs, h⟩ := osel_ne h Re.no_ne
    unfold slElem at hk
    split at hk
    · rename_i e hu
      obtain ⟨l1, l2, ys, l3, l4⟩ := listA_ok (P := P) hxs hr hx
      rw [minN_eq] at h l1 l4
      have hlen := lenA_ok (P := P) hsl hx
      have hw : ({ w with drawn := w.drawn } : World) = w := rfl
      have l5 := l4 w.drawn
      rw [hw] at l5
      have hsz : (sizeOf e).run P w = .ok k w := run_sizeOf' hk w
      generalize hm : Nat.min sl dl = m at h l1 l4 l5
      -- the destination's base, and where the cells go
      have key : ∃ base' dc, s' = .slice base' dl dc ∧ ((m = 0 ∧ v = .int .i64 (.ofNat 0) ∧ st' = st) ∨ ∃ nm off kk, base = some ⟨nm, off, none⟩ ∧ σ nm = some kk ∧ base' = some ⟨kk.b, kk.o + off, none⟩ ∧
          ∃ w', (storeCells ⟨kk.b, kk.o + off, none⟩ ys).run P w = .ok () w' ∧ v = .int .i64 (.ofNat m) ∧ Rel σ st' w' ∧ Ext σ st w σ st' w') := by
        unfold copyTo at h
        cases hb : Nat.beq m 0 with
        | true =>
          rw [hb] at h
          have hm0 := beq_iff.1 hb
          subst hm0
          obtain ⟨rfl, rfl⟩ := Re.ok_inj h
          generalize hv : Value.slice base dl c = u at hs
          cases hs with
          | nilslice => cases hv; exact ⟨none, 0, rfl, .inl ⟨rfl, rfl, rfl⟩⟩
          | slice nm off n c2 c3 kk hkk h1 h2 h3 => cases hv; exact ⟨_, _, rfl, .inl ⟨rfl, rfl, rfl⟩⟩
          | void a c' => simp only [voidS, Value.slice.injEq] at hv; obtain ⟨rfl, rfl, rfl⟩ := hv; exact ⟨_, _, rfl, .inl ⟨rfl, rfl, rfl⟩⟩
          | _ => cases hv
        | false =>
          rw [hb] at h
          obtain ⟨a, rfl, h⟩ := osel_ne h Re.no_ne
          obtain ⟨d, mm, es, ex, tr, ho, h⟩ := cellsK_ok h Re.no_ne
          obtain ⟨hle, h⟩ := bsel_ne h Re.no_ne
          have hle : a.off + m * k ≤ mm := ble_iff.1 hle
          obtain ⟨rfl, rfl⟩ := Re.ok_inj h
          generalize hv : Value.slice (some a) dl c = u at hs
          cases hs with
          | slice nm off n c2 c3 kk hkk h1 h2 h3 =>
            cases hv
            obtain ⟨w', s1, s2, s3⟩ := hr.over (P := P) hkk ho (off := off) l3 l2 (by rw [l1]; exact hle) (t' := Bt.put tr (half d) off xs) (fun hp => ⟨(Bt.put_perf hp).1, rfl⟩)
            exact ⟨_, _, rfl, .inr ⟨nm, off, kk, rfl, hkk, rfl, w', s1, rfl, s2, s3⟩⟩
          | void a' c' =>
            simp only [voidS, Value.slice.injEq, Option.some.injEq] at hv
            obtain ⟨rfl, _⟩ := hv
            rw [St.obj_eq, objAt_big (by simp [voidNm])] at ho
            cases ho
          | _ => cases hv
      obtain ⟨base', dc, rfl, hc⟩ := key
      rcases hc with ⟨rfl, rfl, rfl⟩ | ⟨nm, off, kk, rfl, hkk, rfl, w', s1, rfl, s2, s3⟩
      · have hy : ys = [] := List.eq_nil_of_length_eq_zero (by rw [← l3.1, l1]; simp)
        subst hy
        refine ⟨σ, w, .int .i64 (.ofNat 0), ?_, .int _ _, hr, .refl σ st' w⟩
        cases base' with
        | none => simp [Builtin.copy_, ht, run_underlying hu, hlen, hm, hsz, l5, goInt]
        | some a => simp [Builtin.copy_, ht, run_underlying hu, hlen, hm, hsz, l5, goInt, storeCells]
      · refine ⟨σ, w', .int .i64 (.ofNat m), ?_, .int _ _, s2, s3⟩
        simp [Builtin.copy_, ht, run_underlying hu, hlen, hm, hsz, l5, s1, goInt]
    · cases hk
  · cases h

theorem builtin_ok {b : Builtin} {ts : Array TypeId} {ty : TypeId} {consts : Array Bool} {xs ys : List Value} {v : Value} (h : builtinA P b ts xs st = .ok v st') (hr : Rel σ st w) (hx : VRL σ xs ys) :
    Does P (builtin b ts ty consts ⟨ys⟩) σ st w v st' := by
  unfold builtinA at h
  split at h
  · rename_i s x
    obtain ⟨s', r, rfl, hs, hx⟩ := hx.cons_inv
    obtain ⟨x', r', rfl, hx1, hx⟩ := hx.cons_inv
    have := hx.nil_inv; subst this
    exact (append_ok h hr hs hx1).does
  · rename_i s x
    obtain ⟨s', r, rfl, hs, hx⟩ := hx.cons_inv
    obtain ⟨x', r', rfl, hx1, hx⟩ := hx.cons_inv
    have := hx.nil_inv; subst this
    exact (copy_ok h hr hs hx1).does
  · rename_i x
    obtain ⟨x', r', rfl, hx1, hx⟩ := hx.cons_inv
    have := hx.nil_inv; subst this
    split at h
    · rename_i t ht
      obtain ⟨h, rfl⟩ := reO_ok h
      exact (lenK_ok ht h hr hx1).does hr
    · cases h
  · rename_i x
    obtain ⟨x', r', rfl, hx1, hx⟩ := hx.cons_inv
    have := hx.nil_inv; subst this
    split at h
    · rename_i t ht
      obtain ⟨hb, h⟩ := bsel_ne h Re.no_ne
      obtain ⟨h, rfl⟩ := reO_ok h
      exact (capK_ok ht hb h hr hx1).does hr
    · cases h
  · obtain ⟨h2, rfl⟩ := reO_ok h
    exact (minMax_ok (b := true) (ts := ts) (ty := ty) h2 hx).does hr
  · obtain ⟨h2, rfl⟩ := reO_ok h
    exact (minMax_ok (b := false) (ts := ts) (ty := ty) h2 hx).does hr
  · cases h
end
end Go.Proofs.YtieclenlldjfjaaGreat.Ev
