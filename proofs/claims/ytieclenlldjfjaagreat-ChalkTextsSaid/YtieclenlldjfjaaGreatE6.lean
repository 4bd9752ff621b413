import Derived.Test.YtieclenlldjfjaaGreatE5
import Derived.Laws.BytesString
set_option autoImplicit false
set_option linter.unusedVariables false
set_option linter.unusedSimpArgs false
namespace Go.Proofs.YtieclenlldjfjaaGreat.Ev
open Go
section
variable {P : Program} {σ : Nm} {st st' : St} {w : World}

/-! ## Conversions -/
theorem cvOf_int {s d : TypeId} {k : IntKind} (h : cvOf P s d = .int k) : ∃ ds, P.underlying s = some ds ∧ P.underlying d = some (.int k) := by
  unfold cvOf at h
  split at h
  · rename_i ds k' h1 h2; cases h; exact ⟨ds, h1, h2⟩
  · cases h
  · split at h <;> cases h
  · cases h
theorem cvOf_str {s d : TypeId} (h : cvOf P s d = .str) : P.underlying s = some .string ∧ P.underlying d = some .string := by
  unfold cvOf at h
  split at h
  · cases h
  · exact ⟨by assumption, by assumption⟩
  · split at h <;> cases h
  · cases h
theorem cvOf_bytes {s d : TypeId} (h : cvOf P s d = .bytes) : ∃ e, P.underlying s = some (.slice e) ∧ P.underlying d = some .string ∧ P.underlying e = some (.int .u8) := by
  unfold cvOf at h
  split at h
  · cases h
  · cases h
  · rename_i e h1 h2
    split at h
    · rename_i h3; exact ⟨e, h1, h2, h3⟩
    · cases h
  · cases h

theorem u8s_ok : ∀ {xs ys : List Value} {ns : List Int}, u8s xs = some ns → VRL σ xs ys → ys = ns.map (Value.int .u8)
  | [], ys, ns, h, hx => by
    cases h
    rw [hx.nil_inv]; rfl
  | x :: xs, ys, ns, h, hx => by
    obtain ⟨b, bs, rfl, h1, h2⟩ := hx.cons_inv
    have h : u8c x (u8s xs) = some ns := h
    unfold u8c at h
    split at h
    · obtain ⟨ms, hm, h⟩ := osel_ne h (by simp)
      cases h
      rw [int_inv h1, u8s_ok hm h2]
      rfl
    · cases h

theorem convK_ok {s d : TypeId} {x x' v : Value} (h : convK (cvOf P s d) x st = some v) (hr : Rel σ st w) (hx : VR σ x x') : Gives P (convert s d x') σ w v := by
  unfold convK at h
  split at h
  · rename_i k kk n hc
    cases h
    obtain ⟨ds, h1, h2⟩ := cvOf_int hc
    rw [int_inv hx]
    refine ⟨.int k (k.wrap n), ?_, by rw [wrapF_eq]; exact .int _ _⟩
    simp [convert, run_underlying h1, run_underlying h2, Conv.intToInt]
  · rename_i b hc
    cases h
    obtain ⟨h1, h2⟩ := cvOf_str hc
    rw [string_inv hx]
    exact ⟨.string b, by simp [convert, run_underlying h1, run_underlying h2], .string b⟩
  · rename_i n c hc
    cases h
    obtain ⟨e, h1, h2, h3⟩ := cvOf_bytes hc
    cases hx with
    | nilslice =>
      refine ⟨.string .empty, ?_, .string _⟩
      rw [run_convert_bytes_string w s d e _ _ _ h1 h3 h2]
      simp [Conv.bytesToString]
  · rename_i a n c hc
    obtain ⟨e, h1, h2, h3⟩ := cvOf_bytes hc
    have zero : ∀ (ad : Addr) (cc : Nat), n = 0 → (convert s d (.slice (some ad) n cc)).run P w = .ok (strOf []) w := by
      intro ad cc hn
      subst hn
      rw [run_convert_bytes_string w s d e _ _ _ h1 h3 h2, run_bytesToString w ad 0 cc [] (by simp [loadCells, loadCellsFrom])]
      rfl
    by_cases hn : n = 0
    · have hb : Nat.beq n 0 = true := beq_iff.2 hn
      rw [hb, bsel_true] at h
      cases h
      cases hx with
      | slice nm off _ _ c' k hk _ _ _ => exact ⟨_, zero _ _ hn, .string _⟩
      | void ad c' => exact ⟨_, zero ad c' hn, .string _⟩
    · have hb : Nat.beq n 0 = false := by cases hb : Nat.beq n 0 <;> first | rfl | exact absurd (beq_iff.1 hb) hn
      rw [hb, bsel_false] at h
      obtain ⟨dd, m, es, ex, tr, ho, h⟩ := cellsK_ok h (by simp)
      obtain ⟨hb, h⟩ := bsel_ne h (by simp)
      obtain ⟨ns, hns, h⟩ := osel_ne h (by simp)
      cases h
      cases hx with
      | slice nm off _ _ c' k hk hnc _ _ =>
        have hb : off + n ≤ m := ble_iff.1 hb
        obtain ⟨ha, g1, g2, g3, g4, g0, cc, ee, g5, g6, g7, g8⟩ := hr.at hk ho (by simp)
        rw [Bt.sub_eq g3, List.append_nil] at hns
        have e1 : Nat.add off n - off = n := by show off + n - off = n; omega
        rw [e1] at hns
        have hh := u8s_ok hns (seg_rel g8 (off := off) (m := n) hb)
        refine ⟨_, ?_, .string _⟩
        rw [run_convert_bytes_string w s d e _ _ _ h1 h3 h2, run_bytesToString w _ n c' ns]
        rw [load_seg g5 (by omega), hh]
      | void ad c' => exact absurd rfl hn
  · cases h

/-! ## Slices -/
def OVR (σ : Nm) : Option Value → Option Value → Prop
  | none, none => True
  | some a, some b => VR σ a b
  | _, _ => False

theorem bound_ok {v v' : Value} {y i : Nat} (h : bound v y = some i) (hv : VR σ v v') : i ≤ y ∧ ∃ k, v' = .int k (.ofNat i) := by
  unfold bound at h
  obtain ⟨k, j, rfl, h⟩ := natK_ok h (by simp)
  obtain ⟨hb, h⟩ := bsel_ne h (by simp)
  cases h
  exact ⟨ble_iff.1 hb, k, int_inv hv⟩

theorem run_sliceBound {k : IntKind} {i y : Nat} (h : i ≤ y) (code : BoundsCode) (w : World) : (Instr.sliceBound (.int k (.ofNat i)) y code).run P w = .ok i w := by
  unfold Instr.sliceBound
  have h0 : (0 : Int) ≤ Int.ofNat i ∧ Int.ofNat i ≤ (y : Int) := ⟨by simp, by simp; omega⟩
  simp only [Sem.run_bind, asIntOf, Sem.run_pure, Result.andThen_ok]
  rw [if_pos h0]
  rfl

theorem run_sliceBounds {isS : Bool} {len cap cap' h l : Nat} {lo hi lo' hi' : Option Value} (hh : boundO hi cap len = some h) (hl : boundO lo h 0 = some l) (hc : cap ≤ cap') (hlc : len ≤ cap)
    (h1 : OVR σ lo lo') (h2 : OVR σ hi hi') (w : World) : (Instr.sliceBounds isS len cap' lo' hi' none).run P w = .ok (l, h, cap') w ∧ h ≤ cap ∧ l ≤ h := by
  have hhi : h ≤ cap ∧ ((match hi' with | some v => Instr.sliceBound v cap' (if isS then .sliceAcap else .sliceAlen) | none => pure len) : Sem Nat).run P w = .ok h w := by
    cases hi with
    | none =>
      cases hi' with
      | none => cases hh; exact ⟨hlc, rfl⟩
      | some _ => exact h2.elim
    | some v =>
      cases hi' with
      | none => exact h2.elim
      | some v' =>
        obtain ⟨a, k, rfl⟩ := bound_ok hh h2
        exact ⟨a, run_sliceBound (by omega) _ w⟩
  have hlo : l ≤ h ∧ ((match lo' with | some v => Instr.sliceBound v h .sliceB | none => pure 0) : Sem Nat).run P w = .ok l w := by
    cases lo with
    | none =>
      cases lo' with
      | none => cases hl; exact ⟨Nat.zero_le _, rfl⟩
      | some _ => exact h1.elim
    | some v =>
      cases lo' with
      | none => exact h1.elim
      | some v' =>
        obtain ⟨a, k, rfl⟩ := bound_ok hl h1
        exact ⟨a, run_sliceBound a _ w⟩
  refine ⟨?_, hhi.1, hlo.1⟩
  unfold Instr.sliceBounds
  cases hi' with
  | none =>
    cases lo' with
    | none => simp_all
    | some _ => simp_all
  | some _ =>
    cases lo' with
    | none => simp_all
    | some _ => simp_all

theorem skOf_str {t : TypeId} (h : skOf P t = .str) : P.underlying t = some .string := by
  unfold skOf at h
  split at h
  · assumption
  · split at h <;> cases h
  · split at h <;> cases h
  · split at h
    · split at h <;> cases h
    · cases h
  · cases h
theorem skOf_sl {t : TypeId} {k : Nat} (h : skOf P t = .sl k) : ∃ e, P.underlying t = some (.slice e) ∧ tySize P e = some k := by
  unfold skOf at h
  split at h
  · cases h
  · rename_i e hu
    split at h
    · rename_i k' hk; cases h; exact ⟨e, hu, hk⟩
    · cases h
  · split at h <;> cases h
  · split at h
    · split at h <;> cases h
    · cases h
  · cases h
theorem skOf_arr {t : TypeId} {n k : Nat} (h : skOf P t = .arr n k) : ∃ e, tySize P e = some k ∧ (P.underlying t = some (.array n e) ∨ ∃ a, P.underlying t = some (.pointer a) ∧ P.underlying a = some (.array n e)) := by
  unfold skOf at h
  split at h
  · cases h
  · split at h <;> cases h
  · rename_i n' e hu
    split at h
    · rename_i k' hk; cases h; exact ⟨e, hk, .inl hu⟩
    · cases h
  · rename_i arr hu
    split at h
    · rename_i n' e hu2
      split at h
      · rename_i k' hk; cases h; exact ⟨e, hk, .inr ⟨arr, hu, hu2⟩⟩
      · cases h
    · cases h
  · cases h

theorem slice_run {t e : TypeId} {k n c l h m : Nat} {a : Option Addr} {lo hi : Option Value} (hu : P.underlying t = some (.slice e)) (hk : tySize P e = some k)
    (hb : (Instr.sliceBounds true n c lo hi none).run P w = .ok (l, h, m) w) :
    (Instr.sliceAt t (.slice a n c) lo hi none).run P w = .ok (.slice (if m = l then a else a.map (·.add (l * k))) (h - l) (m - l)) w := by
  unfold Instr.sliceAt
  rw [Sem.run_bind, run_underlying hu, Result.andThen_ok]
  show (Instr.slice t (.slice a n c) lo hi none).run P w = _
  unfold Instr.slice
  rw [Sem.run_bind, run_underlying hu, Result.andThen_ok]
  simp only [Sem.run_bind, hb, Result.andThen_ok, run_sizeOf' hk, Sem.run_pure]

theorem arr_run {t e : TypeId} {k n l h : Nat} {a : Addr} {lo hi : Option Value} (hu : P.underlying t = some (.array n e) ∨ ∃ a, P.underlying t = some (.pointer a) ∧ P.underlying a = some (.array n e)) (hk : tySize P e = some k)
    (hb : (Instr.sliceBounds false n n lo hi none).run P w = .ok (l, h, n) w) :
    (Instr.sliceAt t (.pointer (some a)) lo hi none).run P w = .ok (.slice (some (if n = l then a else a.add (l * k))) (h - l) (n - l)) w := by
  unfold Instr.sliceAt
  rcases hu with hu | ⟨arr, hu, hu2⟩
  · rw [Sem.run_bind, run_underlying hu, Result.andThen_ok]
    simp only [Sem.run_bind, Instr.sureAddr, hb, Result.andThen_ok, run_sizeOf' hk, Sem.run_pure]
  · rw [Sem.run_bind, run_underlying hu, Result.andThen_ok]
    show (Instr.slice t _ lo hi none).run P w = _
    unfold Instr.slice
    rw [Sem.run_bind, run_underlying hu, Result.andThen_ok]
    simp only [Sem.run_bind, asAddr, run_underlying hu2, hb, Result.andThen_ok, run_sizeOf' hk, Sem.run_pure]

theorem sliceK_ok {t : TypeId} {x x' v : Value} {lo hi lo' hi' : Option Value} (h : sliceK (skOf P t) x lo hi st = some v) (hr : Rel σ st w) (hx : VR σ x x') (h1 : OVR σ lo lo') (h2 : OVR σ hi hi') :
    Gives P (Instr.sliceAt t x' lo' hi' none) σ w v := by
  unfold sliceK at h
  split at h
  · rename_i s hs
    have hu := skOf_str hs
    obtain ⟨hh, e1, h⟩ := osel_ne h (by simp)
    obtain ⟨l, e2, h⟩ := osel_ne h (by simp)
    cases h
    rw [string_inv hx]
    obtain ⟨hb, _, _⟩ := run_sliceBounds (P := P) (isS := false) e1 e2 (Nat.le_refl _) (Nat.le_refl _) h1 h2 w
    refine ⟨.string (s.extract l hh), ?_, .string _⟩
    unfold Instr.sliceAt
    rw [Sem.run_bind, run_underlying hu, Result.andThen_ok]
    show (Instr.slice t _ lo' hi' none).run P w = _
    unfold Instr.slice
    rw [Sem.run_bind, run_underlying hu, Result.andThen_ok]
    simp [hb]
  · rename_i k hs
    obtain ⟨e, hu, hk⟩ := skOf_sl hs
    obtain ⟨hh, e1, h⟩ := osel_ne h (by simp)
    obtain ⟨l, e2, h⟩ := osel_ne h (by simp)
    cases h
    cases hx with
    | nilslice =>
      obtain ⟨hb, b1, b2⟩ := run_sliceBounds (P := P) (isS := true) e1 e2 (Nat.le_refl 0) (Nat.le_refl 0) h1 h2 w
      have : hh = 0 := by omega
      have : l = 0 := by omega
      subst this; subst hh
      exact ⟨_, slice_run hu hk hb, by simp; exact .nilslice⟩
  · rename_i k a n c hs
    obtain ⟨e, hu, hk⟩ := skOf_sl hs
    unfold sliceRow at h
    by_cases hv : a.block = voidNm
    · rw [beq_iff.2 hv, bsel_true] at h
      obtain ⟨hh, e1, h⟩ := osel_ne h (by simp)
      obtain ⟨l, e2, h⟩ := osel_ne h (by simp)
      cases h
      cases hx with
      | slice nm off _ _ c' kk hkk hnc _ _ =>
        have h1 := hr.name_lt hkk
        have h2 := hr.lim
        have hv : nm = 1073741824 := hv
        omega
      | void ad c' =>
        obtain ⟨hb, b1, b2⟩ := run_sliceBounds (P := P) (isS := true) (cap' := c') e1 e2 (Nat.zero_le _) (Nat.le_refl 0) h1 h2 w
        have : hh = 0 := by omega
        have : l = 0 := by omega
        subst this; subst hh
        refine ⟨_, slice_run hu hk hb, ?_⟩
        split
        · exact .void _ _
        · exact .void _ _
    · have hb : Nat.beq a.block voidNm = false := by cases hb : Nat.beq a.block voidNm <;> first | rfl | exact absurd (beq_iff.1 hb) hv
      rw [hb, bsel_false] at h
      obtain ⟨d, m, es, ex, tr, ho, h⟩ := cellsK_ok h (by simp)
      obtain ⟨hh, e1, h⟩ := osel_ne h (by simp)
      obtain ⟨l, e2, h⟩ := osel_ne h (by simp)
      cases hx with
      | void ad c' => exact absurd rfl hv
      | slice nm off _ _ c' kk hkk hnc x1 x2 =>
        obtain ⟨ha, g1, g2, g3, g4, g0, cc, ee, g5, g6, g7, g8⟩ := hr.at hkk ho (by simp)
        have hcc : c ≤ c' := by
          cases hex : kk.ex with
          | true => rw [x1 hex]; exact Nat.le_refl _
          | false => exact (x2 hex).1
        obtain ⟨hb, b1, b2⟩ := run_sliceBounds (P := P) (isS := true) (cap' := c') e1 e2 hcc hnc h1 h2 w
        refine ⟨_, slice_run hu hk hb, ?_⟩
        by_cases hl0 : l = 0
        · subst hl0
          rw [beq_iff.2 rfl, bsel_true] at h
          cases h
          have e3 : (if c' = 0 then some (⟨kk.b, kk.o + off, none⟩ : Addr) else (some (⟨kk.b, kk.o + off, none⟩ : Addr)).map (·.add (0 * k))) = some ⟨kk.b, kk.o + off, none⟩ := by
            split
            · rfl
            · simp [Addr.add]
          rw [e3, Nat.sub_zero, Nat.sub_zero]
          exact .slice nm off hh c c' kk hkk b1 x1 x2
        · have hb0 : Nat.beq l 0 = false := by cases hb : Nat.beq l 0 <;> first | rfl | exact absurd (beq_iff.1 hb) hl0
          rw [hb0, bsel_false] at h
          by_cases hcl : c = l
          · subst hcl
            rw [beq_iff.2 rfl, bsel_true] at h
            cases h
            have : hh - c = 0 := by omega
            rw [this]
            split
            · exact .void _ _
            · exact .void _ _
          · have hb1 : Nat.beq c l = false := by cases hb : Nat.beq c l <;> first | rfl | exact absurd (beq_iff.1 hb) hcl
            rw [hb1, bsel_false] at h
            obtain ⟨hes, h⟩ := bsel_ne h (by simp)
            have hes : es = k := beq_iff.1 hes
            cases h
            have hne : c' ≠ l := by omega
            rw [if_neg hne]
            have e4 : (some (⟨kk.b, kk.o + off, none⟩ : Addr)).map (·.add (l * k)) = some ⟨kk.b, kk.o + (off + l * k), none⟩ := by
              simp [ptr_add, Nat.add_assoc]
            rw [e4]
            refine .slice nm (off + l * k) (hh - l) (c - l) (c' - l) kk hkk (by omega) (fun he => by rw [x1 he]) (fun he => ?_)
            obtain ⟨y1, y2⟩ := x2 he
            refine ⟨by omega, ?_⟩
            have hle : l ≤ c' := by omega
            have e5 : l * k + (c' - l) * kk.es = c' * kk.es := by
              rw [g1, hes, ← Nat.add_mul]
              congr 1
              omega
            omega
  · rename_i n k a hs
    obtain ⟨e, hk, hu⟩ := skOf_arr hs
    unfold sliceArr at h
    obtain ⟨d, m, es, ex, tr, ho, h⟩ := cellsK_ok h (by simp)
    cases hex : ex with
    | false => rw [hex] at h; cases h
    | true =>
      rw [hex] at h
      have h : (osel (boundO hi n n) none fun hh => osel (boundO lo hh 0) none fun l => bsel (Nat.beq n l) (some (Value.slice (some ⟨a.block, a.off, none⟩) 0 0)) (some (.slice (some ⟨a.block, a.off + l * k, none⟩) (hh - l) (n - l)))) = some v := h
      obtain ⟨hh, e1, h⟩ := osel_ne h (by simp)
      obtain ⟨l, e2, h⟩ := osel_ne h (by simp)
      obtain ⟨kk, hkk, rfl⟩ := ptr_inv hx
      obtain ⟨ha, g1, g2, g3, g4, g0, cc, ee, g5, g6, g7, g8⟩ := hr.at hkk ho (by simp)
      obtain ⟨hb, b1, b2⟩ := run_sliceBounds (P := P) (isS := false) e1 e2 (Nat.le_refl n) (Nat.le_refl n) h1 h2 w
      refine ⟨_, arr_run hu hk hb, ?_⟩
      have hkx : kk.ex = true := by rw [g2, hex]
      by_cases hnl : n = l
      · subst hnl
        rw [beq_iff.2 rfl, bsel_true] at h
        cases h
        have : hh - n = 0 := by omega
        rw [this, if_pos rfl, Nat.sub_self]
        exact .slice a.block a.off 0 0 0 kk hkk (Nat.le_refl _) (fun _ => rfl) (fun he => by rw [hkx] at he; cases he)
      · have hb1 : Nat.beq n l = false := by cases hb : Nat.beq n l <;> first | rfl | exact absurd (beq_iff.1 hb) hnl
        rw [hb1, bsel_false] at h
        cases h
        rw [if_neg hnl, ptr_add, Nat.add_assoc]
        exact .slice a.block (a.off + l * k) (hh - l) (n - l) (n - l) kk hkk (by omega) (fun _ => rfl) (fun he => by rw [hkx] at he; cases he)
  · cases h

/-! ## Lengths -/
def LnOk (P : Program) (t : TypeId) : Ln → Prop
  | .no => True
  | .str => P.underlying t = some .string
  | .sl => ∃ e, P.underlying t = some (.slice e)
  | .map => ∃ k e, P.underlying t = some (.map k e)
  | .arr n => (∃ e, P.underlying t = some (.array n e)) ∨ ∃ a e, P.underlying t = some (.pointer a) ∧ P.underlying a = some (.array n e)

theorem lnOf_ok (P : Program) (t : TypeId) : LnOk P t (lnOf P t) := by
  unfold lnOf
  split
  · assumption
  · exact .inl ⟨_, by assumption⟩
  · split
    · exact .inr ⟨_, _, by assumption, by assumption⟩
    · trivial
  · exact ⟨_, by assumption⟩
  · exact ⟨_, _, by assumption⟩
  · trivial

theorem lenK_ok {t ty : TypeId} {ts : Array TypeId} {x x' v : Value} (ht : ts[0]? = some t) (h : lenK (lnOf P t) x st = some v) (hr : Rel σ st w) (hx : VR σ x x') :
    Gives P (Builtin.len_ ts ty #[x']) σ w v := by
  have hl := lnOf_ok P t
  unfold lenK at h
  split at h
  · rename_i n c hq
    rw [hq] at hl
    obtain ⟨e, hu⟩ := hl
    cases h
    cases hx with
    | nilslice => exact ⟨goInt 0, by simp [Builtin.len_, ht, run_underlying hu], .int _ _⟩
    | slice nm off n c c' k hk _ _ _ => exact ⟨goInt n, by simp [Builtin.len_, ht, run_underlying hu], .int _ _⟩
    | void a c' => exact ⟨goInt 0, by simp [Builtin.len_, ht, run_underlying hu], .int _ _⟩
  · rename_i s hq
    rw [hq] at hl
    have hu : P.underlying t = some .string := hl
    cases h
    rw [string_inv hx]
    exact ⟨goInt s.size, by simp [Builtin.len_, ht, run_underlying hu], .int _ _⟩
  · rename_i n hq
    rw [hq] at hl
    cases h
    rcases hl with ⟨e, hu⟩ | ⟨a, e, hu, hu2⟩
    · refine ⟨goInt n, ?_, .int _ _⟩
      cases x' <;> simp [Builtin.len_, ht, run_underlying hu]
    · refine ⟨goInt n, ?_, .int _ _⟩
      cases x' <;> simp [Builtin.len_, ht, run_underlying hu, run_underlying hu2]
  · rename_i hq
    rw [hq] at hl
    obtain ⟨k, e, hu⟩ := hl
    cases h
    cases hx
    exact ⟨goInt 0, by simp [Builtin.len_, ht, run_underlying hu], .int _ _⟩
  · rename_i r hq
    rw [hq] at hl
    obtain ⟨kt, e, hu⟩ := hl
    split at h
    · rename_i es clock ho
      cases h
      cases hx with
      | map nm k hk =>
        obtain ⟨ha, es', g1, g2⟩ := hr.at hk ho (by simp)
        refine ⟨goInt es'.length, ?_, by rw [g2.1]; exact .int _ _⟩
        simp [Builtin.len_, ht, run_underlying hu, getObj, Sem.run, g1]
    · cases h
  · cases h

theorem isSl_ok {t : TypeId} (h : isSl P t = true) : ∃ e, P.underlying t = some (.slice e) := by
  unfold isSl at h
  split at h
  · exact ⟨_, by assumption⟩
  · cases h

theorem capK_ok {t ty : TypeId} {ts : Array TypeId} {x x' v : Value} (ht : ts[0]? = some t) (hs : isSl P t = true) (h : capK x st = some v) (hr : Rel σ st w) (hx : VR σ x x') :
    Gives P (Builtin.cap_ ts ty #[x']) σ w v := by
  obtain ⟨e, hu⟩ := isSl_ok hs
  unfold capK at h
  split at h
  · cases h
    cases hx with
    | nilslice => exact ⟨goInt 0, by simp [Builtin.cap_, ht, run_underlying hu], .int _ _⟩
  · rename_i a n c
    obtain ⟨d, m, es, ex, tr, ho, h⟩ := cellsK_ok h (by simp)
    obtain ⟨hex, h⟩ := bsel_ne h (by simp)
    cases h
    cases hx with
    | void ad c' =>
      exfalso
      have : st.obj voidNm = .dead := by rw [St.obj_eq]; exact objAt_big (by decide)
      rw [this] at ho; cases ho
    | slice nm off _ _ c' k hk hnc x1 x2 =>
      obtain ⟨ha, g1, g2, _⟩ := hr.at hk ho (by simp)
      have := x1 (by rw [g2]; exact hex)
      subst this
      exact ⟨goInt c', by simp [Builtin.cap_, ht, run_underlying hu], .int _ _⟩
  · cases h

theorem minMax_ok {b : Bool} {ts : Array TypeId} {ty : TypeId} : ∀ {xs ys : List Value} {v : Value}, minMaxA b xs = some v → VRL σ xs ys →
    Gives P (if b then Builtin.min_ ts ty ⟨ys⟩ else Builtin.max_ ts ty ⟨ys⟩) σ w v := by
  intro xs ys v h hx
  cases xs with
  | nil => cases h
  | cons x rest =>
    obtain ⟨y, ys', rfl, hxy, hrest⟩ := hx.cons_inv
    have key : ∀ (rest : List Value) (ys' : List Value) (acc acc' : Value), VRL σ rest ys' → VR σ acc acc' →
        ∀ v, (rest.foldl (init := some acc) fun acc y =>
          match acc, y with
          | some (.int k a), .int k' b' => bsel (kEq k k') (some (.int k (bsel b (bsel (ltI b' a) b' a) (bsel (ltI a b') b' a)))) none
          | _, _ => none) = some v →
        ∃ v', (ys'.foldlM (if b then Builtin.min2 else Builtin.max2) acc').run P w = .ok v' w ∧ VR σ v v' := by
      intro rest
      induction rest with
      | nil =>
        intro ys' acc acc' hl ha v h
        rw [hl.nil_inv]
        cases h
        exact ⟨acc', rfl, ha⟩
      | cons z rest ih =>
        intro ys' acc acc' hl ha v h
        obtain ⟨z', ys'', rfl, hz, hl'⟩ := hl.cons_inv
        rw [List.foldl_cons] at h
        have none_fold : ∀ (l : List Value), (l.foldl (init := (none : Option Value)) fun acc y =>
          match acc, y with
          | some (.int k a), .int k' b' => bsel (kEq k k') (some (.int k (bsel b (bsel (ltI b' a) b' a) (bsel (ltI a b') b' a)))) none
          | _, _ => none) = none := by
          intro l
          induction l with
          | nil => rfl
          | cons _ _ ih => rw [List.foldl_cons]; exact ih
        split at h
        · rename_i k a k' b' he
          cases he
          cases hk : kEq k k' with
          | false => rw [hk] at h; rw [bsel_false, none_fold] at h; cases h
          | true =>
            rw [hk, bsel_true] at h
            have hk := kEq_iff.1 hk
            subst hk
            rw [int_inv ha, int_inv hz]
            obtain ⟨v', h1, h2⟩ := ih ys'' _ _ hl' (.int k (if b then (if b' < a then b' else a) else (if b' > a then b' else a))) v (by
              rw [← h]
              congr 3
              cases b
              · simp only [bsel_false]; rw [bsel_eq, ltI_eq]; simp
              · simp only [bsel_true]; rw [bsel_eq, ltI_eq]; simp)
            refine ⟨v', ?_, h2⟩
            rw [List.foldlM_cons, Sem.run_bind]
            cases b
            · have : (Builtin.max2 (.int k a) (.int k b')).run P w = .ok (.int k (if b' > a then b' else a)) w := rfl
              simp only [Bool.false_eq_true, if_false] at h1 ⊢
              rw [this, Result.andThen_ok]
              exact h1
            · have : (Builtin.min2 (.int k a) (.int k b')).run P w = .ok (.int k (if b' < a then b' else a)) w := rfl
              simp only [if_true] at h1 ⊢
              rw [this, Result.andThen_ok]
              exact h1
        · rw [none_fold] at h; cases h
    obtain ⟨v', h1, h2⟩ := key rest ys' x y hrest hxy v h
    refine ⟨v', ?_, h2⟩
    cases b <;> exact h1
end
end Go.Proofs.YtieclenlldjfjaaGreat.Ev
