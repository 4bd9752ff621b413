import Derived.Test.YtnjmkdgglpcfpaaM9
import Derived.Test.YtnjmkdgglpcfpaaA35
import Derived.Test.YtnjmkdgglpcfpaaA49
namespace Go.Proofs.Ytnjmkdgglpcfpaa
set_option linter.unusedSimpArgs false
set_option linter.unusedVariables false
open Go.RowKit

/-! Plain maths: the two CheckFewest say the same. -/
theorem filt_one {q : Int → Bool} : ∀ (l : List Int), (l.filter q).length ≤ 1 ↔ l.Pairwise (fun y x => ¬ (q y = true ∧ q x = true))
  | [] => by simp
  | a :: l => by
    have ih := filt_one (q := q) l
    rw [List.pairwise_cons, List.filter_cons]
    cases h : q a with
    | false =>
      rw [if_neg (by simp), ih]
      constructor
      · exact fun hp => ⟨fun x _ hh => (by cases hh.1), hp⟩
      · exact fun hp => hp.2
    | true =>
      rw [if_pos rfl, List.length_cons]
      constructor
      · intro hle
        have he : l.filter q = [] := List.eq_nil_of_length_eq_zero (by omega)
        refine ⟨fun x hx hh => ?_, ih.1 (by rw [he]; simp)⟩
        have := List.filter_eq_nil_iff.1 he x hx
        exact this hh.2
      · rintro ⟨h1, _⟩
        have he : l.filter q = [] := List.filter_eq_nil_iff.2 fun x hx hq => h1 x hx ⟨rfl, hq⟩
        rw [he]
        simp
theorem op_open {C : Int} {cl : List Int} {t : Int} : t ∈ openL C cl ↔ Op C (isIn cl) t := by
  unfold openL
  rw [colsTo_mem]
  constructor
  · rintro ⟨i, hi, hp, rfl⟩
    exact ⟨by omega, by omega, by simpa using hp⟩
  · rintro ⟨h1, h2, h3⟩
    exact ⟨t.toNat, by omega, by simp [h3], by omega⟩
theorem colsTo_inM {C R B F : Int} {cl l : List Int} (hk : HolesOk C R B F cl l) (x : Int) : x ∈ colsTo (isIn (colm C l)) C.toNat ↔ x ∈ colm C l := by
  rw [colsTo_mem]
  constructor
  · rintro ⟨i, hi, hp, rfl⟩
    exact isIn_iff.1 hp
  · intro hx
    have := hk.cols x hx
    exact ⟨x.toNat, by omega, by rw [isIn_iff, Int.toNat_of_nonneg this.1]; exact hx, by omega⟩
theorem cols_eqM {C R B F : Int} {cl l : List Int} (hk : HolesOk C R B F cl l) : colsTo (isIn (colm C l)) C.toNat = cols (isIn (colm C l)) := by
  have := hk.ok.c3
  exact rise_ext _ _ (colsTo_rise _ _) (colsTo_rise _ _) fun x => by rw [colsTo_inM hk, cols_in (C := C) hk.ok.c120 (by omega) l]
theorem apart_holds {C R B F : Int} {cl l : List Int} (hk : HolesOk C R B F cl l) (s : Int) (L : List Int) : apartB C B F cl (colsTo (isIn (colm C l)) C.toNat) s L = true ↔ HoldsP C B F (isIn cl) (isIn (colm C l)) s L := by
  have k1 := hk.ok.c3
  have hrs : ∀ (t x : Int), 0 ≤ x → x < C → rch C B F t x = decide (x ∈ rchL C B t (B + F + 1).toNat) := fun t x h0 h1 => rch_same (by omega) hk.ok.b0 hk.ok.f0 hk.ok.bf h0 h1
  unfold apartB
  rw [Bool.and_eq_true, Bool.and_eq_true, decide_eq_true_eq, List.all_eq_true, List.all_eq_true]
  constructor
  · rintro ⟨⟨h1, h2⟩, h3⟩
    refine ⟨h1, fun x hx => ?_, List.pairwise_iff_getElem.2 fun i j hi hj hij => ?_⟩
    · have hb := h1.2 x hx
      have h := h2 x hx
      unfold apP at h
      rw [Bool.and_eq_true, decide_eq_true_eq, colsTo_inM hk] at h
      refine ⟨by rw [isIn_iff, Int.toNat_of_nonneg hb.1]; exact h.1, ?_⟩
      rw [hrs _ _ hb.1 hb.2]
      simpa using h.2
    · cases ht : tog C B F (isIn cl) L[j] L[i] with
      | false => rfl
      | true =>
        obtain ⟨t, hop, ha, hb⟩ := tog_iff.1 ht
        have h := of_decide_eq_true (h3 t (op_open.2 hop))
        unfold apN at h
        have hp := List.pairwise_iff_getElem.1 ((filt_one _).1 h) i j hi hj hij
        have bi := h1.2 _ (List.getElem_mem hi)
        have bj := h1.2 _ (List.getElem_mem hj)
        rw [hrs _ _ bj.1 bj.2] at ha
        rw [hrs _ _ bi.1 bi.2] at hb
        exact absurd ⟨hb, ha⟩ hp
  · rintro ⟨h1, h2, h3⟩
    refine ⟨⟨h1, fun x hx => ?_⟩, fun t ht => decide_eq_true ?_⟩
    · have hb := h1.2 x hx
      obtain ⟨g1, g2⟩ := h2 x hx
      unfold apP
      rw [Bool.and_eq_true, decide_eq_true_eq, colsTo_inM hk]
      rw [isIn_iff, Int.toNat_of_nonneg hb.1] at g1
      refine ⟨g1, ?_⟩
      rw [hrs _ _ hb.1 hb.2] at g2
      simpa using g2
    · unfold apN
      refine (filt_one _).2 (List.pairwise_iff_getElem.2 fun i j hi hj hij => ?_)
      rintro ⟨ha, hb⟩
      have bi := h1.2 _ (List.getElem_mem hi)
      have bj := h1.2 _ (List.getElem_mem hj)
      have hp := List.pairwise_iff_getElem.1 h3 i j hi hj hij
      rw [← hrs _ _ bi.1 bi.2] at ha
      rw [← hrs _ _ bj.1 bj.2] at hb
      rw [tog_iff.2 ⟨t, op_open.1 ht, hb, ha⟩] at hp
      cases hp
theorem shown_same {C R B F : Int} {cl l : List Int} (hk : HolesOk C R B F cl l) (fs : List Int) (n : Int) (cuts : List (Int × List Int)) : ShownP C B F (isIn cl) (isIn (colm C l)) fs cuts n ↔ (cuts.length = fs.length ∧ (fs.zip cuts).all (cutOk C B F cl (colsTo (isIn (colm C l)) C.toNat) n) = true) := by
  unfold ShownP
  refine and_congr_right fun hlen => ?_
  rw [List.all_eq_true]
  constructor
  · intro h p hp
    obtain ⟨k, hk1, rfl⟩ := List.mem_iff_getElem.1 hp
    rw [List.length_zip] at hk1
    obtain ⟨g1, g2, g3⟩ := h k (by omega) (by omega)
    rw [List.getElem_zip]
    unfold cutOk
    rw [Bool.and_eq_true, Bool.and_eq_true, decide_eq_true_eq, decide_eq_true_eq, apart_holds hk]
    exact ⟨g1, g2, g3⟩
  · intro h k h1 h2
    have := h (fs[k], cuts[k]) (List.mem_iff_getElem.2 ⟨k, by rw [List.length_zip]; omega, List.getElem_zip⟩)
    unfold cutOk at this
    rw [Bool.and_eq_true, Bool.and_eq_true, decide_eq_true_eq, decide_eq_true_eq, apart_holds hk] at this
    exact this
theorem okp_same {C R B F : Int} {cl l st : List Int} {cuts : List (Int × List Int)} (hk : HolesOk C R B F cl l) (hst : st.length ≤ 200) : roundOk C B F cl (colsTo (isIn (colm C l)) C.toNat) st cuts = true ↔ OkP C R B F cl l st cuts := by
  have k1 := hk.ok.c3
  have hz : holesErr C R B F cl l = 0 := holesErr_zero.2 hk
  have hle : leftErr C R B F cl l st = 0 ↔ (Rise C st ∧ ∀ x ∈ st, x ∉ cl) := by
    unfold leftErr standsErr
    rw [if_neg (by simp [hz]), if_neg (by omega)]
    constructor
    · intro h
      split at h
      · assumption
      · cases h
    · intro h
      rw [if_pos h]
  have hemp : ((colsTo (isIn (colm C l)) C.toNat).filter fun x => !anyR C B F st x) = [] ↔ cols (leftP C B F (isIn (colm C l)) st) = [] := by
    rw [List.eq_nil_iff_forall_not_mem, List.eq_nil_iff_forall_not_mem]
    refine forall_congr' fun x => not_congr ?_
    rw [List.mem_filter, colsTo_inM hk, left_mem hk]
    simp
  have hall : (match colsTo (isIn (colm C l)) C.toNat with
      | [] => st.isEmpty && cuts.isEmpty
      | c :: _ => decide (cuts.length = (rstL C B F cl c).length) && ((rstL C B F cl c).zip cuts).all (cutOk C B F cl (colsTo (isIn (colm C l)) C.toNat) st.length)) = true ↔ ShownAll C B F (isIn cl) (isIn (colm C l)) cuts st.length := by
    unfold ShownAll
    rw [← cols_eqM hk]
    cases hc : colsTo (isIn (colm C l)) C.toNat with
    | nil => simp [List.isEmpty_iff]
    | cons c cs =>
      have hb := hk.cols c ((colsTo_inM hk c).1 (by rw [hc]; simp))
      have := shown_same hk (opens C B F (isIn cl) c) st.length cuts
      rw [hc] at this
      show _ ↔ ShownP _ _ _ _ _ _ _ _
      rw [this, opens_same (by omega) hk.ok.b0 hk.ok.f0 hk.ok.bf hb.1 hb.2, Bool.and_eq_true, decide_eq_true_eq]
  unfold roundOk OkP
  rw [Bool.and_eq_true, Bool.and_eq_true, decide_eq_true_eq, hle, List.isEmpty_iff, hemp]
  refine and_congr_right fun h => ?_
  unfold leftL
  rw [if_pos (hle.2 h)]
  exact and_congr_right fun _ => hall
/-- what the reference's CheckFewest says is what the program's says -/
theorem few_same {C R B F : Int} {cl l st : List Int} {cuts : List (Int × List Int)} : (holesErr C R B F cl l ≠ 0 → ckFew C R B F cl l st cuts = holesErr C R B F cl l) ∧ (HolesOk C R B F cl l → LongP st cuts → ckFew C R B F cl l st cuts = 2) ∧ (HolesOk C R B F cl l → ¬ LongP st cuts → OkP C R B F cl l st cuts → ckFew C R B F cl l st cuts = 0) ∧ (HolesOk C R B F cl l → ¬ LongP st cuts → ¬ OkP C R B F cl l st cuts → ckFew C R B F cl l st cuts = 8) := by
  refine ⟨fun h => if_pos h, fun hk hL => ?_, fun hk hL ho => ?_, fun hk hL ho => ?_⟩
  all_goals (have hz : holesErr C R B F cl l = 0 := holesErr_zero.2 hk; unfold ckFew LongP at *; rw [if_neg (by simp [hz])])
  · by_cases h1 : 200 < st.length ∨ 200 < cuts.length
    · rw [if_pos h1]
    · rw [if_neg h1]
      rcases hL with h | h | h
      · exact absurd (.inl h) h1
      · exact absurd (.inr h) h1
      · rw [if_pos h]
  · rw [if_neg (fun h => hL (h.elim .inl fun h => .inr (.inl h))), if_neg (fun h => hL (.inr (.inr h))), if_pos ((okp_same hk (by omega)).2 ho)]
  · rw [if_neg (fun h => hL (h.elim .inl fun h => .inr (.inl h))), if_neg (fun h => hL (.inr (.inr h))), if_neg fun h => ho ((okp_same hk (by omega)).1 h)]

end Go.Proofs.Ytnjmkdgglpcfpaa
