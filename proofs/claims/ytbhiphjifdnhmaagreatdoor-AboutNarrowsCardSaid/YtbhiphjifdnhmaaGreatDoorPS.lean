import Derived.Test.YtbhiphjifdnhmaaGreatDoorPQ
import Derived.Test.YtbhiphjifdnhmaaGreatDoorM8
set_option linter.unusedSimpArgs false
set_option linter.unusedVariables false
/- Plain maths: a definition with a narrower day. -/
namespace Go.Proofs.YtbhiphjifdnhmaaGreatDoor
open Go.RowKit Go.Maps
/-- a right day that lies in another one -/
structure Ins (a b : Nat → Int) : Prop where
  l : VOk a
  r : VOk b
  sub : ∀ i, i < 12 → b (2 * i) ≤ a (2 * i) ∧ a (2 * i + 1) ≤ b (2 * i + 1)
theorem ins_iff {a b : Nat → Int} : holdsV a b = true ↔ Ins a b := by
  unfold holdsV
  rw [Bool.and_eq_true, Bool.and_eq_true, holds_iff, vok_iff, vok_iff]
  exact ⟨fun h => ⟨h.1.1, h.1.2, h.2⟩, fun h => ⟨⟨h.l, h.r⟩, h.sub⟩⟩
theorem Ins.refl {a : Nat → Int} (h : VOk a) : Ins a a := ⟨h, h, fun i _ => ⟨Int.le_refl _, Int.le_refl _⟩⟩
theorem plus_ins {a a' b b' : Nat → Int} (h : Ins a a') (k : Ins b b') (he : joinE plusM a' b' = 0) : joinE plusM a b = 0 ∧ Ins (joinR plusM a b) (joinR plusM a' b') := by
  have va := vok_iff.2 h.l
  have va' := vok_iff.2 h.r
  have vb := vok_iff.2 k.l
  have vb' := vok_iff.2 k.r
  obtain ⟨p1, p2⟩ := plus_vok va' vb' he
  have q := vok_iff.1 p1
  have hlo : ∀ i, joinV plusM a b (2 * i) = a (2 * i) + b (2 * i) := fun i => joinV_lo _ _ _ _
  have hhi : ∀ i, joinV plusM a b (2 * i + 1) = a (2 * i + 1) + b (2 * i + 1) := fun i => joinV_hi _ _ _ _
  have hlo' : ∀ i, joinV plusM a' b' (2 * i) = a' (2 * i) + b' (2 * i) := fun i => joinV_lo _ _ _ _
  have hhi' : ∀ i, joinV plusM a' b' (2 * i + 1) = a' (2 * i + 1) + b' (2 * i + 1) := fun i => joinV_hi _ _ _ _
  have hE : joinE plusM a b = 0 := by
    rw [joinE_ok _ (by rw [va, vb]; rfl)]
    unfold rngE
    rw [if_pos]
    have s1 := h.sub 0 (by omega)
    have s2 := k.sub 0 (by omega)
    have t1 := h.l.sp 0 (by omega)
    have t2 := k.l.sp 0 (by omega)
    have u1 := q.lo 0 (by omega)
    have u2 := q.hi 0 (by omega)
    have e1 := hlo 0
    have e2 := hhi 0
    have e3 := hlo' 0
    have e4 := hhi' 0
    simp only [Nat.mul_zero, Nat.zero_add] at s1 s2 t1 t2 u1 u2 e1 e2 e3 e4
    rw [Bool.and_eq_true, numB_iff, numB_iff]
    omega
  refine ⟨hE, ?_⟩
  obtain ⟨r1, r2⟩ := plus_vok va vb hE
  rw [p2, r2]
  refine ⟨vok_iff.1 r1, q, fun i hi => ?_⟩
  have s1 := h.sub i hi
  have s2 := k.sub i hi
  rw [hlo, hhi, hlo', hhi']
  omega
theorem hull_ins {a a' b b' : Nat → Int} (h : Ins a a') (k : Ins b b') : Ins (joinR hullM a b) (joinR hullM a' b') := by
  obtain ⟨_, p2⟩ := hull_ok (vok_iff.2 h.r) (vok_iff.2 k.r)
  obtain ⟨_, r2⟩ := hull_ok (vok_iff.2 h.l) (vok_iff.2 k.l)
  rw [p2, r2]
  refine ⟨vok_iff.1 (hull_vok h.l k.l), vok_iff.1 (hull_vok h.r k.r), fun i hi => ?_⟩
  have s1 := h.sub i hi
  have s2 := k.sub i hi
  rw [joinV_lo, joinV_hi, joinV_lo, joinV_hi]
  simp only [hullM]
  omega
/-- a definition, and the same or one with a narrower day -/
structure Nar (d e : Df) : Prop where
  kind : e.kind = d.kind
  of : e.of = d.of
  wth : e.wth = d.wth
  one : d.kind = 1 ∨ d.kind = 2 ∨ d.kind = 4
  days : d.kind = 1 ∨ d.kind = 2 → Ins e.days d.days
theorem madeM_ins {d e : Df} (h : Nar d e) {g g' : ByteArray → (Nat → Int) × Int} (hg : ∀ x ∈ dfParts d, (g x).2 = 0 → (g' x).2 = 0 ∧ Ins (g' x).1 (g x).1) (h0 : (madeM d g).2 = 0) : (madeM e g').2 = 0 ∧ Ins (madeM e g').1 (madeM d g).1 := by
  unfold madeM at h0 ⊢
  rw [h.kind, h.of, h.wth]
  rcases h.one with k | k | k
  · have n2 : ¬ d.kind = 2 := by omega
    have n3 : ¬ (d.kind = 3 ∨ d.kind = 4) := by omega
    simp only [if_neg n2, if_neg n3]
    exact ⟨by trivial, h.days (.inl k)⟩
  · simp only [if_pos k] at h0 ⊢
    by_cases h1 : (g d.of).2 = 0
    · obtain ⟨q1, q2⟩ := hg d.of (by simp [dfParts, k]) h1
      simp only [if_pos h1] at h0 ⊢
      simp only [if_pos q1]
      exact plus_ins q2 (h.days (.inr k)) h0
    · simp only [if_neg h1] at h0
      exact absurd h0 h1
  · have n2 : ¬ d.kind = 2 := by omega
    have n3 : d.kind = 3 ∨ d.kind = 4 := .inr k
    have n4 : ¬ d.kind = 3 := by omega
    simp only [if_neg n2, if_pos n3, if_neg n4] at h0 ⊢
    by_cases h1 : (g d.of).2 = 0
    · obtain ⟨q1, q2⟩ := hg d.of (by simp [dfParts, k]) h1
      simp only [if_pos h1] at h0 ⊢
      simp only [if_pos q1]
      by_cases h2 : (g d.wth).2 = 0
      · obtain ⟨q3, q4⟩ := hg d.wth (by simp [dfParts, k]) h2
        simp only [if_pos h2] at h0 ⊢
        simp only [if_pos q3]
        exact ⟨(hull_ok (vok_iff.2 q2.l) (vok_iff.2 q4.l)).1, hull_ins q2 q4⟩
      · simp only [if_neg h2] at h0
        exact absurd h0 h2
    · simp only [if_neg h1] at h0
      exact absurd h0 h1
/-- a book, and one in which days are narrower -/
def NarB (b b' : List UInt8 → Option Df) : Prop := ∀ s, (b s = none ∧ b' s = none) ∨ ∃ d e, b s = some d ∧ b' s = some e ∧ Nar d e
theorem NarB.prt {b b' : List UInt8 → Option Df} (h : NarB b b') : prt b' = prt b := by
  funext x
  unfold Go.Proofs.YtbhiphjifdnhmaaGreatDoor.prt partsL
  rcases h x.data.toList with ⟨h1, h2⟩ | ⟨d, e, h1, h2, h3⟩
  · rw [h1, h2]
  · rw [h1, h2]
    simp only [Option.getD_some, dfParts, h3.kind, h3.of, h3.wth]
theorem mval_ins {b b' : List UInt8 → Option Df} (h : NarB b b') {L : List ByteArray} (hT : Topo (prt b) L) (N : Nat) : (∀ x ∈ L, b x.data.toList ≠ none) → L.length < N → ∀ x ∈ L, (mval b N x).2 = 0 → (mval b' N x).2 = 0 ∧ Ins (mval b' N x).1 (mval b N x).1 := by
  induction hT with
  | nil =>
    intro _ _ x hx
    cases hx
  | @snoc L x hT hx hp ih =>
    intro hd hN y hy h0
    have hN' : L.length < N := by
      rw [List.length_append] at hN
      simp at hN
      omega
    have ih' := ih (fun z hz => hd z (List.mem_append_left _ hz)) hN'
    rcases List.mem_append.1 hy with hy' | hy'
    · exact ih' y hy' h0
    · rw [List.mem_singleton] at hy'
      subst hy'
      rcases h y.data.toList with ⟨h1, _⟩ | ⟨d, e, h1, h2, h3⟩
      · exact absurd h1 (hd y hy)
      · have e1 := mval_made hT hp hN'
        have hT' : Topo (prt b') L := by rw [h.prt]; exact hT
        have hp' : ∀ z ∈ prt b' y, z ∈ L := by rw [h.prt]; exact hp
        have e2 := mval_made hT' hp' hN'
        rw [h1, Option.getD_some] at e1
        rw [h2, Option.getD_some] at e2
        rw [e1] at h0 ⊢
        rw [e2]
        refine madeM_ins h3 (fun z hz hz0 => ih' z (hp z ?_) hz0) h0
        unfold Go.Proofs.YtbhiphjifdnhmaaGreatDoor.prt partsL
        rw [h1]
        exact hz
theorem MSpec.narrow {b b' : List UInt8 → Option Df} (h : NarB b b') {U : List ByteArray} (hB : BookOk b U) (hU : U.length < 1000) {n : ByteArray} {a : Nat → Int} (hM : MSpec b n a 0) : ∃ v, MSpec b' n v 0 ∧ Ins v a := by
  rcases hM with ⟨_, _, h5⟩ | ⟨_, _, _, h4⟩ | ⟨h1, h2, K, hK⟩
  · cases h5
  · cases h4
  · obtain ⟨O, hT, hO⟩ := topo_of hB hU n h2
    have hn : n ∈ O := (hO n).2 (.inl rfl)
    have hdef : ∀ x ∈ O, b x.data.toList ≠ Option.none := fun x hx => h1 x ((hO x).1 hx)
    obtain ⟨N, hN⟩ : ∃ N, N = K + O.length + 1 := ⟨_, rfl⟩
    obtain ⟨k1, k2, _⟩ := hK N (by omega)
    obtain ⟨i1, i2⟩ := mval_ins h hT N hdef (by omega) n hn k1
    rw [k2 rfl] at i2
    have hT' : Topo (prt b') O := by rw [h.prt]; exact hT
    have hup : ∀ x, Upon b' n x ↔ Upon b n x := fun x => by unfold Upon; rw [h.prt]
    refine ⟨(mval b' N n).1, .inr (.inr ⟨fun x hx => ?_, fun y hy => ?_, N, fun j hj => ?_⟩), i2⟩
    · have := h1 x ((hup x).1 hx)
      rcases h x.data.toList with ⟨q, _⟩ | ⟨d, e, _, q, _⟩
      · exact absurd q this
      · rw [q]; simp
    · rw [h.prt]
      exact h2 y ((hup y).1 hy)
    · rw [mval_stable hT' n hn j N (by omega) (by omega)]
      exact ⟨i1, fun _ => rfl, fun h => absurd rfl h⟩
/-- definitions of which one has another day -/
theorem set_days {l : List Df} (hg : CalGood l) {k : Nat} {y : Df} (hk : l[k]? = some y) {nar : Nat → Int} (hn : Ins nar y.days) (hy : y.kind = 1 ∨ y.kind = 2) (h3 : ∀ d ∈ l, ¬ d.kind = 3) :
    CalGood (l.set k { y with days := nar }) ∧ ∀ known, NarB (bookF l known) (bookF (l.set k { y with days := nar }) known) := by
  obtain ⟨hkl, hke⟩ := List.getElem?_eq_some_iff.1 hk
  have hyl : y ∈ l := List.mem_of_getElem? hk
  have hfy : formedB { y with days := nar } = true := by
    have := hg.form y hyl
    have v1 : vok nar = true := vok_iff.2 hn.l
    have v2 : vok y.days = true := vok_iff.2 hn.r
    unfold formedB at this ⊢
    rcases hy with hy | hy
    · simp only [hy, if_true, v1, v2] at this ⊢
      exact this
    · have n1 : ¬ (2 : Int) = 1 := by decide
      simp only [hy, if_neg n1, if_true, v1, v2] at this ⊢
      exact this
  have hkey : (l.set k { y with days := nar }).map (fun d => (d.name, d.known)) = l.map (fun d => (d.name, d.known)) := by
    rw [List.map_set]
    apply List.ext_getElem?
    intro i
    by_cases hi : k = i
    · subst hi
      rw [List.getElem?_set_self (by simpa using hkl), List.getElem?_map, hk]
      rfl
    · rw [List.getElem?_set_ne hi]
  have hpw : ∀ m : List Df, NoTwice m ↔ (m.map fun d => (d.name, d.known)).Pairwise (fun p q => ¬ (p.1 = q.1 ∧ p.2 = q.2)) := fun m => by
    rw [noTwice_iff, List.pairwise_map]
    exact Iff.rfl
  have hg2 : CalGood (l.set k { y with days := nar }) := by
    refine ⟨by rw [List.length_set]; exact hg.len, fun d hd => ?_, (hpw _).2 (by rw [hkey]; exact (hpw l).1 hg.twice)⟩
    rcases List.mem_or_eq_of_mem_set hd with hd | rfl
    · exact hg.form d hd
    · exact hfy
  refine ⟨hg2, fun known s => ?_⟩
  have hself : { y with days := nar } ∈ l.set k { y with days := nar } := List.mem_of_getElem? (List.getElem?_set_self hkl)
  have hold : ∀ d ∈ l, ¬ (d.name = y.name ∧ d.known = y.known) → d ∈ l.set k { y with days := nar } := fun d hd hne => by
    obtain ⟨i, hi⟩ := List.getElem?_of_mem hd
    have hik : k ≠ i := fun e => by
      subst e
      rw [hk] at hi
      cases hi
      exact hne ⟨rfl, rfl⟩
    exact List.mem_of_getElem? ((List.getElem?_set_ne hik).trans hi)
  have hin : ∀ d, d ∈ l → ∃ e ∈ l.set k { y with days := nar }, e.name = d.name ∧ e.known = d.known ∧ Nar d e := fun d hd => by
    have hkd := formedB_kind (hg.form d hd)
    have h3d := h3 d hd
    have hone : d.kind = 1 ∨ d.kind = 2 ∨ d.kind = 4 := by
      rcases hkd with h | h | h | h
      · exact .inl h
      · exact .inr (.inl h)
      · exact absurd h h3d
      · exact .inr (.inr h)
    have hvd : d.kind = 1 ∨ d.kind = 2 → VOk d.days := fun hk => by
      have := hg.form d hd
      unfold formedB at this
      rcases hk with hk | hk
      · simp only [hk, if_true, Bool.and_eq_true] at this
        exact vok_iff.1 this.2.2
      · have n1 : ¬ (2 : Int) = 1 := by decide
        simp only [hk, if_neg n1, if_true, Bool.and_eq_true] at this
        exact vok_iff.1 this.2.2
    by_cases hne : d.name = y.name ∧ d.known = y.known
    · have e : d = y := hg.one d hd y hyl hne.1 hne.2
      subst e
      exact ⟨_, hself, rfl, rfl, rfl, rfl, rfl, hone, fun _ => hn⟩
    · exact ⟨d, hold d hd hne, rfl, rfl, rfl, rfl, rfl, hone, fun hk => Ins.refl (hvd hk)⟩
  have hback : ∀ e ∈ l.set k { y with days := nar }, ∃ d ∈ l, d.name = e.name ∧ d.known = e.known := fun e he => by
    rcases List.mem_or_eq_of_mem_set he with he | rfl
    · exact ⟨e, he, rfl, rfl⟩
    · exact ⟨y, hyl, rfl, rfl⟩
  cases hb : bookF l known s with
  | none =>
    refine .inl ⟨rfl, (bookF_none _).2 fun e he h1 h2 => ?_⟩
    obtain ⟨d, hd, d1, d2⟩ := hback e he
    exact (bookF_none l).1 hb d hd (by rw [d1]; exact h1) (by rw [d2]; exact h2)
  | some d =>
    obtain ⟨d1, d2, d3, d4⟩ := bookF_some l d hb
    obtain ⟨e, he, e1, e2, e3⟩ := hin d d1
    refine .inr ⟨d, e, rfl, ?_, e3⟩
    cases hc : bookF (l.set k { y with days := nar }) known s with
    | none => exact ((bookF_none _).1 hc e he (by rw [e1]; exact d2) (by rw [e2]; exact d3)).elim
    | some f =>
      obtain ⟨f1, f2, f3, f4⟩ := bookF_some _ f hc
      have h1 := f4 e he (by rw [e1]; exact d2) (by rw [e2]; exact d3)
      obtain ⟨d', hd', g1, g2⟩ := hback f f1
      have h2 := d4 d' hd' (by rw [g1]; exact f2) (by rw [g2]; exact f3)
      rw [hg2.one e he f f1 (bytes_key (by rw [e1]; exact d2.trans f2.symm)) (by omega)]
theorem MeansIs.narrow {l : List Df} (hg : CalGood l) (hs : DfsSz l) {k : Nat} {y : Df} (hk : l[k]? = some y) {nar : Nat → Int} (hn : Ins nar y.days) (hy : y.kind = 1 ∨ y.kind = 2) (h3 : ∀ d ∈ l, ¬ d.kind = 3) {n : ByteArray} {known : Int} {a : Nat → Int} (hM : MeansIs l n known a 0) :
    ∃ v, MeansIs (l.set k { y with days := nar }) n known v 0 ∧ Ins v a := by
  obtain ⟨hg2, hB⟩ := set_days hg hk hn hy h3
  rcases hM with ⟨h0, hM⟩ | ⟨h0, _, h1⟩
  · obtain ⟨v, hv, hi⟩ := hM.narrow (hB known) (bookOk_of (by have := hg.len; omega) hs known) (by rw [useL_len]; have := hg.len; omega)
    exact ⟨v, .inl ⟨(nameE_good hg hg2 n known).symm.trans h0, hv⟩, hi⟩
  · exact absurd h1.symm h0
end Go.Proofs.YtbhiphjifdnhmaaGreatDoor
