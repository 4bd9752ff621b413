import Derived.Test.YtolgomkmilbkgaaGreatV45
import Derived.Shelf.SlIterI.Nil
set_option autoImplicit false
set_option linter.unusedVariables false
set_option linter.unusedSimpArgs false
namespace Go.Proofs.YtolgomkmilbkgaaGreat.Ev
open Go Go.Maps
noncomputable section

/-! # The keys of a map, sorted: what an oracle may answer -/
def insI (x : Int) : List Int → List Int := fun l => List.rec [x] (fun y l ih => bsel (ltI y x) (y :: ih) (x :: y :: l)) l
def srtI : List Int → List Int := fun l => List.rec [] (fun x _ ih => insI x ih) l
theorem insI_cons (x y : Int) (l : List Int) : insI x (y :: l) = bsel (ltI y x) (y :: insI x l) (x :: y :: l) := rfl
theorem insI_perm (x : Int) : ∀ l, (insI x l).Perm (x :: l)
  | [] => .refl _
  | y :: l => by
    rw [insI_cons]
    cases ltI y x with
    | true => exact ((insI_perm x l).cons y).trans (.swap x y l)
    | false => exact .refl _
theorem srtI_perm : ∀ l, (srtI l).Perm l
  | [] => .refl _
  | x :: l => (insI_perm x _).trans ((srtI_perm l).cons x)
theorem insI_sorted (x : Int) : ∀ l, l.Pairwise (fun a b => a ≤ b) → (insI x l).Pairwise (fun a b => a ≤ b)
  | [], _ => by show ([x] : List Int).Pairwise _; simp
  | y :: l, h => by
    rw [List.pairwise_cons] at h
    rw [insI_cons]
    cases hb : ltI y x with
    | true =>
      rw [ltI_eq, decide_eq_true_iff] at hb
      show (y :: insI x l).Pairwise _
      rw [List.pairwise_cons]
      refine ⟨fun a ha => ?_, insI_sorted x l h.2⟩
      rcases List.mem_cons.1 ((insI_perm x l).mem_iff.1 ha) with rfl | ha
      · omega
      · exact h.1 a ha
    | false =>
      rw [ltI_eq, decide_eq_false_iff_not] at hb
      show (x :: y :: l).Pairwise _
      rw [List.pairwise_cons, List.pairwise_cons]
      refine ⟨fun a ha => ?_, h⟩
      rcases List.mem_cons.1 ha with rfl | ha
      · omega
      · have := h.1 a ha; omega
theorem srtI_sorted : ∀ l, (srtI l).Pairwise (fun a b => a ≤ b)
  | [] => .nil
  | x :: l => insI_sorted x _ (srtI_sorted l)
theorem srt_merge {l ss : List Int} (h : ss.Perm l) : ss.mergeSort (fun x y => decide (x ≤ y)) = srtI l := by
  refine List.Perm.eq_of_pairwise (le := fun a b => a ≤ b) (fun a b _ _ h1 h2 => by omega) ?_ (srtI_sorted l) (((List.mergeSort_perm ss _).trans h).trans (srtI_perm l).symm)
  have := List.pairwise_mergeSort (le := fun x y : Int => decide (x ≤ y)) (fun a b c h1 h2 => by simp at *; omega) (fun a b => by simp; omega) ss
  exact this.imp fun h => by simpa using h

def keyI : Value → Option Int
  | .int .i64 n => some n
  | _ => none
def hasN (n : Nat) : List Nat → Bool := fun l => List.rec false (fun m _ ih => bsel (Nat.beq n m) true ih) l
def hasI (n : Int) : List Int → Bool := fun l => List.rec false (fun m _ ih => bsel (iEq n m) true ih) l
/-- Keys that are numbers; all told apart, born before the clock, one after the other. -/
def keysI (clock : Nat) : List MapEntry → Option (List Int × List Nat) := fun es => List.rec (some ([], [])) (fun e _ ih => osel (keyI e.key) none fun n => osel ih none fun p =>
    bsel (hasI n p.1) none (bsel (hasN e.born p.2) none (bsel (Nat.ble (Nat.succ e.born) clock) (bsel (Lit.int .i64 n).wf (some (n :: p.1, e.born :: p.2)) none) none))) es
theorem hasN_iff {n : Nat} : ∀ {l : List Nat}, hasN n l = false → ¬ n ∈ l
  | [], _ => by simp
  | m :: l, h => by
    have h : bsel (Nat.beq n m) true (hasN n l) = false := h
    cases hb : Nat.beq n m with
    | true => rw [hb] at h; cases h
    | false =>
      rw [hb] at h
      have := hasN_iff (l := l) h
      have hne : n ≠ m := fun e => by rw [e, beq_iff.2 rfl] at hb; cases hb
      simp [hne, this]
theorem hasI_iff {n : Int} : ∀ {l : List Int}, hasI n l = false → ¬ n ∈ l
  | [], _ => by simp
  | m :: l, h => by
    have h : bsel (iEq n m) true (hasI n l) = false := h
    rw [iEq_eq] at h
    by_cases hb : n = m
    · rw [hb, beq_self_eq_true] at h; cases h
    · rw [show (n == m) = false by simpa using hb] at h
      simp [hb, hasI_iff (l := l) h]
structure KeysOk (clock : Nat) (es : List MapEntry) (ks : List Int) (bs : List Nat) : Prop where
  keys : es.map (fun e => e.key) = ks.map I64
  births : es.map (fun e => e.born) = bs
  kn : ks.Nodup
  bn : bs.Nodup
  lt : ∀ b, b ∈ bs → b < clock
  wf : ∀ n, n ∈ ks → (Lit.int .i64 n).wf = true
theorem keyI_eq {v : Value} {n : Int} (h : keyI v = some n) : v = I64 n := by
  unfold keyI at h
  split at h
  · cases h; rfl
  · cases h
theorem keysI_ok {clock : Nat} : ∀ {es : List MapEntry} {p : List Int × List Nat}, keysI clock es = some p → KeysOk clock es p.1 p.2
  | [], p, h => by cases h; exact ⟨rfl, rfl, .nil, .nil, fun b h => by simp at h, fun b h => by simp at h⟩
  | e :: es, p, h => by
    have h : (osel (keyI e.key) none fun n => osel (keysI clock es) none fun p =>
      bsel (hasI n p.1) none (bsel (hasN e.born p.2) none (bsel (Nat.ble (Nat.succ e.born) clock) (bsel (Lit.int .i64 n).wf (some (n :: p.1, e.born :: p.2)) none) none))) = some p := h
    obtain ⟨n, h1, h⟩ := osel_ne h (by simp)
    obtain ⟨q, h2, h⟩ := osel_ne h (by simp)
    cases h3 : hasI n q.1 with
    | true => rw [h3] at h; cases h
    | false =>
    rw [h3] at h
    have h : bsel (hasN e.born q.2) none (bsel (Nat.ble (Nat.succ e.born) clock) (bsel (Lit.int .i64 n).wf (some (n :: q.1, e.born :: q.2)) none) none) = some p := h
    cases h4 : hasN e.born q.2 with
    | true => rw [h4] at h; cases h
    | false =>
    rw [h4] at h
    have h : bsel (Nat.ble (Nat.succ e.born) clock) (bsel (Lit.int .i64 n).wf (some (n :: q.1, e.born :: q.2)) none) none = some p := h
    obtain ⟨h5, h⟩ := bsel_ne h (by simp)
    obtain ⟨h6, h⟩ := bsel_ne h (by simp)
    cases h
    have ih := keysI_ok h2
    exact ⟨by simp [ih.keys, keyI_eq h1], by simp [ih.births], List.nodup_cons.2 ⟨hasI_iff h3, ih.kn⟩, List.nodup_cons.2 ⟨hasN_iff h4, ih.bn⟩, fun b hb => by
      rcases List.mem_cons.1 hb with rfl | hb
      · exact ble_iff.1 h5
      · exact ih.lt b hb, fun k hk => by
      rcases List.mem_cons.1 hk with rfl | hk
      · exact h6
      · exact ih.wf k hk⟩

/-- slices.Sorted (fS) of what maps.Keys handed back (fK: its iterator). -/
def callS (fS fK : FuncId) (f : FuncId) (args : List Value) (st : St) : Re :=
  bsel (Nat.beq f fS) (match args with
    | [.func (.func g) ⟨[]⟩ ⟨[.pointer (some ⟨nm, 0, none⟩)]⟩] => bsel (Nat.beq g fK)
        (match st.obj nm with
          | .cells d n es true tr => match n, Bt.sub tr (half d) 0 n [] with
            | 1, [.map (some r)] => match st.obj r with
              | .map es clock => osel (keysI clock es) .no fun p => match srtI p.1 with
                | [] => .no
                | x :: l => bsel (Nat.ble (lenL (x :: l)) 4096) (allK (rowOf ((x :: l).map I64) 1 false) (fun nm => .slice (some ⟨nm, 0, none⟩) (lenL (x :: l)) (lenL (x :: l))) st) .no
              | _ => .no
            | _, _ => .no
          | _ => .no) .no
    | _ => .no) .no
def orcS (fS fK : FuncId) (ks : List K1) : Orc := ⟨callS fS fK, (orcK ks).pur⟩
end
end Go.Proofs.YtolgomkmilbkgaaGreat.Ev

set_option autoImplicit false
set_option linter.unusedVariables false
set_option linter.unusedSimpArgs false
namespace Go.Proofs.YtolgomkmilbkgaaGreat.Ev
open Go Go.Maps Go.RowKit Go.MapKept
/-- What the library says of slices.Sorted at a map's keys. -/
def SortsAt (P : Program) (fS fK : FuncId) : Prop :=
  ∀ (Bm b : Nat) (es : Array MapEntry) (clock : Nat) (ks : List Int) (w : World), Bm < w.heap.size → w.cell? ⟨Bm, 0, none⟩ = some (.map (some b)) → w.heap[b]? = some (.map es clock) → Stamped es clock →
    es.toList.map (fun e => e.key) = ks.map I64 → (∀ n, n ∈ ks → (Lit.int .i64 n).wf = true) → ks.length ≤ 4096 →
    Calls P fS #[.func (.func fK) #[] #[.pointer (some ⟨Bm, 0, none⟩)]] w fun e w' => ∃ (v : Value) (T : TypeId), e = .returned v ∧ w'.ownsRow w.heap.size T 1 v ks.length ((srtI ks).map I64) ∧ Below w.heap.size w w'
theorem ints_vr {σ : Nm} (l : List Int) : VRL σ (l.map I64) (l.map I64) := ⟨rfl, fun i u v hu hv => by
  rw [hu] at hv; cases hv
  obtain ⟨n, _, rfl⟩ := List.mem_map.1 (List.mem_of_getElem? hu)
  exact .int _ n⟩
theorem callS_inv {fS fK : FuncId} {f : FuncId} {args : List Value} {st st' : St} {v : Value} (h : callS fS fK f args st = .ok v st') :
    f = fS ∧ ∃ (nm d es0 : Nat) (tr : Bt) (r : Nat) (es : List MapEntry) (clock : Nat) (p : List Int × List Nat), args = [.func (.func fK) ⟨[]⟩ ⟨[.pointer (some ⟨nm, 0, none⟩)]⟩] ∧ st.obj nm = .cells d 1 es0 true tr ∧ Bt.sub tr (half d) 0 1 [] = [.map (some r)] ∧
      st.obj r = .map es clock ∧ keysI clock es = some p ∧ 0 < (srtI p.1).length ∧ (srtI p.1).length ≤ 4096 ∧ allK (rowOf ((srtI p.1).map I64) 1 false) (fun nm => .slice (some ⟨nm, 0, none⟩) (srtI p.1).length (srtI p.1).length) st = .ok v st' := by
  unfold callS at h
  have hf := (bsel_ne h Re.no_ne).1
  have h1 := (bsel_ne h Re.no_ne).2
  clear h
  refine ⟨beq_iff.1 hf, ?_⟩
  clear hf
  split at h1
  · rename_i g nm
    have hg := (bsel_ne h1 Re.no_ne).1
    have h2 := (bsel_ne h1 Re.no_ne).2
    clear h1
    obtain rfl := beq_iff.1 hg
    split at h2
    · rename_i d n0 es0 tr ho
      split at h2
      · rename_i r hsub
        split at h2
        · rename_i es clock hm
          have h3 := osel_ne h2 Re.no_ne
          clear h2
          obtain ⟨p, hp, h4⟩ := h3
          cases hx : srtI p.1 with
          | nil => simp only [hx] at h4; exact absurd h4 Re.no_ne
          | cons x l =>
            simp only [hx] at h4
            have h5 := bsel_ne h4 Re.no_ne
            rw [lenL_eq] at h5
            refine ⟨nm, d, es0, tr, r, es, clock, p, rfl, ho, hsub, hm, hp, by rw [hx]; simp, by rw [hx]; exact ble_iff.1 h5.1, ?_⟩
            rw [hx]; exact h5.2
        · exact absurd h2 Re.no_ne
      · exact absurd h2 Re.no_ne
    · exact absurd h2 Re.no_ne
  · exact absurd h1 Re.no_ne
theorem callS_ok {P : Program} {fS fK : FuncId} (hS : SortsAt P fS fK) {f : FuncId} {args : List Value} {st st' : St} {v : Value} (h : callS fS fK f args st = .ok v st') {σ : Nm} {w : World} {args' : List Value} (hr : Rel σ st w) (ha : VRL σ args args') (n : Nat) (ro : Option Nat) :
    CallsIn (Fr ro) n P f ⟨args'⟩ w (Ends σ st w v st') := by
  obtain ⟨rfl, nm, d, es0, tr, r, es, clock, p, rfl, ho, hsub, hm, hp, hpos, hle, hall⟩ := callS_inv h
  have K := keysI_ok hp
  -- the arguments
  obtain ⟨ha1, ha2⟩ := ha
  obtain ⟨x', rfl⟩ : ∃ x', args' = [x'] := by
    match args', ha1 with
    | [x'], _ => exact ⟨x', rfl⟩
  have hv := ha2 0 _ _ rfl rfl
  cases hv with
  | func _ _ fs' _ bs' e1 e2 e3 e4 =>
  obtain rfl : fs' = [] := by simpa using e1.symm
  obtain ⟨p', rfl⟩ : ∃ p', bs' = [p'] := by
    match bs', e3 with
    | [p'], _ => exact ⟨p', rfl⟩
  have hv := e4 0 _ _ rfl rfl
  cases hv with
  | ptr _ _ k hk =>
  obtain ⟨hal, h1, h2, h3, h4, h5, c, e, h6, h7, h8, h9⟩ := hr.at hk ho (by simp)
  have hko : k.o = 0 := (hr.bnd nm k hk).2 h2
  rw [Bt.sub_eq h3, List.append_nil, List.drop_zero] at hsub
  rw [hko] at h8 h9
  have hsub : tr.leaves.take 1 = [.map (some r)] := hsub
  rw [hsub, List.drop_zero] at h9
  obtain ⟨y, c', rfl⟩ : ∃ y c', c = y :: c' := by
    cases c with
    | nil => have := h9.1; simp at this
    | cons y c' => exact ⟨y, c', rfl⟩
  have hv := h9.2 0 _ y rfl (by simp)
  cases hv with
  | map _ k2 hk2 =>
  obtain ⟨_, es', q1, q2⟩ := hr.at hk2 hm (by simp)
  have hkb : k.b < w.heap.size := hr.bound nm k hk
  have hcell : w.cell? ⟨k.b, 0, none⟩ = some (.map (some k2.b)) := by rw [cell_row h6]; rfl
  have hkeys : es'.map (fun e => e.key) = p.1.map I64 := by
    rw [← K.keys]
    apply List.ext_getElem?
    intro i
    rw [List.getElem?_map, List.getElem?_map]
    by_cases hi : i < es.length
    · have hi2 : i < es'.length := by rw [← q2.1]; exact hi
      have a1 : es[i]? = some es[i] := by simp [hi]
      have a2 : es'[i]? = some es'[i] := by simp [hi2]
      rw [a1, a2]
      have := (q2.2 i _ _ a1 a2).1
      have hki : es[i].key = I64 (p.1.getD i 0) := by
        have := congrArg (fun l => l[i]?) K.keys
        simp only [List.getElem?_map, a1, Option.map_some] at this
        cases hpi : p.1[i]? with
        | none => rw [hpi] at this; cases this
        | some z => rw [hpi] at this; simp at this; rw [this, List.getD_eq_getElem?_getD, hpi]; rfl
      rw [hki] at this
      have e : es'[i].key = I64 (p.1.getD i 0) := by
        generalize es'[i].key = y at this
        cases this; rfl
      show some es'[i].key = some es[i].key
      rw [hki, e]
    · have hi2 : es'.length ≤ i := by rw [← q2.1]; omega
      rw [List.getElem?_eq_none hi2, List.getElem?_eq_none (by omega)]
  have hborn : es'.map (fun e => e.born) = p.2 := by
    rw [← K.births]
    apply List.ext_getElem?
    intro i
    rw [List.getElem?_map, List.getElem?_map]
    by_cases hi : i < es.length
    · have hi2 : i < es'.length := by rw [← q2.1]; exact hi
      have a1 : es[i]? = some es[i] := by simp [hi]
      have a2 : es'[i]? = some es'[i] := by simp [hi2]
      rw [a1, a2]
      exact congrArg some (q2.2 i _ _ a1 a2).2.2.symm
    · have hi2 : es'.length ≤ i := by rw [← q2.1]; omega
      rw [List.getElem?_eq_none hi2, List.getElem?_eq_none (by omega)]
  have hst : Stamped ⟨es'⟩ clock := by
    refine ⟨fun z hz => ?_, ?_, ?_⟩
    · exact K.lt _ (by rw [← hborn]; exact List.mem_map.2 ⟨z, hz, rfl⟩)
    · show (es'.map _).Nodup
      rw [hborn]; exact K.bn
    · show (es'.map _).Nodup
      rw [hkeys]
      exact List.Pairwise.map _ (fun a b hne e => hne (by simpa using e)) K.kn
  have hkl : (srtI p.1).length = p.1.length := (srtI_perm p.1).length_eq
  have C := hS k.b k2.b ⟨es'⟩ clock p.1 w hkb hcell q1 hst hkeys K.wf (by rw [← hkl]; exact hle)
  show CallsIn Fence.wide n P f #[.func (.func fK) ⟨[]⟩ ⟨[.pointer (some ⟨k.b, k.o + 0, none⟩)]⟩] w _
  rw [hko]
  refine callsIn_wide.2 (Calls.mono C fun e w' ⟨v1, T, r1, ⟨r2, r3⟩, r4⟩ => ?_)
  rcases r3 with ⟨_, hz⟩ | ⟨gb, cap, cur, rfl, hgb, hcur, hc1, hc2, hc3, hc4⟩
  · omega
  obtain ⟨cur⟩ := cur
  have hcl : cur.length = cap := by simpa using hc3
  have hc4 : cur.take (p.1.length * 1) = (srtI p.1).map I64 := hc4
  rw [Nat.mul_one] at hc4
  have hgw : gb < w'.heap.size := by
    rcases Nat.lt_or_ge gb w'.heap.size with h' | h'
    · exact h'
    · rw [Array.getElem?_eq_none h'] at hcur; cases hcur
  have hfz : FzOk σ.fz w' := fun b c hb => by
    obtain ⟨e, he⟩ := hr.fzok b c hb
    have hbl : b < w.heap.size := by
      rcases Nat.lt_or_ge b w.heap.size with h | h
      · exact h
      · rw [Array.getElem?_eq_none h] at he; cases he
    exact ⟨e, (r4.block b hbl).trans he⟩
  have hr2 : Rel σ st w' := hr.grow r4.size r4.block (fun _ _ h => h) (fun _ _ h => .inl h) hfz
  obtain ⟨σ', s1, s1f, s2, s3, s4, s5⟩ := hr2.named (o := rowOf ((srtI p.1).map I64) 1 false) (k := ⟨gb, 0, cap, 1, false⟩) hgw (fun x kx _ hx => by have := hr.bound x kx hx; show kx.b ≠ gb; omega) (fun c hc => by
    obtain ⟨e, he⟩ := hr.fzok gb c hc
    rw [Array.getElem?_eq_none hgb] at he; cases he) (fun τ hs hn => by
    unfold rowOf
    rw [lenL_eq]
    refine ⟨rfl, rfl, (Bt.ofL_perf _ _).1, dep_le _, ?_, cur, T, hcur, hcl, ?_, ?_⟩
    · rw [ofL_take]
      intro u hu
      obtain ⟨n, _, rfl⟩ := List.mem_map.1 hu
      rfl
    · show 0 + ((srtI p.1).map I64).length ≤ cap
      rw [List.length_map, hkl]; omega
    · rw [ofL_take, List.drop_zero, List.length_map, hkl, hc4]
      exact ints_vr _) (by intro h; cases h)
  obtain ⟨hv, hst'⟩ := allK_ok hall
  subst hv
  subst hst'
  refine ⟨σ', .slice (some ⟨gb, 0, none⟩) p.1.length cap, r1, ?_, s2, ⟨s3, by show st.next ≤ st.next + 1; omega, r4.size, fun b hb ⟨x, kx, hx, q3, q4⟩ => ?_, fun b hb _ => r4.block b hb, r4.tape, r4.os, r4.output, fun y hy => s4 y (by omega), fun b c _ hb => by rw [← s1f]; exact hb⟩⟩
  · rw [hkl]
    exact .slice st.next 0 p.1.length p.1.length cap ⟨gb, 0, cap, 1, false⟩ s1 (Nat.le_refl _) (fun h => by cases h) (fun _ => ⟨hc1, by show 0 + 0 + cap * 1 ≤ cap; omega⟩)
  · by_cases hxn : x = st.next
    · subst hxn
      rw [s1] at q3; cases q3
      have : gb = b := q4
      omega
    · rw [s4 x hxn] at q3
      exact ⟨x, kx, s5 x hx hxn, q3, q4⟩
theorem orcS_ok {P : Program} {fS fK : FuncId} (hS : SortsAt P fS fK) {ks : List K1} (h : ∀ k, k ∈ ks → PurOk P k.f k.args k.v) : OrcOk P (orcS fS fK ks) :=
  ⟨fun _ _ _ _ _ h σ w args' hr ha n ro => callS_ok hS h hr ha n ro, (orcK_ok h).pur⟩
/-- A closed call, the keys of maps sorted by the library. -/
theorem pur_evalS {P : Program} (hm : P.follows .mixedOrders = true) {fS fK : FuncId} (hS : SortsAt P fS fK) {ks : List K1} (hks : ∀ k, k ∈ ks → PurOk P k.f k.args k.v) (K : Nat) {f : FuncId} {args : List Value} {pv : Value}
    (h : endsIn (callB P (evCode P (orcS fS fK ks) K) f args ⟨heap0, 0⟩) pv = true) : PurOk P f args pv := by
  cases hr : callB P (evCode P (orcS fS fK ks) K) f args ⟨heap0, 0⟩ with
  | no => rw [hr] at h; cases h
  | ok v st =>
    rw [hr] at h
    have h : osel (snapV false st snapD v) false (fun u => vEq 6 u pv) = true := h
    obtain ⟨u, hu, h⟩ := osel_ne h (by simp)
    have := vEq_eq 6 h
    subst this
    exact pur_of_runB hm (orcS_ok hS hks) hr hu
end Go.Proofs.YtolgomkmilbkgaaGreat.Ev

