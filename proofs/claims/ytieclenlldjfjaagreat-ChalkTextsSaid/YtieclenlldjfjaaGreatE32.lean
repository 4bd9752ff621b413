import Derived.Test.YtieclenlldjfjaaGreatE31
set_option autoImplicit false
set_option linter.unusedVariables false
set_option linter.unusedSimpArgs false
namespace Go.Proofs.YtieclenlldjfjaaGreat.Ev
open Go

noncomputable section
/-! ## Calls whose ends are known -/
def vEqL (f : Value → Value → Bool) : List Value → List Value → Bool :=
  fun as => List.rec (fun bs => List.rec true (fun _ _ _ => false) bs) (fun a _ ih bs => List.rec false (fun b bs' _ => bsel (f a b) (ih bs') false) bs) as

def vEq1 (f : Value → Value → Bool) (a b : Value) : Bool :=
  match a, b with
  | .agg as, .agg bs => vEqL f as.toList bs.toList
  | .tuple as, .tuple bs => vEqL f as.toList bs.toList
  | .iface t v, .iface u w => bsel (Nat.beq t u) (f v w) false
  | a, b => sameV a b

def vEq (d : Nat) : Value → Value → Bool := Nat.rec sameV (fun _ ih => vEq1 ih) d

theorem vEqL_eq {f : Value → Value → Bool} (hf : ∀ a b, f a b = true → a = b) : ∀ {as bs : List Value}, vEqL f as bs = true → as = bs
  | [], [], _ => rfl
  | [], _ :: _, h => by cases h
  | _ :: _, [], h => by cases h
  | a :: as, b :: bs, h => by
    have h : bsel (f a b) (vEqL f as bs) false = true := h
    obtain ⟨h1, h2⟩ := bsel_ne h (by simp)
    rw [hf a b h1, vEqL_eq hf h2]

theorem vEq1_eq {f : Value → Value → Bool} (hf : ∀ a b, f a b = true → a = b) {a b : Value} (h : vEq1 f a b = true) : a = b := by
  unfold vEq1 at h
  split at h
  · exact congrArg _ (Array.ext' (vEqL_eq hf h))
  · exact congrArg _ (Array.ext' (vEqL_eq hf h))
  · obtain ⟨h1, h2⟩ := bsel_ne h (by simp)
    rw [beq_iff.1 h1, hf _ _ h2]
  · exact sameV_eq h

theorem vEq_eq : ∀ (d : Nat) {a b : Value}, vEq d a b = true → a = b
  | 0, _, _, h => sameV_eq h
  | d + 1, _, _, h => vEq1_eq (fun _ _ h => vEq_eq d h) h

def btEq (t : Bt) : Bt → Bool :=
  Bt.rec (fun a t => Bt.rec (fun b => vEq 3 a b) (fun _ _ _ _ => false) t) (fun _ _ il ir t => Bt.rec (fun _ => false) (fun l r _ _ => bsel (il l) (ir r) false) t) t

theorem btEq_eq : ∀ {t u : Bt}, btEq t u = true → t = u
  | .leaf a, .leaf b, h => congrArg _ (vEq_eq 3 h)
  | .leaf _, .node _ _, h => by cases h
  | .node _ _, .leaf _, h => by cases h
  | .node l r, .node l' r', h => by
    have h : bsel (btEq l l') (btEq r r') false = true := h
    obtain ⟨h1, h2⟩ := bsel_ne h (by simp)
    rw [btEq_eq h1, btEq_eq h2]

def entEq (a b : MapEntry) : Bool := bsel (vEq 3 a.key b.key) (bsel (vEq 3 a.val b.val) (Nat.beq a.born b.born) false) false

theorem entEq_eq {a b : MapEntry} (h : entEq a b = true) : a = b := by
  obtain ⟨h1, h⟩ := bsel_ne h (by simp)
  obtain ⟨h2, h3⟩ := bsel_ne h (by simp)
  cases a; cases b
  simp only [MapEntry.mk.injEq]
  exact ⟨vEq_eq 3 h1, vEq_eq 3 h2, beq_iff.1 h3⟩

def entsEq : List MapEntry → List MapEntry → Bool :=
  fun as => List.rec (fun bs => List.rec true (fun _ _ _ => false) bs) (fun a _ ih bs => List.rec false (fun b bs' _ => bsel (entEq a b) (ih bs') false) bs) as

theorem entsEq_eq : ∀ {as bs : List MapEntry}, entsEq as bs = true → as = bs
  | [], [], _ => rfl
  | [], _ :: _, h => by cases h
  | _ :: _, [], h => by cases h
  | a :: as, b :: bs, h => by
    have h : bsel (entEq a b) (entsEq as bs) false = true := h
    obtain ⟨h1, h2⟩ := bsel_ne h (by simp)
    rw [entEq_eq h1, entsEq_eq h2]

/-- Two objects that are the same, and alive. -/
def objEq (a b : AObj) : Bool :=
  match a, b with
  | .cells d n es ex t, .cells d' n' es' ex' t' => bsel (Nat.beq d d') (bsel (Nat.beq n n') (bsel (Nat.beq es es') (bsel (ex == ex') (btEq t t') false) false) false) false
  | .map es c, .map es' c' => bsel (Nat.beq c c') (entsEq es es') false
  | _, _ => false

theorem objEq_eq {a b : AObj} (h : objEq a b = true) : a = b ∧ b ≠ .dead := by
  unfold objEq at h
  split at h
  · obtain ⟨h1, h⟩ := bsel_ne h (by simp)
    obtain ⟨h2, h⟩ := bsel_ne h (by simp)
    obtain ⟨h3, h⟩ := bsel_ne h (by simp)
    obtain ⟨h4, h5⟩ := bsel_ne h (by simp)
    have h4 := eq_of_beq h4
    rw [beq_iff.1 h1, beq_iff.1 h2, beq_iff.1 h3, h4, btEq_eq h5]
    exact ⟨rfl, by simp⟩
  · obtain ⟨h1, h2⟩ := bsel_ne h (by simp)
    rw [beq_iff.1 h1, entsEq_eq h2]
    exact ⟨rfl, by simp⟩
  · cases h

/-! ## Values and objects with other names -/
def renL (f : Value → Option Value) : List Value → Option (List Value) :=
  fun xs => List.rec (some []) (fun x _ ih => osel (f x) none fun y => osel ih none fun ys => some (y :: ys)) xs

def ren1 (r : Nat → Option Nat) (f : Value → Option Value) (v : Value) : Option Value :=
  match v with
  | .pointer (some ⟨b, o, none⟩) => osel (r b) none fun b' => some (.pointer (some ⟨b', o, none⟩))
  | .slice (some ⟨b, o, none⟩) n c => osel (r b) none fun b' => some (.slice (some ⟨b', o, none⟩) n c)
  | .map (some b) => osel (r b) none fun b' => some (.map (some b'))
  | .func (.func g) as bs => osel (renL f as.toList) none fun as' => osel (renL f bs.toList) none fun bs' => some (.func (.func g) ⟨as'⟩ ⟨bs'⟩)
  | .iface t u => osel (f u) none fun u' => some (.iface t u')
  | .agg cs => osel (renL f cs.toList) none fun cs' => some (.agg ⟨cs'⟩)
  | .tuple cs => osel (renL f cs.toList) none fun cs' => some (.tuple ⟨cs'⟩)
  | v => bsel (flat v) (some v) none

def renV (r : Nat → Option Nat) (d : Nat) : Value → Option Value := Nat.rec (fun v => bsel (flat v) (some v) none) (fun _ ih => ren1 r ih) d

def renE (f : Value → Option Value) : List MapEntry → Option (List MapEntry) :=
  fun xs => List.rec (some []) (fun x _ ih => osel (f x.key) none fun k => osel (f x.val) none fun v => osel ih none fun ys => some ({ key := k, val := v, born := x.born } :: ys)) xs

def renO (f : Value → Option Value) (o : AObj) : Option AObj :=
  match o with
  | .cells d n es ex t => osel (renL f (Bt.sub t (half d) 0 n [])) none fun xs => bsel (Nat.ble n (Nat.pow 2 d)) (some (.cells d n es ex (Bt.ofL d xs))) none
  | .map es c => osel (renE f es) none fun es' => some (.map es' c)
  | _ => none

/-- Two namings that say the same of what r renames. -/
def RenOk (r : Nat → Option Nat) (σ τ : Nm) : Prop := ∀ nm nm' k, r nm = some nm' → σ nm = some k → τ nm' = some k
def RenF (f : Value → Option Value) (σ τ : Nm) : Prop := ∀ v u v', f v = some u → VR σ v v' → VR τ u v'

theorem renL_ok {f : Value → Option Value} {σ τ : Nm} (hf : RenF f σ τ) : ∀ {xs ys zs : List Value}, renL f xs = some ys → VRL σ xs zs → VRL τ ys zs
  | [], ys, zs, h, hv => by cases h; have := hv.nil_inv; subst this; exact .nil
  | x :: xs, ys, zs, h, hv => by
    have h : (osel (f x) none fun y => osel (renL f xs) none fun ys => some (y :: ys)) = some ys := h
    obtain ⟨y, h1, h⟩ := osel_ne h (by simp)
    obtain ⟨ys', h2, h⟩ := osel_ne h (by simp)
    cases h
    obtain ⟨z, zs', rfl, q1, q2⟩ := hv.cons_inv
    exact .cons (hf x y z h1 q1) (renL_ok hf h2 q2)

theorem renL_len {f : Value → Option Value} : ∀ {xs ys : List Value}, renL f xs = some ys → ys.length = xs.length
  | [], ys, h => by cases h; rfl
  | x :: xs, ys, h => by
    have h : (osel (f x) none fun y => osel (renL f xs) none fun ys => some (y :: ys)) = some ys := h
    obtain ⟨y, h1, h⟩ := osel_ne h (by simp)
    obtain ⟨ys', h2, h⟩ := osel_ne h (by simp)
    cases h
    simp [renL_len h2]

theorem ones {σ : Nm} {xs zs : List Value} (h : VRL σ xs zs) (h1 : ∀ u, u ∈ xs → u.oneCell' = true) : ∀ z, z ∈ zs → z.oneCell' = true := by
  intro z hz
  obtain ⟨i, hi⟩ := List.mem_iff_getElem?.1 hz
  have : i < xs.length := by rw [h.1]; exact (List.getElem?_eq_some_iff.1 hi).1
  have hx : xs[i]? = some xs[i] := by simp [this]
  rw [← (h.2 i _ z hx hi).one]
  exact h1 _ (by simp)

theorem ones' {σ : Nm} {xs zs : List Value} (h : VRL σ xs zs) (h1 : ∀ z, z ∈ zs → z.oneCell' = true) : ∀ u, u ∈ xs → u.oneCell' = true := by
  intro u hu
  obtain ⟨i, hi⟩ := List.mem_iff_getElem?.1 hu
  obtain ⟨z, hz, hr⟩ := h.get hi
  rw [hr.one]
  exact h1 z (List.mem_of_getElem? hz)

theorem renV_flat {σ τ : Nm} {v u v' : Value} (h : (bsel (flat v) (some v) none) = some u) (hv : VR σ v v') : VR τ u v' := by
  obtain ⟨hf, h⟩ := bsel_ne h (by simp)
  cases h
  cases hv with
  | bool b => exact .bool b
  | int k n => exact .int k n
  | string s => exact .string s
  | nilptr => exact .nilptr
  | nilslice => exact .nilslice
  | nilmap => exact .nilmap
  | nilFunc => exact .nilFunc
  | nilIface => exact .nilIface
  | _ => cases hf

theorem ren1_ok {r : Nat → Option Nat} {f : Value → Option Value} {σ τ : Nm} (hr : RenOk r σ τ) (hv0 : r voidNm = none) (hf : RenF f σ τ) : RenF (ren1 r f) σ τ := by
  intro v u v' h hv
  cases hv with
  | bool b => exact renV_flat (σ := σ) (show (bsel (flat (.bool b)) (some (.bool b)) none) = some u from h) (.bool b)
  | int k n => exact renV_flat (σ := σ) (show (bsel (flat (.int k n)) (some (.int k n)) none) = some u from h) (.int k n)
  | string s => exact renV_flat (σ := σ) (show (bsel (flat (.string s)) (some (.string s)) none) = some u from h) (.string s)
  | nilptr => exact renV_flat (σ := σ) (show (bsel (flat (.pointer none)) (some (.pointer none)) none) = some u from h) .nilptr
  | nilslice => exact renV_flat (σ := σ) (show (bsel (flat (.slice none 0 0)) (some (.slice none 0 0)) none) = some u from h) .nilslice
  | nilmap => exact renV_flat (σ := σ) (show (bsel (flat (.map none)) (some (.map none)) none) = some u from h) .nilmap
  | nilFunc => exact renV_flat (σ := σ) (show (bsel (flat (.nilFunc)) (some (.nilFunc)) none) = some u from h) .nilFunc
  | nilIface => exact renV_flat (σ := σ) (show (bsel (flat (.nilIface)) (some (.nilIface)) none) = some u from h) .nilIface
  | ptr nm off k hk =>
    have h : (osel (r nm) none fun b' => some (.pointer (some ⟨b', off, none⟩))) = some u := h
    obtain ⟨b, h1, h⟩ := osel_ne h (by simp)
    cases h
    exact .ptr b off k (hr _ _ _ h1 hk)
  | slice nm off n c c' k hk e1 e2 e3 =>
    have h : (osel (r nm) none fun b' => some (.slice (some ⟨b', off, none⟩) n c)) = some u := h
    obtain ⟨b, h1, h⟩ := osel_ne h (by simp)
    cases h
    exact .slice b off n c c' k (hr _ _ _ h1 hk) e1 e2 e3
  | void a c' =>
    have h : (osel (r voidNm) none fun b' => some (.slice (some ⟨b', 0, none⟩) 0 0)) = some u := h
    rw [hv0] at h
    cases h
  | map nm k hk =>
    have h : (osel (r nm) none fun b' => some (.map (some b'))) = some u := h
    obtain ⟨b, h1, h⟩ := osel_ne h (by simp)
    cases h
    exact .map b k (hr _ _ _ h1 hk)
  | func g as as' bs bs' e1 e2 e3 e4 =>
    have h : (osel (renL f as) none fun as' => osel (renL f bs) none fun bs' => some (Value.func (.func g) ⟨as'⟩ ⟨bs'⟩)) = some u := h
    obtain ⟨a, h1, h⟩ := osel_ne h (by simp)
    obtain ⟨b, h2, h⟩ := osel_ne h (by simp)
    cases h
    have q1 := renL_ok hf h1 (show VRL σ as as' from ⟨e1, e2⟩)
    have q2 := renL_ok hf h2 (show VRL σ bs bs' from ⟨e3, e4⟩)
    exact .func g a as' b bs' q1.1 q1.2 q2.1 q2.2
  | yield l k hk => cases h
  | iface t x x' hx =>
    have h : (osel (f x) none fun u' => some (.iface t u')) = some u := h
    obtain ⟨y, h1, h⟩ := osel_ne h (by simp)
    cases h
    exact .iface t y x' (hf _ _ _ h1 hx)
  | agg as as' e0 e1 e2 =>
    have h : (osel (renL f as) none fun cs' => some (.agg ⟨cs'⟩)) = some u := h
    obtain ⟨a, h1, h⟩ := osel_ne h (by simp)
    cases h
    have q := renL_ok hf h1 (show VRL σ as as' from ⟨e1, e2⟩)
    exact .agg a as' (ones' q (ones ⟨e1, e2⟩ e0)) q.1 q.2
  | tuple as as' e1 e2 =>
    have h : (osel (renL f as) none fun cs' => some (.tuple ⟨cs'⟩)) = some u := h
    obtain ⟨a, h1, h⟩ := osel_ne h (by simp)
    cases h
    have q := renL_ok hf h1 (show VRL σ as as' from ⟨e1, e2⟩)
    exact .tuple a as' q.1 q.2

theorem renV_ok {r : Nat → Option Nat} {σ τ : Nm} (hr : RenOk r σ τ) (hv0 : r voidNm = none) : ∀ d, RenF (renV r d) σ τ
  | 0 => fun v u v' h hv => renV_flat h hv
  | d + 1 => ren1_ok hr hv0 (renV_ok hr hv0 d)

theorem renE_ok {f : Value → Option Value} {σ τ : Nm} (hf : RenF f σ τ) : ∀ {xs ys zs : List MapEntry}, renE f xs = some ys → ERL σ xs zs → ERL τ ys zs
  | [], ys, zs, h, hv => by cases h; exact ⟨hv.1, fun i e e' he => by simp at he⟩
  | x :: xs, ys, zs, h, hv => by
    have h : (osel (f x.key) none fun k => osel (f x.val) none fun v => osel (renE f xs) none fun ys => some ({ key := k, val := v, born := x.born } :: ys)) = some ys := h
    obtain ⟨k, h1, h⟩ := osel_ne h (by simp)
    obtain ⟨v, h2, h⟩ := osel_ne h (by simp)
    obtain ⟨ys', h3, h⟩ := osel_ne h (by simp)
    cases h
    cases zs with
    | nil => have := hv.1; simp at this
    | cons z zs =>
      obtain ⟨q1, q2, q3⟩ := hv.2 0 x z rfl rfl
      have ih := renE_ok hf h3 (zs := zs) ⟨by have := hv.1; simpa using this, fun i e e' he he' => hv.2 (i + 1) e e' (by simpa using he) (by simpa using he')⟩
      refine ⟨by simp [ih.1], fun i e e' he he' => ?_⟩
      cases i with
      | zero => simp at he he'; subst he; subst he'; exact ⟨hf _ _ _ h1 q1, hf _ _ _ h2 q2, q3⟩
      | succ i => exact ih.2 i e e' (by simpa using he) (by simpa using he')

theorem renO_ok {f : Value → Option Value} {σ τ : Nm} (hf : RenF f σ τ) {k : Blk} {w : World} {o u : AObj} (h : renO f o = some u) (ho : OR σ k w o) : OR τ k w u := by
  cases o with
  | cells d n es ex t =>
    have h : (osel (renL f (Bt.sub t (half d) 0 n [])) none fun xs => bsel (Nat.ble n (Nat.pow 2 d)) (some (.cells d n es ex (Bt.ofL d xs))) none) = some u := h
    obtain ⟨xs, h1, h⟩ := osel_ne h (by simp)
    obtain ⟨hn, h⟩ := bsel_ne h (by simp)
    cases h
    have hn : n ≤ 2 ^ d := ble_iff.1 hn
    obtain ⟨e1, e2, e3, e4, e5, c, e, e6, e7, e8, e9⟩ := ho
    rw [Bt.sub_eq e3, List.append_nil, List.drop_zero, Nat.sub_zero] at h1
    have hl := renL_len h1
    have hlen : (t.leaves.take n).length = n := by rw [List.length_take, Bt.perf_len e3]; omega
    have q := renL_ok hf h1 e9
    obtain ⟨p1, p2⟩ := Bt.ofL_perf d xs
    have et : (Bt.ofL d xs).leaves.take n = xs := by
      apply List.ext_getElem?
      intro i
      rw [List.getElem?_take]
      split
      · rename_i hi
        exact p2 i (by omega) (by omega)
      · rename_i hi
        rw [List.getElem?_eq_none (by omega)]
    refine ⟨e1, e2, p1, e4, ?_, c, e, e6, e7, e8, ?_⟩
    · rw [et]; exact ones' q (ones e9 e5)
    · rw [et]; exact q
  | map es c =>
    have h : (osel (renE f es) none fun es' => some (.map es' c)) = some u := h
    obtain ⟨es', h1, h⟩ := osel_ne h (by simp)
    cases h
    obtain ⟨es2, q1, q2⟩ := ho
    exact ⟨es2, q1, renE_ok hf h1 q2⟩
  | _ => cases h

theorem renO_alive {f : Value → Option Value} {o u : AObj} (h : renO f o = some u) : u ≠ .dead ∧ o ≠ .dead := by
  cases o with
  | cells d n es ex t =>
    have h : (osel (renL f (Bt.sub t (half d) 0 n [])) none fun xs => bsel (Nat.ble n (Nat.pow 2 d)) (some (AObj.cells d n es ex (Bt.ofL d xs))) none) = some u := h
    obtain ⟨xs, h1, h⟩ := osel_ne h (by simp)
    obtain ⟨hn, h⟩ := bsel_ne h (by simp)
    cases h
    simp
  | map es c =>
    have h : (osel (renE f es) none fun es' => some (AObj.map es' c)) = some u := h
    obtain ⟨es', h1, h⟩ := osel_ne h (by simp)
    cases h
    simp
  | _ => cases h

/-! ## Calls whose ends are known -/
/-- What is known of one call: its function and arguments; the objects that it looks at, and a bound of their names; what it yields, and the objects that it makes. -/
structure Known where
  f : FuncId
  args : List Value
  old : List (Nat × AObj)
  base : Nat
  v : Value
  new : List (Nat × AObj)

def layL (h : Heap) (l : List (Nat × AObj)) : Heap := List.rec h (fun p _ ih => putAt p.1 ih p.2) l
def allP (f : Nat → AObj → Bool) (l : List (Nat × AObj)) : Bool := List.rec true (fun p _ ih => bsel (f p.1 p.2) ih false) l
def hasP (l : List (Nat × AObj)) (nm : Nat) : Bool := List.rec false (fun p _ ih => bsel (Nat.beq p.1 nm) true ih) l
/-- Where a new object goes: from i on. -/
def newAt (l : List (Nat × AObj)) (nm : Nat) : Nat → Option Nat := List.rec (fun _ => none) (fun p _ ih i => bsel (Nat.beq p.1 nm) (some i) (ih (Nat.succ i))) l
def renAt (old new : List (Nat × AObj)) (n nm : Nat) : Option Nat := bsel (hasP old nm) (some nm) (newAt new nm n)
def okE (o : Option Value) (v : Value) : Bool := osel o false fun u => vEq 3 u v

theorem allP_eq {f : Nat → AObj → Bool} : ∀ {l : List (Nat × AObj)}, allP f l = true → ∀ p, p ∈ l → f p.1 p.2 = true
  | [], _, p, hp => by simp at hp
  | q :: l, h, p, hp => by
    have h : bsel (f q.1 q.2) (allP f l) false = true := h
    obtain ⟨h1, h2⟩ := bsel_ne h (by simp)
    rcases List.mem_cons.1 hp with rfl | hp
    · exact h1
    · exact allP_eq h2 p hp

theorem hasP_eq {nm : Nat} : ∀ {l : List (Nat × AObj)}, hasP l nm = true ↔ ∃ p, p ∈ l ∧ p.1 = nm
  | [] => by simp [hasP]
  | q :: l => by
    have e : hasP (q :: l) nm = bsel (Nat.beq q.1 nm) true (hasP l nm) := rfl
    rw [e, bsel_eq]
    have ih := hasP_eq (nm := nm) (l := l)
    by_cases hq : q.1 = nm
    · rw [if_pos (beq_iff.2 hq)]
      simp [hq]
    · rw [if_neg (fun h => hq (beq_iff.1 h)), ih]
      simp [hq]

theorem newAt_eq {nm j : Nat} : ∀ {l : List (Nat × AObj)} {i : Nat}, newAt l nm i = some j → ∃ m o, j = i + m ∧ l[m]? = some (nm, o)
  | [], i, h => by cases h
  | q :: l, i, h => by
    have h : bsel (Nat.beq q.1 nm) (some i) (newAt l nm (i + 1)) = some j := h
    rw [bsel_eq] at h
    split at h
    · rename_i hq
      cases h
      have := beq_iff.1 hq
      exact ⟨0, q.2, rfl, by rw [← this]; rfl⟩
    · obtain ⟨m, o, h1, h2⟩ := newAt_eq h
      exact ⟨m + 1, o, by omega, h2⟩

theorem layL_obj {h : Heap} {nm : Nat} : ∀ {l : List (Nat × AObj)}, (∀ p, p ∈ l → p.1 < 65536) → (∃ p, p ∈ l ∧ p.1 = nm ∧ objAt nm (layL h l) = p.2) ∨ ((∀ p, p ∈ l → p.1 ≠ nm) ∧ objAt nm (layL h l) = objAt nm h)
  | [], _ => .inr ⟨fun p hp => by simp at hp, rfl⟩
  | q :: l, hl => by
    have he : objAt nm (layL h (q :: l)) = if nm = q.1 then q.2 else objAt nm (layL h l) := objAt_put (hl q (by simp))
    by_cases e : nm = q.1
    · exact .inl ⟨q, by simp, e.symm, by rw [he, if_pos e]⟩
    · rw [he, if_neg e]
      rcases layL_obj (h := h) (nm := nm) (l := l) (fun p hp => hl p (by simp [hp])) with ⟨p, h1, h2, h3⟩ | ⟨h1, h2⟩
      · exact .inl ⟨p, by simp [h1], h2, h3⟩
      · refine .inr ⟨fun p hp => ?_, h2⟩
        rcases List.mem_cons.1 hp with rfl | hp
        · exact fun h => e h.symm
        · exact h1 p hp

/-- The new objects, renamed, from a name on. -/
def layN (f : Value → Option Value) (l : List (Nat × AObj)) : Nat → Heap → Option St :=
  List.rec (fun n h => some ⟨h, n⟩) (fun p _ ih n h => bsel (Nat.ble 65536 n) none (osel (renO f p.2) none fun o => ih (Nat.succ n) (putAt n h o))) l

theorem layN_eq {f : Value → Option Value} : ∀ {l : List (Nat × AObj)} {n : Nat} {h : Heap} {st : St}, layN f l n h = some st →
    st.next = n + l.length ∧ (l = [] ∨ st.next ≤ 65536) ∧ (∀ nm, nm < n → st.obj nm = objAt nm h) ∧ (∀ nm, n + l.length ≤ nm → st.obj nm = objAt nm h) ∧ ∀ (i : Nat) (p : Nat × AObj), l[i]? = some p → ∃ o, renO f p.2 = some o ∧ st.obj (n + i) = o
  | [], n, h, st, e => by
    have e : some (St.mk h n) = some st := e
    cases e
    exact ⟨rfl, .inl rfl, fun nm _ => rfl, fun nm _ => rfl, fun i p hp => by simp at hp⟩
  | q :: l, n, h, st, e => by
    have e : bsel (Nat.ble 65536 n) none (osel (renO f q.2) none fun o => layN f l (n + 1) (putAt n h o)) = some st := e
    cases hb : Nat.ble 65536 n with
    | true => rw [hb] at e; cases e
    | false =>
      rw [hb, bsel_false] at e
      have hn := ble_false hb
      obtain ⟨o, h1, e⟩ := osel_ne e (by simp)
      obtain ⟨g1, g2, g3, g4, g5⟩ := layN_eq e
      have hlen : (q :: l).length = l.length + 1 := rfl
      refine ⟨by rw [g1, hlen]; omega, .inr ?_, fun nm hnm => ?_, fun nm hnm => ?_, fun i p hp => ?_⟩
      · rcases g2 with rfl | g2
        · rw [g1]; simp; omega
        · exact g2
      · rw [g3 nm (by omega), objAt_put hn, if_neg (by omega)]
      · rw [g4 nm (by rw [hlen] at hnm; omega), objAt_put hn, if_neg (by rw [hlen] at hnm; omega)]
      · cases i with
        | zero =>
          simp at hp
          subst hp
          exact ⟨o, h1, by rw [Nat.add_zero, g3 n (by omega), objAt_put hn, if_pos rfl]⟩
        | succ i =>
          obtain ⟨o', q1, q2⟩ := g5 i p (by simpa using hp)
          exact ⟨o', q1, by rw [← q2]; congr 1; omega⟩

namespace Known
variable (k : Known)
def st : St := ⟨layL heap0 k.old, k.base⟩

def fits (args : List Value) (st : St) : Bool := St.rec (fun h n => bsel (vEqL (vEq 3) args k.args) (allP (fun nm o => objEq (objAt nm h) o) k.old) false) st
def ren (n : Nat) : Value → Option Value := renV (renAt k.old k.new n) 3
def after (st : St) : Re := St.rec (fun h n => osel (layN (k.ren n) k.new n h) .no fun st' => osel (k.ren n k.v) .no fun v => .ok v st') st
def «at» : Orc := fun f args st => bsel (Nat.beq f k.f) (bsel (k.fits args st) (k.after st) .no) .no

/-- Nothing else is named in what it looks at. -/
def closedV (v : Value) : Bool := okE (renV (fun nm => bsel (hasP k.old nm) (some nm) none) 3 v) v
def closedL (vs : List Value) : Bool := List.rec true (fun v _ ih => bsel (k.closedV v) ih false) vs
def fresh (l : List (Nat × AObj)) : Bool := List.rec true (fun p l' ih => bsel (hasP l' p.1) false ih) l
def formed : Bool := bsel (Nat.ble k.base 65536) (bsel (allP (fun nm _ => Nat.ble (Nat.succ nm) k.base) k.old) (bsel (k.closedL k.args) (fresh k.new) false) false) false
def endOk (st2 : St) : Bool := St.rec (fun h _ => bsel (allP (fun nm o => objEq (objAt nm h) o) k.old)
  (allP (fun nm o => bsel (Nat.ble k.base nm) (objEq (objAt nm h) o) false) k.new) false) st2
def atEnd (r : Re) : Bool := Re.rec false (fun v st2 => bsel (vEq 3 v k.v) (k.endOk st2) false) r
def isRow (o : AObj) : Bool := match o with | .cells d n _ _ t => k.closedL (Bt.sub t (half d) 0 n []) | .map .. => false | _ => false
def rows : Bool := allP (fun _ o => k.isRow o) k.old
/-- The call was followed. -/
def run (P : Program) (O : Orc) (K : Nat) : Bool := bsel k.formed (bsel k.rows (k.atEnd (callF P (evCode P O K) k.f k.args k.st)) false) false
end Known

theorem fits_eq {k : Known} {args : List Value} {st : St} (h : k.fits args st = true) : args = k.args ∧ ∀ p, p ∈ k.old → st.obj p.1 = p.2 ∧ p.2 ≠ .dead := by
  obtain ⟨hp, n⟩ := st
  have h : bsel (vEqL (vEq 3) args k.args) (allP (fun nm o => objEq (objAt nm hp) o) k.old) false = true := h
  obtain ⟨h2, h3⟩ := bsel_ne h (by simp)
  exact ⟨vEqL_eq (fun _ _ => vEq_eq 3) h2, fun p hp => objEq_eq (allP_eq h3 p hp)⟩

theorem endOk_eq {k : Known} {st : St} (h : k.endOk st = true) : (∀ p, p ∈ k.old → st.obj p.1 = p.2) ∧ ∀ p, p ∈ k.new → k.base ≤ p.1 ∧ st.obj p.1 = p.2 ∧ p.2 ≠ .dead := by
  obtain ⟨hp, n⟩ := st
  have h : bsel (allP (fun nm o => objEq (objAt nm hp) o) k.old) (allP (fun nm o => bsel (Nat.ble k.base nm) (objEq (objAt nm hp) o) false) k.new) false = true := h
  obtain ⟨h2, h3⟩ := bsel_ne h (by simp)
  refine ⟨fun p hp => (objEq_eq (allP_eq h2 p hp)).1, fun p hp => ?_⟩
  obtain ⟨g1, g3⟩ := bsel_ne (allP_eq h3 p hp) (by simp)
  exact ⟨ble_iff.1 g1, objEq_eq g3⟩

theorem fresh_eq : ∀ {l : List (Nat × AObj)}, Known.fresh l = true → ∀ (i j : Nat) (p q : Nat × AObj), l[i]? = some p → l[j]? = some q → p.1 = q.1 → i = j
  | [], _, i, j, p, q, h, _, _ => by simp at h
  | x :: l, h, i, j, p, q, hp, hq, e => by
    have h : bsel (hasP l x.1) false (Known.fresh l) = true := h
    rw [bsel_eq] at h
    split at h
    · cases h
    · rename_i hno
      have hno : ∀ y, y ∈ l → y.1 ≠ x.1 := fun y hy he => hno (hasP_eq.2 ⟨y, hy, he⟩)
      cases i with
      | zero =>
        cases j with
        | zero => rfl
        | succ j =>
          simp at hp hq
          subst hp
          exact absurd e.symm (hno q (List.mem_of_getElem? hq))
      | succ i =>
        cases j with
        | zero =>
          simp at hp hq
          subst hq
          exact absurd e (hno p (List.mem_of_getElem? hp))
        | succ j => rw [fresh_eq h i j p q (by simpa using hp) (by simpa using hq) e]

/-- The names of before. -/
def oldNm (k : Known) (σ : Nm) : Nm := fun nm => if hasP k.old nm = true then σ nm else none

theorem oldNm_sub (k : Known) (σ : Nm) : Sub (oldNm k σ) σ := fun nm b h => by
  unfold oldNm at h
  split at h
  · exact h
  · cases h

theorem closedV_ok {k : Known} {σ : Nm} (hv0 : hasP k.old voidNm = false) {v v' : Value} (h : k.closedV v = true) (hv : VR σ v v') : VR (oldNm k σ) v v' := by
  unfold Known.closedV okE at h
  obtain ⟨u, h1, h2⟩ := osel_ne h (by simp)
  have := vEq_eq 3 h2; subst this
  refine renV_ok (σ := σ) (fun nm nm' b e hb => ?_) ?_ 3 _ _ v' h1 hv
  · rw [bsel_eq] at e
    split at e
    · rename_i ho
      cases e
      unfold oldNm; rw [if_pos ho]; exact hb
    · cases e
  · rw [hv0]; rfl

theorem closedL_ok {k : Known} {σ : Nm} (hv0 : hasP k.old voidNm = false) : ∀ {vs vs' : List Value}, k.closedL vs = true → VRL σ vs vs' → VRL (oldNm k σ) vs vs'
  | [], vs', h, hv => ⟨hv.1, fun i u v hu => by simp at hu⟩
  | v :: vs, vs', h, hv => by
    have h : bsel (k.closedV v) (k.closedL vs) false = true := h
    obtain ⟨h1, h2⟩ := bsel_ne h (by simp)
    obtain ⟨b, bs, rfl, q1, q2⟩ := hv.cons_inv
    exact .cons (closedV_ok hv0 h1 q1) (closedL_ok hv0 h2 q2)

structure Formed (k : Known) : Prop where
  lim : k.base ≤ 65536
  low : ∀ p, p ∈ k.old → p.1 < k.base
  args : k.closedL k.args = true
  once : ∀ (i j : Nat) (p q : Nat × AObj), k.new[i]? = some p → k.new[j]? = some q → p.1 = q.1 → i = j
  void : hasP k.old voidNm = false

theorem formed_eq {k : Known} (h : k.formed = true) : Formed k := by
  unfold Known.formed at h
  obtain ⟨h1, h⟩ := bsel_ne h (by simp)
  obtain ⟨h2, h⟩ := bsel_ne h (by simp)
  obtain ⟨h3, h4⟩ := bsel_ne h (by simp)
  have low : ∀ p, p ∈ k.old → p.1 < k.base := fun p hp => ble_iff.1 (allP_eq h2 p hp)
  refine ⟨ble_iff.1 h1, low, h3, fresh_eq h4, ?_⟩
  cases hv : hasP k.old voidNm with
  | false => rfl
  | true =>
    obtain ⟨p, q1, q2⟩ := hasP_eq.1 hv
    have := low p q1
    have := ble_iff.1 h1
    have e : voidNm = 1073741824 := rfl
    omega

/-- The objects of a state that the call has looked at. -/
theorem Rel.part {σ : Nm} {st : St} {w : World} {k : Known} (hr : Rel σ st w) (hk : Formed k) (hrow : k.rows = true) (ho : ∀ p, p ∈ k.old → st.obj p.1 = p.2 ∧ p.2 ≠ .dead) :
    Rel (oldNm k σ) k.st w ∧ (∀ nm, Alive k.st nm → k.st.obj nm = st.obj nm ∧ Alive st nm ∧ ∃ p, p ∈ k.old ∧ p.1 = nm) := by
  have key : ∀ nm, (∃ p, p ∈ k.old ∧ p.1 = nm ∧ k.st.obj nm = p.2) ∨ ((∀ p, p ∈ k.old → p.1 ≠ nm) ∧ k.st.obj nm = .dead) := by
    intro nm
    rcases layL_obj (h := heap0) (nm := nm) (l := k.old) (fun p hp => by have := hk.low p hp; have := hk.lim; omega) with h | ⟨h1, h2⟩
    · exact .inl h
    · refine .inr ⟨h1, ?_⟩
      show objAt nm (layL heap0 k.old) = .dead
      rw [h2]
      by_cases hn : nm < 65536
      · unfold objAt
        rw [bsel_eq, if_neg (by rw [ble_iff]; omega)]
        exact heap0_get hn
      · exact objAt_big (by omega)
  have hal : ∀ nm, Alive k.st nm → k.st.obj nm = st.obj nm ∧ Alive st nm ∧ ∃ p, p ∈ k.old ∧ p.1 = nm := by
    intro nm ha
    rcases key nm with ⟨p, h1, h2, h3⟩ | ⟨_, h⟩
    · obtain ⟨g1, g2⟩ := ho p h1
      rw [h2] at g1
      exact ⟨by rw [h3, g1], by unfold Alive; rw [g1]; exact g2, p, h1, h2⟩
    · exact absurd h ha
  have hs : ∀ nm b, Alive k.st nm → σ nm = some b → oldNm k σ nm = some b := fun nm b ha hb => by
    obtain ⟨_, _, p, h1, h2⟩ := hal nm ha
    unfold oldNm; rw [if_pos (hasP_eq.2 ⟨p, h1, h2⟩)]; exact hb
  refine ⟨⟨fun nm ha => ?_, fun nm nm' b b' ha ha' e e' => hr.apart nm nm' b b' (hal nm ha).2.1 (hal nm' ha').2.1 (oldNm_sub k σ _ _ e) (oldNm_sub k σ _ _ e'), fun nm hnm => ⟨?_, fun ha => ?_⟩, fun nm b e => hr.bound nm b (oldNm_sub k σ _ _ e), hk.lim⟩, hal⟩
  · obtain ⟨h1, h2, p, h3, h4⟩ := hal nm ha
    obtain ⟨b, e1, e2⟩ := hr.obj nm h2
    refine ⟨b, hs nm b ha e1, ?_⟩
    subst h4
    have hrow : k.isRow p.2 = true := allP_eq hrow p h3
    rw [h1]
    rw [(ho p h3).1] at e2 ⊢
    cases hp : p.2 with
    | cells d n es ex t =>
      rw [hp] at e2 hrow
      have hrow : k.closedL (Bt.sub t (half d) 0 n []) = true := hrow
      obtain ⟨q1, q2, q3, q4, q5, c, e, q6, q7, q8, q9⟩ := e2
      rw [Bt.sub_eq q3, List.append_nil, List.drop_zero, Nat.sub_zero] at hrow
      exact ⟨q1, q2, q3, q4, q5, c, e, q6, q7, q8, closedL_ok hk.void hrow q9⟩
    | _ => rw [hp] at hrow; cases hrow
  · unfold oldNm
    have hnm : k.base ≤ nm := hnm
    rw [if_neg fun h => ?_]
    obtain ⟨p, h1, h2⟩ := hasP_eq.1 h
    have := hk.low p h1
    omega
  · obtain ⟨_, _, p, h3, h4⟩ := hal nm ha
    have := hk.low p h3
    have hnm : k.base ≤ nm := hnm
    omega

/-- The names behind it. -/
def newNm (k : Known) (n : Nat) (σ σ' : Nm) : Nm := fun nm => if nm < n then σ nm else match k.new[nm - n]? with | some p => σ' p.1 | none => none

theorem known_end {σ σ' : Nm} {st st2 st' : St} {w w' : World} {k : Known} (hr : Rel σ st w) (hk : Formed k) (ho : ∀ p, p ∈ k.old → st.obj p.1 = p.2 ∧ p.2 ≠ .dead)
    (rp : Rel (oldNm k σ) k.st w) (hal : ∀ nm, Alive k.st nm → k.st.obj nm = st.obj nm ∧ Alive st nm ∧ ∃ p, p ∈ k.old ∧ p.1 = nm)
    (g2 : ∀ p, p ∈ k.old → st2.obj p.1 = p.2) (g3 : ∀ p, p ∈ k.new → k.base ≤ p.1 ∧ st2.obj p.1 = p.2 ∧ p.2 ≠ .dead)
    (r2 : Rel σ' st2 w') (x2 : Ext (oldNm k σ) k.st w σ' st2 w') (hlay : layN (k.ren st.next) k.new st.next st.heap = some st') :
    RenOk (renAt k.old k.new st.next) σ' (newNm k st.next σ σ') ∧ Rel (newNm k st.next σ σ') st' w' ∧ Ext σ st w (newNm k st.next σ σ') st' w' := by
  obtain ⟨l1, l2, l3, l4, l5⟩ := layN_eq hlay
  have olds : ∀ nm, Alive st nm → nm < st.next := fun nm ha => by
    rcases Nat.lt_or_ge nm st.next with h | h
    · exact h
    · exact absurd ha (hr.fresh nm h).2
  have oldA : ∀ p, p ∈ k.old → Alive st p.1 := fun p hp => by unfold Alive; rw [(ho p hp).1]; exact (ho p hp).2
  have oldS : ∀ nm, (∃ p, p ∈ k.old ∧ p.1 = nm) → σ' nm = σ nm := by
    intro nm ⟨p, h1, h2⟩
    subst h2
    rw [x2.low p.1 (hk.low p h1)]
    unfold oldNm
    rw [if_pos (hasP_eq.2 ⟨p, h1, rfl⟩)]
  have hsub : Sub σ (newNm k st.next σ σ') := fun nm b h => by
    have := hr.name_lt h
    unfold newNm; rw [if_pos this]; exact h
  have newS : ∀ (i : Nat) (p : Nat × AObj), k.new[i]? = some p → newNm k st.next σ σ' (st.next + i) = σ' p.1 := fun i p hp => by
    unfold newNm
    rw [if_neg (by omega), Nat.add_sub_cancel_left, hp]
  have hren : RenOk (renAt k.old k.new st.next) σ' (newNm k st.next σ σ') := by
    intro nm nm' b h hb
    unfold renAt at h
    rw [bsel_eq] at h
    split at h
    · rename_i hold
      cases h
      have hold := hasP_eq.1 hold
      rw [oldS nm hold] at hb
      exact hsub nm b hb
    · obtain ⟨m, o, rfl, hm⟩ := newAt_eq h
      rw [newS m _ hm]; exact hb
  have hv0 : renAt k.old k.new st.next voidNm = none := by
    unfold renAt
    rw [hk.void, bsel_false]
    cases hn : newAt k.new voidNm st.next with
    | none => rfl
    | some j =>
      obtain ⟨m, o, _, hm⟩ := newAt_eq hn
      obtain ⟨_, q2, q3⟩ := g3 _ (List.mem_of_getElem? hm)
      rw [St.obj_eq, objAt_big (show 65536 ≤ voidNm by decide)] at q2
      exact absurd q2.symm q3
  have hRF : RenF (k.ren st.next) σ' (newNm k st.next σ σ') := renV_ok hren hv0 3
  -- an object behind it: a new one, or one of before
  have key : ∀ nm, (∃ i p, k.new[i]? = some p ∧ nm = st.next + i ∧ Alive st2 p.1 ∧ (∃ o, renO (k.ren st.next) p.2 = some o ∧ st'.obj nm = o) ∧ st2.obj p.1 = p.2 ∧ k.base ≤ p.1) ∨ ((nm < st.next ∨ st.next + k.new.length ≤ nm) ∧ st'.obj nm = st.obj nm) := by
    intro nm
    by_cases h1 : nm < st.next
    · exact .inr ⟨.inl h1, by rw [l3 nm h1, St.obj_eq]⟩
    · by_cases h2 : st.next + k.new.length ≤ nm
      · exact .inr ⟨.inr h2, by rw [l4 nm h2, St.obj_eq]⟩
      · have hi : nm - st.next < k.new.length := by omega
        have hp : k.new[nm - st.next]? = some k.new[nm - st.next] := by simp [hi]
        obtain ⟨o, q1, q2⟩ := l5 _ _ hp
        obtain ⟨t1, t2, t3⟩ := g3 _ (List.mem_of_getElem? hp)
        have e : st.next + (nm - st.next) = nm := by omega
        rw [e] at q2
        exact .inl ⟨nm - st.next, _, hp, by omega, by unfold Alive; rw [t2]; exact t3, ⟨o, q1, q2⟩, t2, t1⟩
  have newb : ∀ nm b, Alive st2 nm → k.base ≤ nm → σ' nm = some b → w.heap.size ≤ b.b := by
    intro nm b ha hb hs
    rcases Nat.lt_or_ge b.b w.heap.size with h | h
    · obtain ⟨nm2, b2, q1, q2, q3⟩ := x2.own b.b h ⟨nm, b, ha, hs, rfl⟩
      obtain ⟨_, _, p, q4, q5⟩ := hal nm2 q1
      have := hk.low p q4
      have ha2 : Alive st2 nm2 := by
        unfold Alive
        rw [← q5, g2 p q4]
        exact (ho p q4).2
      have := r2.apart nm2 nm b2 b ha2 ha (x2.sub _ _ q2) hs q3
      omega
    · exact h
  have hd : ∀ nm, 65536 ≤ nm → σ' nm = none := fun nm hn => (r2.fresh nm (Nat.le_trans r2.lim hn)).1
  have nameS : ∀ nm b, nm < st.next → newNm k st.next σ σ' nm = some b → σ nm = some b := by
    intro nm b ha hs
    unfold newNm at hs; rw [if_pos ha] at hs; exact hs
  have hR : Rel (newNm k st.next σ σ') st' w' := by
    refine ⟨fun nm ha => ?_, fun nm nm' b b' ha ha' hs hs' hb => ?_, fun nm hnm => ?_, fun nm b hs => ?_, ?_⟩
    · rcases key nm with ⟨i, p, h1, h2, h3, ⟨o, h4, h5⟩, h6, h7⟩ | ⟨h1, h⟩
      · obtain ⟨b, q1, q2⟩ := r2.obj p.1 h3
        rw [h6] at q2
        refine ⟨b, by rw [h2, newS i p h1]; exact q1, ?_⟩
        rw [h5]
        exact renO_ok hRF h4 q2
      · unfold Alive at ha
        rw [h] at ha ⊢
        obtain ⟨b, q1, q2⟩ := hr.obj nm ha
        by_cases hold : ∃ p, p ∈ k.old ∧ p.1 = nm
        · obtain ⟨p, p1, p2⟩ := hold
          subst p2
          have e : st2.obj p.1 = st.obj p.1 := by rw [g2 p p1, (ho p p1).1]
          have ha2 : Alive st2 p.1 := by unfold Alive; rw [e]; exact ha
          have hak : Alive k.st p.1 ∧ k.st.obj p.1 = st.obj p.1 := by
            have : Alive k.st p.1 := by
              rcases layL_obj (h := heap0) (nm := p.1) (l := k.old) (fun q hq => by have := hk.low q hq; have := hk.lim; omega) with ⟨q, t1, t2, t3⟩ | ⟨t1, _⟩
              · unfold Alive
                have t3 : k.st.obj p.1 = q.2 := t3
                rw [t3]; exact (ho q t1).2
              · exact absurd rfl (t1 p p1)
            exact ⟨this, (hal p.1 this).1⟩
          obtain ⟨b0, s1, s2⟩ := rp.obj p.1 hak.1
          obtain ⟨b2, s3, s4⟩ := r2.obj p.1 ha2
          rw [x2.sub _ _ s1] at s3; cases s3
          rw [hak.2] at s2
          rw [e] at s4
          refine ⟨b0, hsub _ _ (oldNm_sub k σ _ _ s1), ?_⟩
          exact (s2.re x2.sub hd s4).mono (fun x c hx => hsub _ _ (oldNm_sub k σ _ _ hx)) rfl
        · refine ⟨b, hsub _ _ q1, q2.mono hsub (x2.kept b.b (hr.bound nm b q1) fun ⟨nm2, b2, t1, t2, t3⟩ => ?_)⟩
          obtain ⟨_, t4, t5⟩ := hal nm2 t1
          have := hr.apart nm2 nm b2 b t4 ha (oldNm_sub k σ _ _ t2) q1 t3
          subst this
          exact hold t5
    · rcases key nm with ⟨i, p, h1, h2, h3, _, _, h7⟩ | ⟨h0, h⟩ <;> rcases key nm' with ⟨i', p', h1', h2', h3', _, _, h7'⟩ | ⟨h0', h'⟩
      · rw [h2, newS i p h1] at hs
        rw [h2', newS i' p' h1'] at hs'
        have := r2.apart p.1 p'.1 b b' h3 h3' hs hs' hb
        have := hk.once i i' p p' h1 h1' this
        omega
      · have hA : Alive st nm' := by unfold Alive at ha' ⊢; rw [h'] at ha'; exact ha'
        rw [h2, newS i p h1] at hs
        have := newb p.1 b h3 h7 hs
        have := hr.bound nm' b' (nameS nm' b' (olds nm' hA) hs')
        omega
      · have hA : Alive st nm := by unfold Alive at ha ⊢; rw [h] at ha; exact ha
        rw [h2', newS i' p' h1'] at hs'
        have := newb p'.1 b' h3' h7' hs'
        have := hr.bound nm b (nameS nm b (olds nm hA) hs)
        omega
      · have hA : Alive st nm := by unfold Alive at ha ⊢; rw [h] at ha; exact ha
        have hA' : Alive st nm' := by unfold Alive at ha' ⊢; rw [h'] at ha'; exact ha'
        exact hr.apart nm nm' b b' hA hA' (nameS nm b (olds nm hA) hs) (nameS nm' b' (olds nm' hA') hs') hb
    · rw [l1] at hnm
      refine ⟨?_, fun ha => ?_⟩
      · unfold newNm
        rw [if_neg (by omega), List.getElem?_eq_none (by omega)]
      · rcases key nm with ⟨i, p, h1, h2, _⟩ | ⟨_, h⟩
        · have := (List.getElem?_eq_some_iff.1 h1).1
          omega
        · have hA : Alive st nm := by unfold Alive at ha ⊢; rw [h] at ha; exact ha
          have := olds nm hA
          omega
    · unfold newNm at hs
      split at hs
      · exact Nat.lt_of_lt_of_le (hr.bound nm b hs) x2.size
      · split at hs
        · exact r2.bound _ b hs
        · cases hs
    · rcases l2 with h | h
      · rw [l1, h]; exact hr.lim
      · exact h
  refine ⟨hren, hR, hsub, by rw [l1]; omega, x2.size, fun b hb ⟨nm, c, q1, q2, q3⟩ => ?_, fun b hb hno => x2.kept b hb fun ⟨nm, c, q1, q2, q3⟩ => hno ⟨nm, c, (hal nm q1).2.1, oldNm_sub k σ _ _ q2, q3⟩, x2.tape, x2.os, x2.output, fun nm hnm => by unfold newNm; rw [if_pos hnm]⟩
  rcases key nm with ⟨i, p, h1, h2, h3, _, _, h7⟩ | ⟨_, h⟩
  · rw [h2, newS i p h1] at q2
    have := newb p.1 c h3 h7 q2
    omega
  · have hA : Alive st nm := by unfold Alive at q1 ⊢; rw [h] at q1; exact q1
    exact ⟨nm, c, hA, nameS nm c (olds nm hA) q2, q3⟩

theorem known_ok {P : Program} (hm : P.follows .mixedOrders = true) {O : Orc} (hO : OrcOk P O) {K : Nat} {k : Known} (h : k.run P O K = true) : OrcOk P k.at := by
  intro f args st v st' hat σ w args' hr ha n ro
  unfold Known.run at h
  obtain ⟨hk, h⟩ := bsel_ne h (by simp)
  obtain ⟨hrow, h⟩ := bsel_ne h (by simp)
  have hk := formed_eq hk
  unfold Known.at at hat
  obtain ⟨hf, hat1⟩ := bsel_ne hat Re.no_ne
  obtain ⟨hfit, hat2⟩ := bsel_ne hat1 Re.no_ne
  have hf := beq_iff.1 hf
  clear hat hat1
  subst hf
  obtain ⟨rfl, e3⟩ := fits_eq hfit
  have hat3 : (osel (layN (k.ren st.next) k.new st.next st.heap) Re.no fun st' => osel (k.ren st.next k.v) .no fun v => .ok v st') = .ok v st' := hat2
  obtain ⟨st3, hlay, hat4⟩ := osel_ne hat3 Re.no_ne
  obtain ⟨v3, hv3, hat5⟩ := osel_ne hat4 Re.no_ne
  obtain ⟨rfl, rfl⟩ := Re.ok_inj hat5
  obtain ⟨rp, hal⟩ := hr.part hk hrow e3
  cases hc : callF P (evCode P O K) k.f k.args k.st with
  | no => rw [hc] at h; cases h
  | ok v2 st2 =>
    rw [hc] at h
    have h : bsel (vEq 3 v2 k.v) (k.endOk st2) false = true := h
    obtain ⟨h1, h2⟩ := bsel_ne h (by simp)
    have := vEq_eq 3 h1; subst this
    obtain ⟨g2, g3⟩ := endOk_eq h2
    have hcall := callF_ok (code_ok hO (fun rec hrec => reg_ok hm hrec) K) hc rp (closedL_ok hk.void hk.args ha) n ro
    refine CallsIn.mono hcall fun e w' he => ?_
    obtain ⟨σ', v', rfl, hv, r2, x2⟩ := he
    obtain ⟨q1, q2, q3⟩ := known_end hr hk e3 rp hal g2 g3 r2 x2 hlay
    refine ⟨newNm k st.next σ σ', v', rfl, ?_, q2, q3⟩
    refine renV_ok q1 ?_ 3 _ _ _ hv3 hv
    unfold renAt
    rw [hk.void, bsel_false]
    cases hn : newAt k.new voidNm st.next with
    | none => rfl
    | some j =>
      obtain ⟨m, o, _, hm⟩ := newAt_eq hn
      obtain ⟨_, q2, q3⟩ := g3 _ (List.mem_of_getElem? hm)
      rw [St.obj_eq, objAt_big (show 65536 ≤ voidNm by decide)] at q2
      exact absurd q2.symm q3

/-- All that is known. -/
def orc (ks : List Known) : Orc := fun f args st => List.rec .no (fun k _ ih => Re.rec ih (fun v st => .ok v st) (k.at f args st)) ks

theorem orc_ok {P : Program} : ∀ {ks : List Known}, (∀ k, k ∈ ks → OrcOk P k.at) → OrcOk P (orc ks)
  | [], _ => fun f args st v st' h => by cases h
  | k :: ks, hks => fun f args st v st' h => by
    have h : Re.rec (motive := fun _ => Re) (orc ks f args st) (fun v st => .ok v st) (k.at f args st) = .ok v st' := h
    cases hc : k.at f args st with
    | no => rw [hc] at h; exact orc_ok (fun q hq => hks q (by simp [hq])) f args st v st' h
    | ok v1 st1 => rw [hc] at h; cases h; exact hks k (by simp) f args st _ _ hc

theorem noOrc_ok {P : Program} : OrcOk P noOrc := fun f args st v st' h => by cases h
end
end Go.Proofs.YtieclenlldjfjaaGreat.Ev
