import Derived.Test.YtieclenlldjfjaaGreatE1
set_option autoImplicit false
set_option linter.unusedVariables false
set_option linter.unusedSimpArgs false
namespace Go.Proofs.YtieclenlldjfjaaGreat.Ev
open Go

/-! ## What a name is: a block, from where on, how many cells the block has, the cells of an element, whether caps are exact -/
structure Blk where
  b : Nat
  o : Nat
  N : Nat
  es : Nat
  ex : Bool

abbrev Nm := Nat → Option Blk

/-- The values that an abstract value stands for. -/
inductive VR (σ : Nm) : Value → Value → Prop where
  | bool (b : Bool) : VR σ (.bool b) (.bool b)
  | int (k : IntKind) (n : Int) : VR σ (.int k n) (.int k n)
  | string (s : ByteArray) : VR σ (.string s) (.string s)
  | nilptr : VR σ (.pointer none) (.pointer none)
  | ptr (nm off : Nat) (k : Blk) : σ nm = some k → VR σ (.pointer (some ⟨nm, off, none⟩)) (.pointer (some ⟨k.b, k.o + off, none⟩))
  | nilslice : VR σ (.slice none 0 0) (.slice none 0 0)
  | slice (nm off n c c' : Nat) (k : Blk) : σ nm = some k → n ≤ c → (k.ex = true → c' = c) → (k.ex = false → c ≤ c' ∧ k.o + off + c' * k.es ≤ k.N) →
      VR σ (.slice (some ⟨nm, off, none⟩) n c) (.slice (some ⟨k.b, k.o + off, none⟩) n c')
  | void (a : Addr) (c' : Nat) : VR σ voidS (.slice (some a) 0 c')
  | nilmap : VR σ (.map none) (.map none)
  | map (nm : Nat) (k : Blk) : σ nm = some k → VR σ (.map (some nm)) (.map (some k.b))
  | func (f : FuncId) (as as' bs bs' : List Value) : as.length = as'.length → (∀ (i : Nat) (u v : Value), as[i]? = some u → as'[i]? = some v → VR σ u v) →
      bs.length = bs'.length → (∀ (i : Nat) (u v : Value), bs[i]? = some u → bs'[i]? = some v → VR σ u v) → VR σ (.func (.func f) ⟨as⟩ ⟨bs⟩) (.func (.func f) ⟨as'⟩ ⟨bs'⟩)
  | yield (l : Nat) (k : Blk) : σ l = some k → VR σ (.func (.yield l) #[] #[]) (.func (.yield k.b) #[] #[])
  | nilFunc : VR σ .nilFunc .nilFunc
  | iface (t : TypeId) (u v : Value) : VR σ u v → VR σ (.iface t u) (.iface t v)
  | nilIface : VR σ .nilIface .nilIface
  | agg (as as' : List Value) : (∀ u, u ∈ as → u.oneCell' = true) → as.length = as'.length → (∀ (i : Nat) (u v : Value), as[i]? = some u → as'[i]? = some v → VR σ u v) → VR σ (.agg ⟨as⟩) (.agg ⟨as'⟩)
  | tuple (as as' : List Value) : as.length = as'.length → (∀ (i : Nat) (u v : Value), as[i]? = some u → as'[i]? = some v → VR σ u v) → VR σ (.tuple ⟨as⟩) (.tuple ⟨as'⟩)

/-- Lists, one by one. -/
def VRL (σ : Nm) (as bs : List Value) : Prop := as.length = bs.length ∧ ∀ (i : Nat) (u v : Value), as[i]? = some u → bs[i]? = some v → VR σ u v

def Sub (σ τ : Nm) : Prop := ∀ nm k, σ nm = some k → τ nm = some k

theorem Sub.refl (σ : Nm) : Sub σ σ := fun _ _ h => h
theorem Sub.trans {σ τ ρ : Nm} (h : Sub σ τ) (h' : Sub τ ρ) : Sub σ ρ := fun _ _ e => h' _ _ (h _ _ e)

theorem VR.mono {σ τ : Nm} (hs : Sub σ τ) {u v : Value} (h : VR σ u v) : VR τ u v := by
  induction h with
  | bool b => exact .bool b
  | int k n => exact .int k n
  | string s => exact .string s
  | nilptr => exact .nilptr
  | ptr nm off k hk => exact .ptr nm off k (hs _ _ hk)
  | nilslice => exact .nilslice
  | slice nm off n c c' k hk hn h1 h2 => exact .slice nm off n c c' k (hs _ _ hk) hn h1 h2
  | void a c' => exact .void a c'
  | nilmap => exact .nilmap
  | map nm k hk => exact .map nm k (hs _ _ hk)
  | func f as as' bs bs' h1 _ h3 _ ih1 ih2 => exact .func f as as' bs bs' h1 ih1 h3 ih2
  | yield l k hk => exact .yield l k (hs _ _ hk)
  | nilFunc => exact .nilFunc
  | iface t u v _ ih => exact .iface t u v ih
  | nilIface => exact .nilIface
  | agg as as' h0 h1 _ ih => exact .agg as as' h0 h1 ih
  | tuple as as' h1 _ ih => exact .tuple as as' h1 ih

theorem VRL.mono {σ τ : Nm} (hs : Sub σ τ) {as bs : List Value} (h : VRL σ as bs) : VRL τ as bs := ⟨h.1, fun i u v hu hv => (h.2 i u v hu hv).mono hs⟩
theorem VRL.nil {σ : Nm} : VRL σ [] [] := ⟨rfl, fun i u v h => by simp at h⟩
theorem VRL.cons {σ : Nm} {a b : Value} {as bs : List Value} (h : VR σ a b) (hs : VRL σ as bs) : VRL σ (a :: as) (b :: bs) := by
  refine ⟨by simp [hs.1], fun i u v hu hv => ?_⟩
  cases i with
  | zero => simp at hu hv; subst hu; subst hv; exact h
  | succ i => exact hs.2 i u v (by simpa using hu) (by simpa using hv)
theorem VRL.append {σ : Nm} {as bs as' bs' : List Value} (h : VRL σ as bs) (h' : VRL σ as' bs') : VRL σ (as ++ as') (bs ++ bs') := by
  refine ⟨by simp [h.1, h'.1], fun i u v hu hv => ?_⟩
  by_cases hc : i < as.length
  · rw [List.getElem?_append_left hc] at hu
    rw [List.getElem?_append_left (by rw [← h.1]; exact hc)] at hv
    exact h.2 i u v hu hv
  · rw [List.getElem?_append_right (by omega)] at hu
    rw [List.getElem?_append_right (by rw [← h.1]; omega)] at hv
    rw [← h.1] at hv
    exact h'.2 _ u v hu hv
theorem VRL.take {σ : Nm} {as bs : List Value} (h : VRL σ as bs) (n : Nat) : VRL σ (as.take n) (bs.take n) := by
  refine ⟨by simp [h.1], fun i u v hu hv => ?_⟩
  rw [List.getElem?_take] at hu hv
  split at hu
  · rename_i hc
    rw [if_pos hc] at hv
    exact h.2 i u v hu hv
  · cases hu
theorem VRL.drop {σ : Nm} {as bs : List Value} (h : VRL σ as bs) (n : Nat) : VRL σ (as.drop n) (bs.drop n) := by
  refine ⟨by simp [h.1], fun i u v hu hv => ?_⟩
  rw [List.getElem?_drop] at hu hv
  exact h.2 _ u v hu hv
theorem VRL.get {σ : Nm} {as bs : List Value} (h : VRL σ as bs) {i : Nat} {u : Value} (hu : as[i]? = some u) : ∃ v, bs[i]? = some v ∧ VR σ u v := by
  have hi : i < as.length := by
    rcases Nat.lt_or_ge i as.length with h' | h'
    · exact h'
    · rw [List.getElem?_eq_none h'] at hu; cases hu
  have hb : i < bs.length := h.1 ▸ hi
  exact ⟨bs[i], by simp [hb], h.2 i u _ hu (by simp [hb])⟩
theorem VRL.cons_inv {σ : Nm} {a : Value} {as bs : List Value} (h : VRL σ (a :: as) bs) : ∃ b bs', bs = b :: bs' ∧ VR σ a b ∧ VRL σ as bs' := by
  cases bs with
  | nil => exact absurd h.1 (by simp)
  | cons b bs => exact ⟨b, bs, rfl, h.2 0 a b rfl rfl, by have := h.1; simp at this; exact this, fun i u v hu hv => h.2 (i + 1) u v (by simpa using hu) (by simpa using hv)⟩
theorem VRL.nil_inv {σ : Nm} {bs : List Value} (h : VRL σ [] bs) : bs = [] := by cases bs with | nil => rfl | cons b bs => exact absurd h.1 (by simp)

theorem VR.junk (σ : Nm) : VR σ junk undef := .tuple [] [] rfl (fun i u v h => by simp at h)

/-- Values without addresses stand for themselves. -/
theorem VR.flat {σ : Nm} {v : Value} (h : flat v = true) : VR σ v v := by
  cases v with
  | bool b => exact .bool b
  | int k n => exact .int k n
  | string s => exact .string s
  | pointer a => cases a with | none => exact .nilptr | some a => simp [Ev.flat] at h
  | slice a n c =>
    cases a with
    | some a => simp [Ev.flat] at h
    | none =>
      cases n with
      | succ n => simp [Ev.flat] at h
      | zero => cases c with | succ c => simp [Ev.flat] at h | zero => exact .nilslice
  | map r => cases r with | none => exact .nilmap | some r => simp [Ev.flat] at h
  | nilFunc => exact .nilFunc
  | nilIface => exact .nilIface
  | _ => simp [Ev.flat] at h

theorem VRL.flat {σ : Nm} {xs : List Value} (h : xs.all Ev.flat = true) : VRL σ xs xs := by
  refine ⟨rfl, fun i u v hu hv => ?_⟩
  rw [hu] at hv
  cases hv
  exact VR.flat (List.all_eq_true.1 h u (List.mem_of_getElem? hu))

theorem flat_one {xs : List Value} (h : xs.all Ev.flat = true) : ∀ u, u ∈ xs → u.oneCell' = true := by
  intro u hu
  have := List.all_eq_true.1 h u hu
  cases u <;> simp_all [Ev.flat, Value.oneCell']

theorem VR.one {σ : Nm} {u v : Value} (h : VR σ u v) : u.oneCell' = v.oneCell' := by cases h <;> rfl

theorem VR.plain {σ : Nm} {v : Value} (h : plainV v = true) : VR σ v v := by
  cases v with
  | agg cs =>
    obtain ⟨cs⟩ := cs
    have hf : cs.all Ev.flat = true := by simpa [plainV] using h
    exact .agg cs cs (flat_one hf) (VRL.flat (σ := σ) hf).1 (VRL.flat hf).2
  | tuple cs => obtain ⟨cs⟩ := cs; have := VRL.flat (σ := σ) (xs := cs) (by simpa [plainV] using h); exact .tuple cs cs this.1 this.2
  | iface t v => exact .iface t v v (VR.flat (by simpa [plainV] using h))
  | _ => exact VR.flat (by simpa [plainV] using h)

/-! ## Objects -/
def ER (σ : Nm) (e e' : MapEntry) : Prop := VR σ e.key e'.key ∧ VR σ e.val e'.val ∧ e.born = e'.born
def ERL (σ : Nm) (es es' : List MapEntry) : Prop := es.length = es'.length ∧ ∀ (i : Nat) (e e' : MapEntry), es[i]? = some e → es'[i]? = some e' → ER σ e e'

/-- The temporaries. -/
def TR (σ : Nm) (n : Nat) (t : Regs) (tmps : Array Value) : Prop := n ≤ 512 ∧ tmps.size = n ∧ ∀ i, i < 512 → VR σ ((regAt i).g t) (tmps.getD i undef)

def LR (σ : Nm) (state : LoopState) (pending : Option Code) (n : Nat) (t : Regs) (params : Array Tmp) (assign body : Code) (df : Nat) (l : Loop) : Prop :=
  l.state = state ∧ l.pending = pending ∧ TR σ n t l.tmps ∧ l.params = params ∧ l.assign = assign ∧ l.body = body ∧ ∃ k, σ df = some k ∧ l.defers = k.b

def OR (σ : Nm) (k : Blk) (w : World) : AObj → Prop
  | .cells d n es ex t => k.es = es ∧ k.ex = ex ∧ t.perf d ∧ n ≤ 2 ^ d ∧ (∀ u, u ∈ t.leaves.take n → u.oneCell' = true) ∧ ∃ c e, w.heap[k.b]? = some (.cells ⟨c⟩ e (0, 0)) ∧ c.length = k.N ∧ k.o + n ≤ k.N ∧ VRL σ (t.leaves.take n) ((c.drop k.o).take n)
  | .map es clock => ∃ es', w.heap[k.b]? = some (.map ⟨es'⟩ clock) ∧ ERL σ es es'
  | .loop state pending n t params assign body df => ∃ l, w.heap[k.b]? = some (.loop l) ∧ LR σ state pending n t params assign body df l
  | .deferred => w.heap[k.b]? = some (.deferred (some []))
  | .dead => True

theorem TR.mono {σ τ : Nm} (hs : Sub σ τ) {n : Nat} {t : Regs} {tmps : Array Value} (h : TR σ n t tmps) : TR τ n t tmps := ⟨h.1, h.2.1, fun i hi => (h.2.2 i hi).mono hs⟩

theorem OR.mono {σ τ : Nm} (hs : Sub σ τ) {k : Blk} {w w' : World} {o : AObj} (hw : w'.heap[k.b]? = w.heap[k.b]?) (h : OR σ k w o) : OR τ k w' o := by
  cases o with
  | cells d n es ex t =>
    obtain ⟨h1, h2, h3, h4, h0, c, e, h5, h6, h7, h8⟩ := h
    exact ⟨h1, h2, h3, h4, h0, c, e, hw ▸ h5, h6, h7, h8.mono hs⟩
  | map es clock =>
    obtain ⟨es', h1, h2⟩ := h
    exact ⟨es', hw ▸ h1, h2.1, fun i e e' he he' => let ⟨a, b, c⟩ := h2.2 i e e' he he'; ⟨a.mono hs, b.mono hs, c⟩⟩
  | loop state pending n t params assign body df =>
    obtain ⟨l, h1, h2, h3, h4, h5, h6, h7, k', h8, h9⟩ := h
    exact ⟨l, hw ▸ h1, h2, h3, h4.mono hs, h5, h6, h7, k', hs _ _ h8, h9⟩
  | deferred => exact hw.trans h
  | dead => trivial

/-! ## The state -/
def Alive (st : St) (nm : Nat) : Prop := st.obj nm ≠ .dead

structure Rel (σ : Nm) (st : St) (w : World) : Prop where
  obj : ∀ nm, Alive st nm → ∃ k, σ nm = some k ∧ OR σ k w (st.obj nm)
  apart : ∀ nm nm' k k', Alive st nm → Alive st nm' → σ nm = some k → σ nm' = some k' → k.b = k'.b → nm = nm'
  fresh : ∀ nm, st.next ≤ nm → σ nm = none ∧ ¬ Alive st nm
  bound : ∀ nm k, σ nm = some k → k.b < w.heap.size
  lim : st.next ≤ 65536

/-- The blocks that belong to the state. -/
def Own (σ : Nm) (st : St) (b : Nat) : Prop := ∃ nm k, Alive st nm ∧ σ nm = some k ∧ k.b = b

structure Ext (σ : Nm) (st : St) (w : World) (σ' : Nm) (st' : St) (w' : World) : Prop where
  sub : Sub σ σ'
  next : st.next ≤ st'.next
  size : w.heap.size ≤ w'.heap.size
  own : ∀ b, b < w.heap.size → Own σ' st' b → Own σ st b
  kept : ∀ b, b < w.heap.size → ¬ Own σ st b → w'.heap[b]? = w.heap[b]?
  tape : w'.tape = w.tape
  os : w'.os = w.os
  output : w'.output = w.output
  low : ∀ nm, nm < st.next → σ' nm = σ nm

theorem Ext.refl (σ : Nm) (st : St) (w : World) : Ext σ st w σ st w :=
  ⟨.refl σ, Nat.le_refl _, Nat.le_refl _, fun _ _ h => h, fun _ _ _ => rfl, rfl, rfl, rfl, fun _ _ => rfl⟩

theorem Ext.trans {σ σ' σ'' : Nm} {st st' st'' : St} {w w' w'' : World} (h : Ext σ st w σ' st' w') (h' : Ext σ' st' w' σ'' st'' w'') : Ext σ st w σ'' st'' w'' :=
  ⟨h.sub.trans h'.sub, Nat.le_trans h.next h'.next, Nat.le_trans h.size h'.size,
   fun b hb ho => h.own b hb (h'.own b (Nat.lt_of_lt_of_le hb h.size) ho),
   fun b hb hn => (h'.kept b (Nat.lt_of_lt_of_le hb h.size) fun ho => hn (h.own b hb ho)).trans (h.kept b hb hn),
   h'.tape.trans h.tape, h'.os.trans h.os, h'.output.trans h.output,
   fun nm hn => (h'.low nm (Nat.lt_of_lt_of_le hn h.next)).trans (h.low nm hn)⟩

theorem Rel.drew {σ : Nm} {st : St} {w : World} (h : Rel σ st w) : Rel σ st { w with drawn := w.drawn + 1 } :=
  ⟨fun nm ha => let ⟨k, h1, h2⟩ := h.obj nm ha; ⟨k, h1, OR.mono (.refl σ) rfl h2⟩, h.apart, h.fresh, h.bound, h.lim⟩

theorem Ext.drew (σ : Nm) (st : St) (w : World) : Ext σ st w σ st { w with drawn := w.drawn + 1 } :=
  ⟨.refl σ, Nat.le_refl _, Nat.le_refl _, fun _ _ h => h, fun _ _ _ => rfl, rfl, rfl, rfl, fun _ _ => rfl⟩

theorem Rel.name_lt {σ : Nm} {st : St} {w : World} (h : Rel σ st w) {nm : Nat} {k : Blk} (hk : σ nm = some k) : nm < st.next := by
  rcases Nat.lt_or_ge nm st.next with h' | h'
  · exact h'
  · rw [(h.fresh nm h').1] at hk; cases hk

/-- A block is set, that belongs to a name: the state with the name's object as well. -/
theorem Rel.upd {σ : Nm} {st : St} {w w' : World} {nm : Nat} {k : Blk} {o : AObj} (h : Rel σ st w) (ha : Alive st nm) (hk : σ nm = some k)
    (hsize : w'.heap.size = w.heap.size) (hoth : ∀ b, b ≠ k.b → w'.heap[b]? = w.heap[b]?) (ho : OR σ k w' o)
    (ht : w'.tape = w.tape) (hos : w'.os = w.os) (hout : w'.output = w.output) :
    Rel σ (st.setObj nm o) w' ∧ Ext σ st w σ (st.setObj nm o) w' := by
  have hnm : nm < 65536 := by
    rcases Nat.lt_or_ge nm 65536 with h' | h'
    · exact h'
    · exact absurd (by rw [St.obj_eq]; exact objAt_big h') ha
  have hobj : ∀ x, (st.setObj nm o).obj x = if x = nm then o else st.obj x := by
    intro x
    rw [St.setObj_eq, St.obj_mk, objAt_put hnm, St.obj_eq]
  have halive : ∀ x, Alive (st.setObj nm o) x → Alive st x := by
    intro x hx
    by_cases e : x = nm
    · subst e; exact ha
    · unfold Alive at hx ⊢; rw [hobj, if_neg e] at hx; exact hx
  have hnext : (st.setObj nm o).next = st.next := by rw [St.setObj_eq]
  refine ⟨⟨fun x hx => ?_, fun x y kx ky hx hy h1 h2 h3 => h.apart x y kx ky (halive x hx) (halive y hy) h1 h2 h3, fun x hx => ?_, fun x kx hx => hsize ▸ h.bound x kx hx, by rw [hnext]; exact h.lim⟩,
    ⟨.refl σ, by rw [hnext]; exact Nat.le_refl _, by rw [hsize]; exact Nat.le_refl _, fun b _ ⟨x, kx, hx, h1, h2⟩ => ⟨x, kx, halive x hx, h1, h2⟩, fun b hb hn => hoth b fun e => hn ⟨nm, k, ha, hk, e.symm⟩, ht, hos, hout, fun _ _ => rfl⟩⟩
  · obtain ⟨kx, h1, h2⟩ := h.obj x (halive x hx)
    refine ⟨kx, h1, ?_⟩
    rw [hobj]
    split
    · rename_i e
      subst e
      rw [hk] at h1; cases h1
      exact ho
    · rename_i e
      exact OR.mono (.refl σ) (hoth _ fun hb => e (h.apart x nm kx k (halive x hx) ha h1 hk hb)) h2
  · rw [hnext] at hx
    exact ⟨(h.fresh x hx).1, fun hy => (h.fresh x hx).2 (halive x hy)⟩

/-- A new block. -/
theorem Rel.new {σ : Nm} {st : St} {w : World} {k : Blk} {o : AObj} {ob : Obj} (h : Rel σ st w) (hlt : st.next < 65536) (hk : k.b = w.heap.size)
    (ho : ∀ τ w', Sub σ τ → τ st.next = some k → w'.heap[k.b]? = some ob → OR τ k w' o) :
    ∃ σ', σ' st.next = some k ∧ Rel σ' ⟨putAt st.next st.heap o, st.next + 1⟩ { w with heap := w.heap.push ob } ∧ Ext σ st w σ' ⟨putAt st.next st.heap o, st.next + 1⟩ { w with heap := w.heap.push ob } := by
  let σ' : Nm := fun nm => if nm = st.next then some k else σ nm
  have hs : Sub σ σ' := fun nm kk e => by
    show (if nm = st.next then some k else σ nm) = some kk
    rw [if_neg (fun e' => by subst e'; rw [(h.fresh _ (Nat.le_refl _)).1] at e; cases e)]
    exact e
  have hn : σ' st.next = some k := by show (if st.next = st.next then some k else _) = _; rw [if_pos rfl]
  have hobj : ∀ x, x ≠ st.next → St.obj ⟨putAt st.next st.heap o, st.next + 1⟩ x = st.obj x := by
    intro x hx
    rw [St.obj_mk, St.obj_eq]
    by_cases hb : st.next < 65536
    · rw [objAt_put hb, if_neg hx]
    · rw [objAt_put_big (by omega)]
  have halive : ∀ x, Alive ⟨putAt st.next st.heap o, st.next + 1⟩ x → x ≠ st.next → Alive st x := by
    intro x hx he; unfold Alive at hx ⊢; rw [hobj x he] at hx; exact hx
  have hlast : ({ w with heap := w.heap.push ob } : World).heap[k.b]? = some ob := by simp [hk]
  have hold : ∀ b, b < w.heap.size → ({ w with heap := w.heap.push ob } : World).heap[b]? = w.heap[b]? := by
    intro b hb; simp [Array.getElem?_push, Nat.ne_of_lt hb]
  have hσ : ∀ x, x ≠ st.next → σ' x = σ x := fun x hx => by show (if x = st.next then some k else σ x) = σ x; rw [if_neg hx]
  refine ⟨σ', hn, ⟨fun x hx => ?_, fun x y kx ky hx hy h1 h2 h3 => ?_, fun x hx => ?_, fun x kx hx => ?_, hlt⟩,
    ⟨hs, Nat.le_succ _, by simp, fun b hb ⟨x, kx, hx, h1, h2⟩ => ?_, fun b hb _ => hold b hb, rfl, rfl, rfl, fun nm hn => hσ nm (by omega)⟩⟩
  · by_cases e : x = st.next
    · subst e
      refine ⟨k, hn, ?_⟩
      by_cases hb : st.next < 65536
      · rw [St.obj_mk, objAt_put hb, if_pos rfl]
        exact ho σ' _ hs hn hlast
      · exact absurd (by rw [St.obj_mk, objAt_put_big (by omega)]; exact objAt_big (by omega)) hx
    · obtain ⟨kx, h1, h2⟩ := h.obj x (halive x hx e)
      refine ⟨kx, hs _ _ h1, ?_⟩
      rw [hobj x e]
      exact OR.mono hs (hold _ (h.bound x kx h1)) h2
  · by_cases ex : x = st.next
    · by_cases ey : y = st.next
      · rw [ex, ey]
      · exfalso
        subst ex
        rw [hn] at h1; cases h1
        rw [hσ y ey] at h2
        have := h.bound y ky h2
        omega
    · by_cases ey : y = st.next
      · exfalso
        subst ey
        rw [hn] at h2; cases h2
        rw [hσ x ex] at h1
        have := h.bound x kx h1
        omega
      · rw [hσ x ex] at h1; rw [hσ y ey] at h2
        exact h.apart x y kx ky (halive x hx ex) (halive y hy ey) h1 h2 h3
  · have hx' : st.next + 1 ≤ x := hx
    have e : x ≠ st.next := by omega
    exact ⟨by rw [hσ x e]; exact (h.fresh x (by omega)).1, fun hy => (h.fresh x (by omega)).2 (halive x hy e)⟩
  · by_cases e : x = st.next
    · subst e; rw [hn] at hx; cases hx; simp [hk]
    · rw [hσ x e] at hx
      have := h.bound x kx hx
      simp; omega
  · have e : x ≠ st.next := fun e => by
      subst e; rw [hn] at h1; cases h1
      omega
    rw [hσ x e] at h1
    exact ⟨x, kx, halive x hx e, h1, h2⟩

end Go.Proofs.YtieclenlldjfjaaGreat.Ev
