import Derived.Test.YtbhiphjifdnhmaaGreatDoorK8
import Derived.Defers
import Derived.Recover
import Derived.Deep.Onto
import Derived.Laws.EntriesVeiled
set_option linter.unusedSimpArgs false
set_option linter.unusedVariables false
/- visit, of a name that rests on none, and of one that rests on one other. -/
namespace Go.Proofs.YtbhiphjifdnhmaaGreatDoor
open Go.RowKit Go.Maps

/-- the walk in block g, with what is begun, what is done, and the order so far -/
structure WkS (w : World) (B base g mb md m n0 : Nat) (b : List UInt8 → Option Df) (kb kd : Nat) (fb fd : List UInt8 → Option Value) (O : List ByteArray) (A : Option Addr) (c : Nat) : Prop where
  blk : Blk w g 171 #[.func (.func 129) #[.map (some m)] #[], .map (some mb), .map (some md), .slice A O.length c]
  own : w.ownsRow base 9 1 (.slice A O.length c) O.length (O.map Value.string)
  begun : MapIs w Tryz.prog 9 mb kb fb
  done : MapIs w Tryz.prog 9 md kd fd
  book : MapIs w Tryz.prog 9 m n0 (bookV b)
  h1 : B ≤ g ∧ B ≤ mb ∧ B ≤ md
  h2 : g < base ∧ mb < base ∧ md < base
  h3 : mb ≠ md ∧ m < B ∧ g ≠ mb ∧ g ≠ md
  h4 : base ≤ w.heap.size
/-- what a walk leaves as it is -/
structure Fr (B base g mb md : Nat) (w w' : World) : Prop where
  low : Below B w w'
  far : ∀ i, i < base → i ≠ g → i ≠ mb → i ≠ md → w'.heap[i]? = w.heap[i]?
section
variable {B base g mb md : Nat} {w a c : World}
theorem Fr.refl (w : World) : Fr B base g mb md w w := ⟨Below.refl _ _, fun _ _ _ _ _ => rfl⟩
theorem Fr.trans (h : Fr B base g mb md w a) (k : Fr B base g mb md a c) : Fr B base g mb md w c := ⟨h.low.trans k.low, fun i h1 h2 h3 h4 => (k.far i h1 h2 h3 h4).trans (h.far i h1 h2 h3 h4)⟩
theorem Fr.below (h : Fr B base g mb md w a) (k : Below a.heap.size a c) (hB : B ≤ a.heap.size) (hb : base ≤ a.heap.size) : Fr B base g mb md w c := ⟨h.low.trans (k.mono hB), fun i h1 h2 h3 h4 => (k.block i (by omega)).trans (h.far i h1 h2 h3 h4)⟩
theorem Fr.grown (h : Fr B base g mb md w a) {row : Option Nat} (k : a.grownBy c row) (hB : B ≤ a.heap.size) (hb : base ≤ a.heap.size) (hr : ∀ i, row = some i → B ≤ i ∧ (i = g ∨ i = mb ∨ i = md ∨ base ≤ i)) : Fr B base g mb md w c :=
  ⟨h.low.grown k hB fun i e => (hr i e).1, fun i h1 h2 h3 h4 => (k.block i (by omega) (fun e => by have := (hr i e.symm).2; omega)).trans (h.far i h1 h2 h3 h4)⟩
theorem Fr.set (h : Fr B base g mb md w a) (hB : B ≤ g) (j : Nat) (u : Value) : Fr B base g mb md w (a.setCell ⟨g, j, none⟩ u) :=
  ⟨h.low.setCell hB u, fun i h1 h2 h3 h4 => (Below.heap_setCell a ⟨g, j, none⟩ u i h2).trans (h.far i h1 h2 h3 h4)⟩
end
/-- a name more -/
def put1 (f : List UInt8 → Option Value) (p : ByteArray) : List UInt8 → Option Value := fun s => if s = p.data.toList then some (.bool true) else f s
theorem Blk.four {w : World} {g : Nat} {t : TypeId} {a b c d : Value} (h : Blk w g t #[a, b, c, d]) : w.cell? ⟨g, 0, none⟩ = some a ∧ w.cell? ⟨g, 1, none⟩ = some b ∧ w.cell? ⟨g, 2, none⟩ = some c ∧ w.cell? ⟨g, 3, none⟩ = some d := ⟨h.cell 0, h.cell 1, h.cell 2, h.cell 3⟩
section
variable {w w' : World} {B base g mb md m n0 kb kd c : Nat} {b : List UInt8 → Option Df} {fb fd : List UInt8 → Option Value} {O : List ByteArray} {A : Option Addr}
theorem WkS.moved (h : WkS w B base g mb md m n0 b kb kd fb fd O A c) (hb : Below w.heap.size w w') : WkS w' B base g mb md m n0 b kb kd fb fd O A c :=
  ⟨h.blk.below hb h.blk.lt, own_below h.own hb, h.begun.below hb h.begun.lt, h.done.below hb h.done.lt, h.book.below hb h.book.lt, h.h1, h.h2, h.h3, Nat.le_trans h.h4 hb.size⟩
theorem WkS.begin (h : WkS w B base g mb md m n0 b kb kd fb fd O A c) (f' : List UInt8 → Option Value) (k' : Nat) (hM : MapIs w' Tryz.prog 9 mb k' f') (hg : w.grownBy w' (some mb)) : WkS w' B base g mb md m n0 b k' kd f' fd O A c := by
  obtain ⟨q1, q2, q3⟩ := h.h1
  obtain ⟨r1, r2, r3⟩ := h.h2
  obtain ⟨s1, s2, s3, s4⟩ := h.h3
  refine ⟨h.blk.grown hg (by simp; omega), h.own.kept hg ?_, hM, h.done.kept hg (by simp; omega), h.book.kept hg (by simp; omega), h.h1, h.h2, h.h3, Nat.le_trans h.h4 hg.size⟩
  cases ho : (Value.slice A O.length c).ownBlock with
  | none => exact .inl rfl
  | some i => have := (h.own.lt i ho).1; right; simp; omega
theorem WkS.finish (h : WkS w B base g mb md m n0 b kb kd fb fd O A c) (f' : List UInt8 → Option Value) (k' : Nat) (hM : MapIs w' Tryz.prog 9 md k' f') (hg : w.grownBy w' (some md)) : WkS w' B base g mb md m n0 b kb k' fb f' O A c := by
  obtain ⟨q1, q2, q3⟩ := h.h1
  obtain ⟨r1, r2, r3⟩ := h.h2
  obtain ⟨s1, s2, s3, s4⟩ := h.h3
  refine ⟨h.blk.grown hg (by simp; omega), h.own.kept hg ?_, h.begun.kept hg (by simp; omega), hM, h.book.kept hg (by simp; omega), h.h1, h.h2, h.h3, Nat.le_trans h.h4 hg.size⟩
  cases ho : (Value.slice A O.length c).ownBlock with
  | none => exact .inl rfl
  | some i => have := (h.own.lt i ho).1; right; simp; omega
theorem WkS.append (h : WkS w B base g mb md m n0 b kb kd fb fd O A c) {g' c' : Nat} {O' : List ByteArray} (ho : w'.ownsRow base 9 1 (.slice (some ⟨g', 0, none⟩) O'.length c') O'.length (O'.map Value.string)) (hg : w.grownBy w' (Value.slice A O.length c).ownBlock) :
    WkS (w'.setCell ⟨g, 3, none⟩ (.slice (some ⟨g', 0, none⟩) O'.length c')) B base g mb md m n0 b kb kd fb fd O' (some ⟨g', 0, none⟩) c' := by
  obtain ⟨q1, q2, q3⟩ := h.h1
  obtain ⟨r1, r2, r3⟩ := h.h2
  obtain ⟨s1, s2, s3, s4⟩ := h.h3
  have hne : ∀ i, i < base → some i ≠ (Value.slice A O.length c).ownBlock := fun i hi e => by have := (h.own.lt i e.symm).1; omega
  refine ⟨(h.blk.grown hg (hne _ r1)).store 3 _, ownsRow_setCell_below ho r1 _, (h.begun.kept hg (hne _ r2)).setCell (by simpa using Ne.symm s3) _, (h.done.kept hg (hne _ r3)).setCell (by simpa using Ne.symm s4) _, (h.book.kept hg (hne _ (by omega))).setCell (by simp; omega) _, h.h1, h.h2, h.h3, by have := hg.size; have := h.h4; simp; omega⟩
end
set_option maxRecDepth 100000 in
set_option maxHeartbeats 2000000 in
theorem visit_leaf (w : World) {B base g mb md m n0 kb kd c : Nat} {b : List UInt8 → Option Df} {fb fd : List UInt8 → Option Value} {O : List ByteArray} {A : Option Addr} (h : WkS w B base g mb md m n0 b kb kd fb fd O A c) (hk : kb ≤ 1000 ∧ kd ≤ 1000 ∧ O.length ≤ 1000)
    (n : ByteArray) (hn : n.size ≤ maxLen) (hp : partsL b n.data.toList = []) (hfn : fb n.data.toList = none) (hdn : fd n.data.toList = none) :
    Calls Tryz.prog 159 #[.pointer (some ⟨g, 0, none⟩), .string n] w fun e w' => e = .returned (.tuple #[]) ∧ (∃ A' c', WkS w' B base g mb md m n0 b (kb + 1) (kd + 1) (put1 fb n) (put1 fd n) (O ++ [n]) A' c') ∧ Fr B base g mb md w w' := by
  have hP := Lib.hid hp
  clear hp
  obtain ⟨d0, d1, d2, d3⟩ := h.blk.four
  have hl1 := h.done.look keyT Tryz.underlying162 (zero4b w) (key_any n hn)
  have hl2 := h.begun.look keyT Tryz.underlying162 (zero4b w) (key_any n hn)
  rw [hdn] at hl1
  rw [hfn] at hl2
  obtain ⟨q1, q2, q3⟩ := h.h1
  have hh4 := h.h4
  go_enter Tryz.func159, Tryz.ntmps159
  go_wp2_with (first
    | (refine wpl_put rfl (.tmp 22) (.tmp 23) (.const (.bool true)) 162 4 rfl Tryz.underlying162 h.begun (by unfold maxLen; omega) n hn (.bool true) rfl rfl rfl ?_; intro w1 hM1 hg1 hz1; clear hz1; have W1 := h.begin _ _ hM1 hg1; obtain ⟨e0, e1, e2, e3⟩ := W1.blk.four)
    | (go_at_call 129; refine (parts_any b m n0 n _ W1.book hn).mono ?_; rw [hP.out]; rintro e w2 ⟨Ap, cp, rfl, ho2, hb2⟩))
  have hb1 : Fr B base g mb md w w1 := (Fr.refl w).grown hg1 (by have := h.h2; omega) hh4 (fun i e => by injection e with e; omega)
  have W2 := W1.moved hb2
  have hS2 : Strs w2 w2.heap.size Ap [] := Strs.of_own ho2
  have hb3 := hb1.below hb2 (by have := W1.h4; have := W1.h2; omega) W1.h4
  clear e0 e1 e2 e3 ho2 hb2 hb1 W1 d0 d1 d2 d3 hl1 hl2 hM1 hg1 h
  go_loopw [31] (fun t31 wq => t31 = .int .i64 0 ∧ WkS wq B base g mb md m n0 b (kb + 1) kd (put1 fb n) fd O A c ∧ Fr B base g mb md w wq) (fun t31 _ => 0)
  case atStart => exact ⟨rfl, W2, hb3⟩
  case round =>
    obtain ⟨rfl, W3, hb4⟩ := hrel
    clear W2 hb3
    have hh5 := W3.h4
    obtain ⟨e0, e1, e2, e3⟩ := W3.blk.four
    go_wp2_with (first
      | (refine wpl_put rfl (.tmp 42) (.tmp 43) (.const (.bool true)) 162 4 rfl Tryz.underlying162 W3.done (by unfold maxLen; omega) n hn (.bool true) rfl rfl rfl ?_; intro w5 hM5 hg5 hz5; clear hz5; have W5 := W3.finish _ _ hM5 hg5; obtain ⟨f0, f1, f2, f3⟩ := W5.blk.four; have W6 := W5.moved (below_new w5 (.cells #[.string n] 9)))
      | (refine wpl_appS rfl (.tmp 48) (.tmp 50) rfl base (.slice A O.length c) O n rfl W6.own w5.heap.size rfl ((Blk.new w5 9 #[.string n]).cell 0) (by have := hk.2.2; first | omega | (simp; omega)) W6.h4 ?_; intro g7 c7 w7 ho7 hg7 hat7; have W8 := W6.append ho7 hg7; have hgl := W8.blk.lt; have B7 := W6.blk.grown hg7 (fun e => by have := (W6.own.lt _ e.symm).1; have := W6.h2; omega); obtain ⟨y0, y1, y2, y3⟩ := B7.four; have z3 := B7.frozen 3))
    have hb5 : Fr B base g mb md w w5 := hb4.grown hg5 (by have := W3.h4; have := W3.h2; omega) W3.h4 (fun i e => by injection e with e; omega)
    have hb7 := (hb5.below (below_new w5 (.cells #[.string n] 9)) (by have := W5.h4; have := W5.h2; omega) W5.h4).grown hg7 (by have := W6.h4; have := W6.h2; omega) W6.h4 (fun i e => by have := (W6.own.lt i e).1; have := W6.h2; omega)
    rw [show (O ++ [n]).length = O.length + 1 by simp] at W8
    go_end0
    exact ⟨rfl, ⟨_, c7, W8⟩, hb7.set q1 _ _⟩
set_option maxRecDepth 100000 in
set_option maxHeartbeats 2000000 in
theorem visit_one (w : World) {B base g mb md m n0 kb kd c : Nat} {b : List UInt8 → Option Df} {fb fd : List UInt8 → Option Value} {O : List ByteArray} {A : Option Addr} (h : WkS w B base g mb md m n0 b kb kd fb fd O A c) (hk : kb ≤ 900 ∧ kd ≤ 1000 ∧ O.length ≤ 1000)
    (n p : ByteArray) (hn : n.size ≤ maxLen) (hp : partsL b n.data.toList = [p]) (hfn : fb n.data.toList = none) (hdn : fd n.data.toList = none) (hps : p.size ≤ maxLen) (hq : partsL b p.data.toList = []) (hpn : p.data.toList ≠ n.data.toList) (hfp : fb p.data.toList = none) (hdp : fd p.data.toList = none) :
    Calls Tryz.prog 159 #[.pointer (some ⟨g, 0, none⟩), .string n] w fun e w' => e = .returned (.tuple #[]) ∧ (∃ A' c', WkS w' B base g mb md m n0 b (kb + 2) (kd + 2) (put1 (put1 fb n) p) (put1 (put1 fd p) n) (O ++ [p] ++ [n]) A' c') ∧ Fr B base g mb md w w' := by
  have hP := Lib.hid hp
  clear hp
  obtain ⟨O2, hO2⟩ : ∃ O2, O2 = O ++ [p] := ⟨_, rfl⟩
  have hOl : O2.length ≤ 1001 := by rw [hO2]; simp; omega
  have hO := Lib.hid hO2
  clear hO2
  obtain ⟨d0, d1, d2, d3⟩ := h.blk.four
  have hl1 := h.done.look keyT Tryz.underlying162 (zero4b w) (key_any n hn)
  have hl2 := h.begun.look keyT Tryz.underlying162 (zero4b w) (key_any n hn)
  rw [hdn] at hl1
  rw [hfn] at hl2
  obtain ⟨q1, q2, q3⟩ := h.h1
  have hh4 := h.h4
  go_enter Tryz.func159, Tryz.ntmps159
  go_wp2_with (first
    | (refine wpl_put rfl (.tmp 22) (.tmp 23) (.const (.bool true)) 162 4 rfl Tryz.underlying162 h.begun (by unfold maxLen; omega) n hn (.bool true) rfl rfl rfl ?_; intro w1 hM1 hg1 hz1; clear hz1; have W1 := h.begin _ _ hM1 hg1; obtain ⟨e0, e1, e2, e3⟩ := W1.blk.four)
    | (go_at_call 129; refine (parts_any b m n0 n _ W1.book hn).mono ?_; rw [hP.out]; rintro e w2 ⟨Ap, cp, rfl, ho2, hb2⟩))
  have hb1 : Fr B base g mb md w w1 := (Fr.refl w).grown hg1 (by have := h.h2; omega) hh4 (fun i e => by injection e with e; omega)
  have W2 := W1.moved hb2
  have hS2 : Strs w2 w2.heap.size Ap [p] := Strs.of_own ho2
  have hb3 := hb1.below hb2 (by have := W1.h4; have := W1.h2; omega) W1.h4
  clear e0 e1 e2 e3 ho2 hb2 hb1 W1 d0 d1 d2 d3 hl1 hl2 hM1 hg1 h
  go_loopw [31] (fun t31 wq => (t31 = .int .i64 0 ∧ WkS wq B base g mb md m n0 b (kb + 1) kd (put1 fb n) fd O A c ∧ Strs wq wq.heap.size Ap [p] ∧ Fr B base g mb md w wq) ∨ (t31 = .int .i64 1 ∧ (∃ A' c', WkS wq B base g mb md m n0 b (kb + 2) (kd + 1) (put1 (put1 fb n) p) (put1 fd p) O2 A' c') ∧ Fr B base g mb md w wq)) (fun t31 _ => 1 - (intOf t31).toNat)
  case atStart => exact .inl ⟨rfl, W2, hS2, hb3⟩
  case round =>
    rcases hrel with ⟨rfl, W3, hS3, hb4⟩ | ⟨rfl, ⟨A', c', W3⟩, hb4⟩
    · clear W2 hS2 hb3
      obtain ⟨ad, rfl, hab, hcell⟩ := hS3 0 p rfl
      have hcell0 : wr.cell? ad = some (.string p) := by simpa [Addr.add] using hcell
      go_wp2_with (go_at_call 159; refine (visit_leaf _ W3 (by omega) p hps hq (by simp [put1, hpn, hfp]) hdp).mono ?_; rintro e w4 ⟨rfl, ⟨A4, c4, W4⟩, hb5⟩)
      go_roundw
      case rel => exact .inr ⟨by go_num, ⟨A4, c4, by rw [hO.out]; exact W4⟩, hb4.trans hb5⟩
      case measure => simp [intOf]
    · clear W2 hS2 hb3
      have hh5 := W3.h4
      obtain ⟨e0, e1, e2, e3⟩ := W3.blk.four
      go_wp2_with (first
        | (refine wpl_put rfl (.tmp 42) (.tmp 43) (.const (.bool true)) 162 4 rfl Tryz.underlying162 W3.done (by unfold maxLen; omega) n hn (.bool true) rfl rfl rfl ?_; intro w5 hM5 hg5 hz5; clear hz5; have W5 := W3.finish _ _ hM5 hg5; obtain ⟨f0, f1, f2, f3⟩ := W5.blk.four; have W6 := W5.moved (below_new w5 (.cells #[.string n] 9)))
        | (refine wpl_appS rfl (.tmp 48) (.tmp 50) rfl base (.slice A' O2.length c') O2 n rfl W6.own w5.heap.size rfl ((Blk.new w5 9 #[.string n]).cell 0) (by have := hk.2.2; first | omega | (simp; omega)) W6.h4 ?_; intro g7 c7 w7 ho7 hg7 hat7; have W8 := W6.append ho7 hg7; have hgl := W8.blk.lt; have B7 := W6.blk.grown hg7 (fun e => by have := (W6.own.lt _ e.symm).1; have := W6.h2; omega); obtain ⟨y0, y1, y2, y3⟩ := B7.four; have z3 := B7.frozen 3))
      have hb5 : Fr B base g mb md w w5 := hb4.grown hg5 (by have := W3.h4; have := W3.h2; omega) W3.h4 (fun i e => by injection e with e; omega)
      have hb7 := (hb5.below (below_new w5 (.cells #[.string n] 9)) (by have := W5.h4; have := W5.h2; omega) W5.h4).grown hg7 (by have := W6.h4; have := W6.h2; omega) W6.h4 (fun i e => by have := (W6.own.lt i e).1; have := W6.h2; omega)
      rw [show (O2 ++ [n]).length = O2.length + 1 by simp] at W8
      go_end0
      exact ⟨rfl, ⟨_, c7, by rw [← hO.out]; exact W8⟩, hb7.set q1 _ _⟩
end Go.Proofs.YtbhiphjifdnhmaaGreatDoor

/- run and order, where the walk does not meet itself. -/
namespace Go.Proofs.YtbhiphjifdnhmaaGreatDoor
open Go.RowKit Go.Maps

theorem assert_none (w : World) : (Instr.typeAssert .nilIface 20 173 true).run Tryz.prog w = .ok (.tuple #[.nilIface, .bool false]) w := by kernel_rfl
set_option maxRecDepth 100000 in
set_option maxHeartbeats 1000000 in
theorem caught_idle (p : Addr) (w : World) : CallsD Tryz.prog 158 #[.pointer (some p)] .returning w fun e u' w' => e = .returned (.tuple #[]) ∧ u' = .returning ∧ w' = w := by
  refine callsD_of_wpS Tryz.func158 rfl fun c₀ cs hu => ?_
  apply wpS_seq
  apply wpS_region
  simp [wpOpsS, go_sem, recoverD, hu, Tryz.ntmps158, Exit.thenS, assert_none]
  apply wpS_seq
  apply wpS_region
  simp [wpOpsS, go_sem, Exit.thenS, Array.replicate]
  refine wpS_cond (t := false) (by simp [Act.eval, Array.replicate]) ?_
  simp only [Bool.false_eq_true, if_false]
  refine wpS_of_wp (wp_skip ?_)
  cases c₀
  simp_all [bodyPostS, results, Tryz.results158]
set_option maxRecDepth 100000 in
set_option maxHeartbeats 1000000 in
theorem run_any (g : Nat) (n : ByteArray) (w : World) (Post : World → Prop) (hg : g < w.heap.size)
    (hv : Calls Tryz.prog 159 #[.pointer (some ⟨g, 0, none⟩), .string n] (w.alloc (.cells #[.nilIface] 173)) fun e w' => e = .returned (.tuple #[]) ∧ Post w' ∧ Blk w' w.heap.size 173 #[.nilIface]) :
    Calls Tryz.prog 141 #[.pointer (some ⟨g, 0, none⟩), .string n] w fun e w' => e = .returned .nilIface ∧ ∃ w1, Post w1 ∧ w' = w1.setCell ⟨w.heap.size, 0, none⟩ .nilIface := by
  have hmf : ∀ (fn : Fn) (first cap : Array Value) (w : World), (Instr.makeFunc fn first cap).run Tryz.prog w = .ok (.func fn first cap) w := fun _ _ _ _ => rfl
  have HV := Lib.hid hv
  clear hv
  go_enter_defers Tryz.func141, Tryz.ntmps141
  go_wp2_with (go_at_call 159; refine HV.out.mono ?_; rintro e w1 ⟨rfl, hP, hB⟩; have c0 := hB.cell 0; have z0 := hB.frozen 0)
  have hB2 : Blk (w1.setCell ⟨w.heap.size, 0, none⟩ .nilIface) w.heap.size 173 #[.nilIface] := hB.store 0 _
  have c2 : (w1.setCell ⟨w.heap.size, 0, none⟩ .nilIface).cell? ⟨w.heap.size, 0, none⟩ = some .nilIface := hB2.cell 0
  refine leaves_cons (f := 158) (args := #[.pointer (some ⟨w.heap.size, 0, none⟩)]) (by simp) (by simp [go_sem]) ?_
  refine (caught_idle ⟨w.heap.size, 0, none⟩ _).mono ?_
  rintro e u' w'' ⟨rfl, rfl, rfl⟩
  simp [Leaves, settle, results, Tryz.results141, go_sem, c2]
  exact ⟨w1, hP, rfl⟩

theorem WkS.other {w : World} {B base g mb md m n0 kb kd c : Nat} {b : List UInt8 → Option Df} {fb fd : List UInt8 → Option Value} {O : List ByteArray} {A : Option Addr} (h : WkS w B base g mb md m n0 b kb kd fb fd O A c) (E : Nat) (hE : E < base) (hn : E ≠ g ∧ E ≠ mb ∧ E ≠ md ∧ E ≠ m) (u : Value) :
    WkS (w.setCell ⟨E, 0, none⟩ u) B base g mb md m n0 b kb kd fb fd O A c :=
  ⟨h.blk.far (by simpa using hn.1.symm) u, ownsRow_setCell_below h.own hE u, h.begun.setCell (by simpa using hn.2.1.symm) u, h.done.setCell (by simpa using hn.2.2.1.symm) u, h.book.setCell (by simpa using hn.2.2.2.symm) u, h.h1, h.h2, h.h3, by have := h.h4; simpa using this⟩
/-- texts and no error are returned -/
def RetStrsE (w : World) (l : List ByteArray) (e : Ending) (w' : World) : Prop :=
  ∃ A c, e = .returned (.tuple #[.slice A l.length c, .int .i64 0]) ∧ w'.ownsRow w.heap.size 9 1 (.slice A l.length c) l.length (l.map Value.string) ∧ Below w.heap.size w w'
/-- what a visit does that does not meet itself -/
def Visits (b : List UInt8 → Option Df) (n : ByteArray) (L : List ByteArray) : Prop :=
  ∀ (w : World) (B base g mb md m n0 : Nat), WkS w B base g mb md m n0 b 0 0 (fun _ => none) (fun _ => none) [] none 0 →
    Calls Tryz.prog 159 #[.pointer (some ⟨g, 0, none⟩), .string n] w fun e w' => e = .returned (.tuple #[]) ∧ (∃ kb kd fb fd A c, WkS w' B base g mb md m n0 b kb kd fb fd L A c) ∧ Fr B base g mb md w w'
set_option maxRecDepth 100000 in
set_option maxHeartbeats 1000000 in
theorem order_any (b : List UInt8 → Option Df) (m n0 : Nat) (n : ByteArray) (L : List ByteArray) (w : World) (hm : MapIs w Tryz.prog 9 m n0 (bookV b)) (hV : Visits b n L) :
    Calls Tryz.prog 127 #[.map (some m), .string n] w (RetStrsE w L) := by
  have hmf : ∀ (fn : Fn) (first cap : Array Value) (w : World), (Instr.makeFunc fn first cap).run Tryz.prog w = .ok (.func fn first cap) w := fun _ _ _ _ => rfl
  have hmm := @run_makeMap Tryz.prog
  have hml := hm.lt
  obtain ⟨W3, hW3⟩ : ∃ W3, W3 = ((w.alloc (.map #[] 0)).alloc (.map #[] 0)).alloc (.cells #[.func (.func 129) #[.map (some m)] #[], .map (some w.heap.size), .map (some (w.heap.size + 1)), .slice none 0 0] 171) := ⟨_, rfl⟩
  have hz3 : W3.heap.size = w.heap.size + 3 := by rw [hW3]; simp
  have hb3 : Below w.heap.size w W3 := by rw [hW3]; exact ((below_new _ _).alloc (by simp) _).alloc (by simp; omega) _
  have k3 : Blk W3 (w.heap.size + 2) 171 #[.func (.func 129) #[.map (some m)] #[], .map (some w.heap.size), .map (some (w.heap.size + 1)), .slice none 0 0] := by rw [hW3]; exact Blk.newAt (by simp)
  have m1 : MapIs W3 Tryz.prog 9 w.heap.size 0 (fun _ => none) := by rw [hW3]; exact ((MapIs.made w Tryz.prog 9).alloc _).alloc _
  have m2 : MapIs W3 Tryz.prog 9 (w.heap.size + 1) 0 (fun _ => none) := by
    have := (MapIs.made (w.alloc (.map #[] 0)) Tryz.prog 9).alloc (.cells #[.func (.func 129) #[.map (some m)] #[], .map (some w.heap.size), .map (some (w.heap.size + 1)), .slice none 0 0] 171)
    rw [hW3]; simpa using this
  have m3 : MapIs W3 Tryz.prog 9 m n0 (bookV b) := hm.below hb3 hml
  have hbn := below_new W3 (.cells #[.nilIface] 173)
  have S4 : WkS (W3.alloc (.cells #[.nilIface] 173)) w.heap.size (w.heap.size + 4) (w.heap.size + 2) w.heap.size (w.heap.size + 1) m n0 b 0 0 (fun _ => none) (fun _ => none) [] none 0 :=
    ⟨k3.alloc _, own_none _ _ 9, m1.alloc _, m2.alloc _, m3.alloc _, by omega, by omega, by omega, by simp; omega⟩
  have kE : Blk (W3.alloc (.cells #[.nilIface] 173)) W3.heap.size 173 #[.nilIface] := Blk.new _ _ _
  have hv := hV _ _ _ _ _ _ _ _ S4
  have hR := run_any (w.heap.size + 2) n W3 (fun w1 => (∃ kb kd fb fd A c, WkS w1 w.heap.size (w.heap.size + 4) (w.heap.size + 2) w.heap.size (w.heap.size + 1) m n0 b kb kd fb fd L A c) ∧ Below w.heap.size w w1) (by omega) (hv.mono (by
    rintro e w1 ⟨rfl, hS, hF⟩
    refine ⟨rfl, ⟨hS, (hb3.alloc (by omega) _).trans hF.low⟩, (hF.far _ (by omega) (by omega) (by omega) (by omega)).trans kE⟩))
  clear hv kE S4 hbn m1 m2 m3 k3 hb3 hV
  obtain ⟨E, hE⟩ : ∃ E, E = W3.heap.size := ⟨_, rfl⟩
  rw [← hE] at hR hz3
  rw [hW3] at hR
  clear hW3 hE
  have HR := Lib.hid hR
  have HZ := Lib.hid hz3
  clear hR hz3
  go_enter Tryz.func127, Tryz.ntmps127
  go_wp2_with (go_at_call 141; refine HR.out.mono ?_; rintro e w4 ⟨rfl, w1, ⟨⟨kb, kd, fb, fd, A, c, hS⟩, hb1⟩, rfl⟩; have S5 := hS.other E (by rw [HZ.out]; omega) (by rw [HZ.out]; omega) .nilIface; obtain ⟨e0, e1, e2, e3⟩ := S5.blk.four)
  go_ret2
  exact ⟨A, c, rfl, S5.own.mono (by omega), hb1.setCell (by show _ ≤ E; rw [HZ.out]; omega) _⟩
theorem visits_leaf (b : List UInt8 → Option Df) (n : ByteArray) (hn : n.size ≤ maxLen) (hp : partsL b n.data.toList = []) : Visits b n [n] := fun w B base g mb md m n0 h => by
  refine (visit_leaf w h (by simp) n hn hp rfl rfl).mono ?_
  rintro e w' ⟨rfl, ⟨A', c', hS⟩, hF⟩
  exact ⟨rfl, ⟨_, _, _, _, A', c', hS⟩, hF⟩
theorem visits_one (b : List UInt8 → Option Df) (n p : ByteArray) (hn : n.size ≤ maxLen) (hp : partsL b n.data.toList = [p]) (hps : p.size ≤ maxLen) (hq : partsL b p.data.toList = []) (hpn : p.data.toList ≠ n.data.toList) : Visits b n [p, n] := fun w B base g mb md m n0 h => by
  refine (visit_one w h (by simp) n p hn hp rfl rfl hps hq hpn rfl rfl).mono ?_
  rintro e w' ⟨rfl, ⟨A', c', hS⟩, hF⟩
  exact ⟨rfl, ⟨_, _, _, _, A', c', hS⟩, hF⟩
end Go.Proofs.YtbhiphjifdnhmaaGreatDoor

