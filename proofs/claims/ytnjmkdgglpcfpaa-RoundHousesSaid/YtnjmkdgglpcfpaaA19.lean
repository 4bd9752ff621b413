import Derived.Test.YtnjmkdgglpcfpaaA18
namespace Go.Proofs.Ytnjmkdgglpcfpaa
open Go.RowKit

set_option maxRecDepth 100000 in
set_option maxHeartbeats 1000000 in
theorem count_any {C R B F : Int} {A : Option Addr} {cap : Nat} {cl : List Int} {D : Option Addr} {dap : Nat} {l : List Int} (w : World) (hB : B ≤ 9223372036854775807) (hcl : cl.length ≤ 9223372036854775807) (hr : Ints w w.heap.size A cl) (hl : Ints w w.heap.size D l) (hll : l.length ≤ 9223372036854775807) :
    Calls Try.prog 37 #[.agg #[.int .i64 C, .int .i64 R, .int .i64 B, .int .i64 F, .slice A cl.length cap], .slice D l.length dap] w fun e w' => e = .returned (.tuple #[.int .i64 (findL C R B F cl l).length, .int .i64 (findErr C R B F cl l)]) ∧ Below w.heap.size w w' := by
  have hb0 := below_new w (.cells #[.int .i64 C, .int .i64 R, .int .i64 B, .int .i64 F, .slice A cl.length cap] 24)
  have hr1 := hr.behind hb0
  have hl1 := hl.behind hb0
  go_enter Try.func37, Try.ntmps37
  go_wp2_with (first
    | (go_at_call 86; refine (find_any _ hB hcl hr1 hl1 hll).mono ?_; rintro e w1 ⟨vs, A1, c1, hvs, hone, hval, rfl, h1, h2, h3, hb1⟩; have HV := Lib.hid hvs; have HO := Lib.hid hone; clear hvs hone hval)
    | (refine wpList_store_row (by rfl) 106 _ _ (by rfl) w1.heap.size _ (by rfl) (by rfl) 106 Try.zeroCells106 (Blk.new w1 106 _) (info106s HV.out) (Try.zeroCells106_size.trans HV.out.symm) HO.out ?_))
  go_ret2
  exact ⟨rfl, below_setRow ((below_next hb0 (by simp) hb1).alloc (by have := hb1.size; simp at this; omega) _) (by have := hb1.size; simp at this; omega) _⟩

/-- the stands of all fewest rounds -/
def neededP (C B F : Int) (p q : Nat → Bool) (n : Nat) (x : Int) : Bool :=
  match fewL C B F (fun i => if (i : Int) = x then true else p i) q with
  | none => true
  | some l => decide (n < l.length)
/-- the stands of some fewest round -/
def usefulP (C B F : Int) (p q : Nat → Bool) (n : Nat) (x : Nat) : Bool := !p x && decide (1 + (afters C B F p q x).length = n)
/-- the columns without each of which fewer stands are enough -/
def savesP (C B F : Int) (p q : Nat → Bool) (n : Nat) (x : Int) : Bool :=
  match fewL C B F p (fun i => if (i : Int) = x then false else q i) with
  | none => false
  | some l => decide (l.length < n)

/-- a whole struct read out of its block, where the operation hangs on a guard -/
theorem wpList_load_rowG {P : Program} {ops : Array Oper} {rest : List Oper} {o : Oper} {a : Act} {w : World} {Q : Exit → Act → World → Prop} (hgd : Region.wanted o (yielded ops a.tmps) = true) (ty : TypeId) (x : Operand) (ho : o.op = .load ty x)
    (g : Nat) (hx : a.eval x = .pointer (some ⟨g, 0, none⟩)) (t : TypeId) (cs : Array Value) (fr : Nat × Nat) (d : TypeDesc) (hg : w.heap[g]? = some (.cells cs t fr))
    (hu : P.underlying ty = some d) (hd : (match d with | .struct _ | .array _ _ => true | _ => false) = true) (hi : (P.info? ty).map (·.size) = some cs.size)
    (h : wpList P ops Q rest (a.put o.dst (.agg cs)) w) : wpList P ops Q (o :: rest) a w :=
  wpList_step fun _ hK => by rw [if_pos hgd]; exact wp_load_row ty x ho g hx t cs fr d hg hu hd hi (hK _ _ h)
theorem findErr_ok {C R B F : Int} {cl l : List Int} (h : findErr C R B F cl l = 0) : HolesOk C R B F cl l := by
  refine holesErr_zero.1 ?_
  unfold findErr at h
  split at h
  · exact h
  · rename_i h'; simpa using h'
theorem RetInts2.of_own {w w' : World} {base : Nat} {l : List Int} {v : Value} (h : w'.ownsRow base 3 1 v l.length (l.map (Value.int .i64))) (hb : Below w.heap.size w w') : RetInts2 w l 0 (.returned (.tuple #[v, .int .i64 0])) w' := by
  obtain ⟨A, c, rfl, h1, h2⟩ := own_form h
  exact ⟨A, c, rfl, h1, h2, Ints.of_own h, hb⟩

set_option maxRecDepth 100000 in
set_option maxHeartbeats 20000000 in
theorem useful_any {C R B F : Int} {A0 : Option Addr} {cap : Nat} {cl : List Int} {D : Option Addr} {dap : Nat} {l : List Int} (w : World) (hB : B ≤ 9223372036854775807) (hcl : cl.length ≤ 9223372036854775807) (hr : Ints w w.heap.size A0 cl) (hl : Ints w w.heap.size D l) (hll : l.length ≤ 9223372036854775807) :
    Calls Try.prog 45 #[.agg #[.int .i64 C, .int .i64 R, .int .i64 B, .int .i64 F, .slice A0 cl.length cap], .slice D l.length dap] w
      (RetInts2 w (if findErr C R B F cl l = 0 then colsTo (usefulP C B F (isIn cl) (isIn (colm C l)) (findL C R B F cl l).length) C.toNat else []) (findErr C R B F cl l)) := by
  have hb0 := below_new w (.cells #[.int .i64 C, .int .i64 R, .int .i64 B, .int .i64 F, .slice A0 cl.length cap] 24)
  have hr1 := hr.behind hb0
  have hl1 := hl.behind hb0
  have hbh := Blk.new w 24 #[.int .i64 C, .int .i64 R, .int .i64 B, .int .i64 F, .slice A0 cl.length cap]
  by_cases he : findErr C R B F cl l = 0
  · have hk := findErr_ok he
    have hok := hk.ok
    have k1 := hok.c3
    have k2 := hok.c120
    have k3 := hok.b0
    have k4 := hok.f0
    have k5 := hok.bf
    obtain ⟨n, rfl⟩ := Int.eq_ofNat_of_zero_le (show 0 ≤ C by omega)
    rw [if_pos he, he, Int.toNat_natCast]
    have HE := Lib.hid he
    generalize hL : findL n R B F cl l = L
    generalize hp : usefulP n B F (isIn cl) (isIn (colm n l)) L.length = pu
    have HL := Lib.hid hL
    have HP := Lib.hid hp
    clear hL hp he
    go_enter Try.func45, Try.ntmps45
    go_wp2_with (first
      | (go_at_call 86; refine (find_any _ hB hcl hr1 hl1 hll).mono ?_; unfold RetFind; rw [HL.out, HE.out]; rintro e w1 ⟨vs, A1, c1, hvs, hone, hval, rfl, e1, e2, e3, hb1⟩; have HS := Lib.hid (hval rfl); have HV := Lib.hid hvs; have HO := Lib.hid hone; clear hvs hone hval)
      | (refine wpList_store_row (by rfl) 106 _ _ (by rfl) w1.heap.size _ (by rfl) (by rfl) 106 Try.zeroCells106 (Blk.new w1 106 _) (info106s HV.out) (Try.zeroCells106_size.trans HV.out.symm) HO.out ?_; have hz1 := hb1.size; have hbh1 := hbh.below hb1 (by simp); have hbh2 := (hbh1.alloc (.cells Try.zeroCells106 106)).farRow (g' := w1.heap.size) (by have := hbh1.lt; omega) vs; obtain ⟨d0, d1, d2, d3, d4⟩ := hbh2.five))
    have hba : Below w.heap.size w w1 := below_next hb0 (by simp) hb1
    have hzb := hba.size
    clear hb0
    clear d0 d1 d2 d3 d4
    go_loopw [9, 10, 23] (fun v _ i wr => ∃ k : Nat, ∃ A c', k ≤ n ∧ i = .int .i64 k ∧ v = .slice A (colsTo pu k).length c' ∧ Below w1.heap.size w1 wr ∧ Blk wr w.heap.size 24 #[.int .i64 n, .int .i64 R, .int .i64 B, .int .i64 F, .slice A0 cl.length cap] ∧ Blk wr w1.heap.size 106 vs ∧ wr.ownsRow (w1.heap.size + 1) 3 1 (.slice A (colsTo pu k).length c') (colsTo pu k).length ((colsTo pu k).map (Value.int .i64)))
      (fun _ _ i _ => n - (intOf i).toNat)
    case atStart => exact ⟨0, none, 0, by omega, rfl, rfl, below_setRow (below_new _ _) (Nat.le_refl _) _, hbh2, (Blk.new _ _ _).setRow _, World.ownsRow_nil _ _ _ _⟩
    case round =>
      obtain ⟨k, A, c', hk, rfl, rfl, hb, hb0, hbs, hown⟩ := hrel
      have hlt0 := hb0.lt
      have hlt1 := hbs.lt
      have hbt : Blk wr w1.heap.size 106 (sv n R B F (.slice A0 cl.length cap) (isIn cl) (isIn (colm n l))) := by rw [← HS.out]; exact hbs
      have hzr := hb.size
      by_cases hlt : k < n
      · have hc1 := hbt.svShut k (by omega)
        clear hbt
        have hln := colsTo_len pu k
        obtain ⟨d0, d1, d2, d3, d4⟩ := hb0.five
        cases hs : isIn cl k with
        | true =>
          have hpk : pu k = false := by rw [← HP.out]; simp [usefulP, hs]
          have HY := Lib.hid (colsTo_no hpk)
          rw [hs] at hc1
          clear hpk hs
          go_wp2_with fail
          go_roundw
          case rel => exact ⟨k + 1, A, c', by omega, by go_num, by rw [HY.out], hb, hb0, hbs, by rw [HY.out]; exact hown⟩
          case measure => simp [intOf]; try omega
        | false =>
          rw [hs] at hc1
          have haft : Hid (∀ w, Calls Try.prog 97 #[.agg vs, .int .i64 k] w (RetInts w (afters n B F (isIn cl) (isIn (colm n l)) k))) := fun w => by rw [HS.out]; exact after_any n R B F _ _ _ _ _ (by omega) k2 (by omega) (by omega) k3 k4 (by omega)
          have hal := aft_len (C := n) (B := B) (F := F) (p := isIn cl) (q := isIn (colm n l)) (s := k) (by omega) (by unfold bhK; omega)
          have hpk : pu k = decide (1 + (afters n B F (isIn cl) (isIn (colm n l)) k).length = L.length) := by rw [← HP.out]; simp [usefulP, hs]
          by_cases hq : 1 + (afters n B F (isIn cl) (isIn (colm n l)) k).length = L.length
          · have HY := Lib.hid (colsTo_yes (hpk.trans (decide_eq_true hq)))
            have hq1 : ((1 + (((afters n B F (isIn cl) (isIn (colm n l)) k).length : Nat) : Int)) == ((L.length : Nat) : Int)) = true := by simp; omega
            have hq2 : (1 + (((afters n B F (isIn cl) (isIn (colm n l)) k).length : Nat) : Int)) = ((L.length : Nat) : Int) := by omega
            clear hpk hs hq
            go_wp2_with (first
              | (refine wpList_load_rowG (by rfl) 106 _ (by rfl) _ (by rfl) 106 _ (0, 0) _ hbs Try.underlying106 rfl (info106s HV.out) ?_)
              | (go_at_call 97; refine (haft.out _).mono ?_; rintro e w2 ⟨A3, c3, rfl, f1, f2, f3, hb2⟩; obtain ⟨q1, q2⟩ := bcell hb2)
              | (at_builtin; refine app1 (by rfl) _ _ (by rfl) (w1.heap.size + 1) (colsTo pu k) k _ (by rfl) (own_below hown hb2) (by rfl) (by omega) (by have := hb2.size; omega) ?_; intro A' c'' w3 hown1 hb3))
            go_roundw
            case rel =>
              have hz := hb2.size
              exact ⟨k + 1, A', c'', by omega, by go_num, by rw [HY.out]; simp, (below_next hb (by omega) hb2).trans (hb3.mono (by omega)), (hb0.below hb2 (by omega)).below hb3 (by omega), (hbs.below hb2 (by omega)).below hb3 (by omega), by rw [HY.out]; exact hown1⟩
            case measure => simp [intOf]; try omega
          · have HY := Lib.hid (colsTo_no (hpk.trans (decide_eq_false hq)))
            have hq1 : ((1 + (((afters n B F (isIn cl) (isIn (colm n l)) k).length : Nat) : Int)) == ((L.length : Nat) : Int)) = false := by simp; omega
            have hq2 : ¬ (1 + (((afters n B F (isIn cl) (isIn (colm n l)) k).length : Nat) : Int)) = ((L.length : Nat) : Int) := by omega
            clear hpk hs hq
            go_wp2_with (first
              | (refine wpList_load_rowG (by rfl) 106 _ (by rfl) _ (by rfl) 106 _ (0, 0) _ hbs Try.underlying106 rfl (info106s HV.out) ?_)
              | (go_at_call 97; refine (haft.out _).mono ?_; rintro e w2 ⟨A3, c3, rfl, f1, f2, f3, hb2⟩; obtain ⟨q1, q2⟩ := bcell hb2))
            go_roundw
            case rel => exact ⟨k + 1, A, c', by omega, by go_num, by rw [HY.out], below_next hb (by omega) hb2, hb0.below hb2 (by omega), hbs.below hb2 (by omega), by rw [HY.out]; exact own_below hown hb2⟩
            case measure => simp [intOf]; try omega
      · obtain rfl : k = n := by omega
        go_wp2_with fail
        go_ret2
        exact RetInts2.of_own hown (hba.trans (hb.mono hba.size))
  · have hn1 : (findErr C R B F cl l == 0) = false := by simpa using he
    have hn2 : (findErr C R B F cl l != 0) = true := by simpa using he
    rw [if_neg he]
    clear he
    go_enter Try.func45, Try.ntmps45
    go_wp2_with (first
      | (go_at_call 86; refine (find_any _ hB hcl hr1 hl1 hll).mono ?_; rintro e w1 ⟨vs, A1, c1, hvs, hone, hval, rfl, h1, h2, h3, hb1⟩; have HV := Lib.hid hvs; have HO := Lib.hid hone; clear hvs hone hval)
      | (refine wpList_store_row (by rfl) 106 _ _ (by rfl) w1.heap.size _ (by rfl) (by rfl) 106 Try.zeroCells106 (Blk.new w1 106 _) (info106s HV.out) (Try.zeroCells106_size.trans HV.out.symm) HO.out ?_))
    go_ret2
    exact RetInts2.err (below_setRow ((below_next hb0 (by simp) hb1).alloc (by have := hb1.size; simp at this; omega) _) (by have := hb1.size; simp at this; omega) _)

end Go.Proofs.Ytnjmkdgglpcfpaa
