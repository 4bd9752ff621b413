import Derived.Test.YtnjmkdgglpcfpaaA33
import Derived.Test.YtnjmkdgglpcfpaaA26
namespace Go.Proofs.Ytnjmkdgglpcfpaa
open Go.RowKit

/-- which way a turn goes -/
def sg (n : Int) : Int := if n < 0 then -1 else 1
/-- where one is behind k steps -/
def stepTo (C a s : Int) : Nat → Int
  | 0 => a
  | k + 1 => (stepTo C a s k + s) % C
/-- what one comes past in k steps -/
def stepL (C a s : Int) (k : Nat) : List Int := (List.range k).map fun i => stepTo C a s (i + 1)
theorem stepL_succ (C a s : Int) (k : Nat) : stepL C a s (k + 1) = stepL C a s k ++ [(stepTo C a s k + s) % C] := by simp [stepL, List.range_succ, stepTo]
theorem stepL_len (C a s : Int) (k : Nat) : (stepL C a s k).length = k := by simp [stepL]
theorem stepTo_in {C a s : Int} (h : 1 ≤ C) (ha : 0 ≤ a) (hb : a < C) (k : Nat) : 0 ≤ stepTo C a s k ∧ stepTo C a s k < C := by
  cases k with
  | zero => exact ⟨ha, hb⟩
  | succ k => exact ⟨Int.emod_nonneg _ (by omega), Int.emod_lt_of_pos _ (by omega)⟩
/-- one turn: where one is, and what one came past -/
def trip (C : Int) (p : Int × List Int) (n : Int) : Int × List Int := (stepTo C p.1 (sg n) n.natAbs, p.2 ++ stepL C p.1 (sg n) n.natAbs)
def trips (C s : Int) (turns : List Int) : Int × List Int := turns.foldl (trip C) (s, [s])
def sumAbs (l : List Int) : Int := l.foldl (fun (x : Int) (n : Int) => x + (n.natAbs : Int)) 0
theorem trips_snoc (C s : Int) (l : List Int) (n : Int) : trips C s (l ++ [n]) = trip C (trips C s l) n := by simp [trips]
theorem sumAbs_snoc (l : List Int) (n : Int) : sumAbs (l ++ [n]) = sumAbs l + n.natAbs := by simp [sumAbs]
/-- a turn that is none -/
def turnBad (C n : Int) : Prop := n = 0 ∨ n < -C ∨ C < n
instance (C n : Int) : Decidable (turnBad C n) := by unfold turnBad; infer_instance
theorem trips_ok {C s : Int} (h1 : 1 ≤ C) (h2 : C ≤ 120) (h3 : 0 ≤ s) (h4 : s < C) : ∀ (k : Nat) (l : List Int), l.length = k → (∀ n ∈ l, ¬ turnBad C n) → 0 ≤ (trips C s l).1 ∧ (trips C s l).1 < C ∧ (trips C s l).2.length ≤ 1 + 120 * k ∧ 0 ≤ sumAbs l ∧ sumAbs l ≤ 120 * k
  | 0, l, hl, _ => by
    obtain rfl := List.eq_nil_of_length_eq_zero hl
    simp [trips, sumAbs]
    omega
  | k + 1, l, hl, hb => by
    obtain ⟨l', n, rfl⟩ : ∃ l' n, l = l' ++ [n] := ⟨l.dropLast, l.getLast (by intro e; rw [e] at hl; simp at hl), (List.dropLast_concat_getLast _).symm⟩
    have hl' : l'.length = k := by simpa using hl
    obtain ⟨a1, a2, a3, a4, a5⟩ := trips_ok h1 h2 h3 h4 k l' hl' (fun n hn => hb n (by simp [hn]))
    have hn := hb n (by simp)
    unfold turnBad at hn
    rw [trips_snoc, sumAbs_snoc]
    have h5 := stepTo_in (s := sg n) h1 a1 a2 n.natAbs
    refine ⟨h5.1, h5.2, ?_, by omega, by omega⟩
    simp only [trip, List.length_append, stepL_len]
    omega
/-- the reference's CheckTurn -/
def ckTurn (C R B F : Int) (cl : List Int) (s : Int) (l turns : List Int) (len : Int) : Int :=
  if wayErr C R B F cl s l ≠ 0 then wayErr C R B F cl s l
  else if 40 < turns.length then 2
  else if ∃ n ∈ turns, turnBad C n then 8
  else if sumAbs turns ≠ len then 8
  else if ∀ x ∈ l, x ∈ (trips C s turns).2 then 0 else 8
theorem wayErr_zero {C R B F : Int} {cl : List Int} {s : Int} {l : List Int} (h : wayErr C R B F cl s l = 0) : Ok C R B F cl ∧ (0 ≤ s ∧ s < C) ∧ standsErr C cl l = 0 := by
  unfold wayErr at h
  by_cases he : colErr C R B F cl s = 0
  · obtain ⟨a, b⟩ := colErr_zero he
    rw [if_neg (by simp [he])] at h
    exact ⟨a, b, h⟩
  · rw [if_pos he] at h
    exact absurd h he
theorem own_one (w : World) (x : Int) : (w.alloc (.cells #[.int .i64 x] 3)).ownsRow w.heap.size 3 1 (.slice (some ⟨w.heap.size, 0, none⟩) [x].length 1) [x].length ([x].map (Value.int .i64)) :=
  ⟨rfl, .inr ⟨w.heap.size, 1, #[.int .i64 x], rfl, Nat.le_refl _, heap_alloc_new w _, Nat.le_refl _, by simp [maxLen], rfl, rfl⟩⟩
theorem abs_nat (x : Int) (w : World) (h1 : -100000 ≤ x) (h2 : x ≤ 100000) :
    Calls Try.prog 106 #[.int .i64 x] w fun e w' => e = .returned (.int .i64 (x.natAbs : Int)) ∧ w = w' := by
  have h := abs_any x w h1 h2
  have e : max x (-x) = (x.natAbs : Int) := by omega
  rwa [e] at h
theorem sg_quo {x : Int} (h : x ≠ 0) : x.tdiv (x.natAbs : Int) = sg x := by
  unfold sg
  by_cases hx : x < 0
  · rw [if_pos hx]
    obtain ⟨n, rfl⟩ : ∃ n : Nat, x = -(n : Int) := ⟨x.natAbs, by omega⟩
    have hn : (n : Int) ≠ 0 := by omega
    rw [Int.natAbs_neg, Int.natAbs_natCast, Int.neg_tdiv, Int.tdiv_self hn]
  · rw [if_neg (by omega)]
    obtain ⟨n, rfl⟩ : ∃ n : Nat, x = (n : Int) := ⟨x.natAbs, by omega⟩
    rw [Int.natAbs_natCast, Int.tdiv_self h]

set_option maxRecDepth 100000 in
set_option maxHeartbeats 4000000 in
theorem refCheckTurn_any (C R B F : Int) (A : Option Addr) (cap : Nat) (cl : List Int) (s : Int) (D : Option Addr) (dap : Nat) (l : List Int) (T : Option Addr) (tap : Nat) (turns : List Int) (len : Int) (w : World) (hcl : cl.length ≤ 1000000) (hll : l.length ≤ 1000000) (htl : turns.length ≤ 1000000)
    (hr : Ints w w.heap.size A cl) (hl : Ints w w.heap.size D l) (ht : Ints w w.heap.size T turns) :
    Calls Try.prog 53 #[.agg #[.int .i64 C, .int .i64 R, .int .i64 B, .int .i64 F, .slice A cl.length cap], .int .i64 s, .slice D l.length dap, .agg #[.slice T turns.length tap, .int .i64 len]] w fun e w' => e = .returned (.int .i64 (ckTurn C R B F cl s l turns len)) ∧ Below w.heap.size w w' := by
  have hb0 : Below w.heap.size w ((w.alloc (.cells #[.int .i64 C, .int .i64 R, .int .i64 B, .int .i64 F, .slice A cl.length cap] 24)).alloc (.cells #[.slice T turns.length tap, .int .i64 len] 67)) := (below_new w (.cells #[.int .i64 C, .int .i64 R, .int .i64 B, .int .i64 F, .slice A cl.length cap] 24)).alloc (by simp) _
  have hbk : Blk ((w.alloc (.cells #[.int .i64 C, .int .i64 R, .int .i64 B, .int .i64 F, .slice A cl.length cap] 24)).alloc (.cells #[.slice T turns.length tap, .int .i64 len] 67)) w.heap.size 24 #[.int .i64 C, .int .i64 R, .int .i64 B, .int .i64 F, .slice A cl.length cap] := (Blk.new _ _ _).alloc _
  have hbq : Blk ((w.alloc (.cells #[.int .i64 C, .int .i64 R, .int .i64 B, .int .i64 F, .slice A cl.length cap] 24)).alloc (.cells #[.slice T turns.length tap, .int .i64 len] 67)) (w.heap.size + 1) 67 #[.slice T turns.length tap, .int .i64 len] := Blk.newAt (by simp)
  have hr1 := hr.behind hb0
  have hl1 := hl.behind hb0
  by_cases he : wayErr C R B F cl s l = 0
  case neg =>
    have hn1 : (wayErr C R B F cl s l == 0) = false := by simpa using he
    have hn2 : (wayErr C R B F cl s l != 0) = true := by simpa using he
    have hres : ckTurn C R B F cl s l turns len = wayErr C R B F cl s l := if_pos he
    rw [hres]
    clear hres he
    go_enter Try.func53, Try.ntmps53
    go_wp2_with (first
      | (go_at_call 105; refine (refTurned_any C R B F A cap cl s D dap l _ hcl hll hr1 hl1).mono ?_; rintro e w1 ⟨rfl, hb1⟩))
    go_ret
    exact ⟨rfl, below_next hb0 (by simp; omega) hb1⟩
  case pos =>
    obtain ⟨hok, hs, _⟩ := wayErr_zero he
    have k1 := hok.c3
    have k2 := hok.c120
    have HE := Lib.hid he
    have hres : ckTurn C R B F cl s l turns len = (if 40 < turns.length then 2 else if ∃ n ∈ turns, turnBad C n then 8 else if sumAbs turns ≠ len then 8 else if ∀ x ∈ l, x ∈ (trips C s turns).2 then 0 else 8) := if_neg (by simp [he])
    rw [hres]
    clear hres he hok
    by_cases c1 : 40 < turns.length
    · have e1 : (40 : Int) < ((turns.length : Nat) : Int) := by omega
      have e2 : decide ((40 : Int) < ((turns.length : Nat) : Int)) = true := decide_eq_true e1
      rw [if_pos c1]
      go_enter Try.func53, Try.ntmps53
      go_wp2_with (first
        | (go_at_call 105; refine (refTurned_any C R B F A cap cl s D dap l _ hcl hll hr1 hl1).mono ?_; rw [HE.out]; rintro e w1 ⟨rfl, hb1⟩; have d5 := (hbq.below hb1 (by simp)).cell 0; have d6 := (hbq.below hb1 (by simp)).cell 1))
      go_ret
      exact ⟨rfl, below_next hb0 (by simp; omega) hb1⟩
    rw [if_neg c1]
    have e1 : ¬ (40 : Int) < ((turns.length : Nat) : Int) := by omega
    have e2 : decide ((40 : Int) < ((turns.length : Nat) : Int)) = false := decide_eq_false e1
    generalize hres : (if ∃ n ∈ turns, turnBad C n then (8 : Int) else if sumAbs turns ≠ len then 8 else if ∀ x ∈ l, x ∈ (trips C s turns).2 then 0 else 8) = res
    have HR := Lib.hid hres
    clear hres
    go_enter Try.func53, Try.ntmps53
    go_wp2_with (first
      | (go_at_call 105; refine (refTurned_any C R B F A cap cl s D dap l _ hcl hll hr1 hl1).mono ?_; rw [HE.out]; rintro e w1 ⟨rfl, hb1⟩; have hbk1 := hbk.below hb1 (by simp; omega); have hbq1 := hbq.below hb1 (by simp); have d5 := hbq1.cell 0; have d6 := hbq1.cell 1))
    have hba : Below w.heap.size w w1 := below_next hb0 (by simp; omega) hb1
    have hlt0 := hbk1.lt
    have hlt1 := hbq1.lt
    clear hbk hbq hb0 hb1 hr1 hl1 d5 d6
    go_loopw [10, 11, 12, 13, 14, 15] (fun p a sm i _ _ wr => ∃ k : Nat, ∃ P c, k ≤ turns.length ∧ i = .int .i64 k ∧ a = .int .i64 (trips C s (turns.take k)).1 ∧ sm = .int .i64 (sumAbs (turns.take k)) ∧ p = .slice P (trips C s (turns.take k)).2.length c ∧ Hid (∀ n ∈ turns.take k, ¬ turnBad C n) ∧ Below w1.heap.size w1 wr ∧ wr.ownsRow w1.heap.size 3 1 (.slice P (trips C s (turns.take k)).2.length c) (trips C s (turns.take k)).2.length ((trips C s (turns.take k)).2.map (Value.int .i64)))
      (fun _ _ _ i _ _ _ => turns.length - (intOf i).toNat)
    case atStart => exact ⟨0, _, _, Nat.zero_le _, rfl, rfl, rfl, rfl, by simp [Hid], below_new _ _, own_one w1 s⟩
    case round =>
      obtain ⟨k, P, c, hk, rfl, rfl, rfl, rfl, hall, hb, hown⟩ := hrel
      have hbw := below_next hba hba.size hb
      have hbkr := hbk1.below hb hlt0
      have hbqr := hbq1.below hb hlt1
      have d5 := hbqr.cell 0
      have d6 := hbqr.cell 1
      obtain ⟨d0, d1, d2, d3, d4⟩ := hbkr.five
      obtain ⟨i1, i2, i3, i4, i5⟩ := trips_ok (by omega) k2 hs.1 hs.2 k (turns.take k) (by simp; omega) hall.out
      by_cases hlt : k < turns.length
      · obtain ⟨ad, hT, hadb, hce⟩ := (ht.below hbw).get hlt
        subst hT
        have hlt2 : (k : Int) < (turns.length : Int) := by omega
        have hk200 : k ≤ 40 := by omega
        have HX : Hid (turnBad C turns[k] → res = 8) := fun h => by rw [← HR.out]; exact if_pos ⟨_, List.getElem_mem hlt, h⟩
        have HY : Hid (¬ turnBad C turns[k] → ∀ n ∈ turns.take (k + 1), ¬ turnBad C n) := fun h n hn => by
          rw [List.take_succ_eq_append_getElem hlt] at hn
          rcases List.mem_append.1 hn with h' | h'
          · exact hall.out n h'
          · rw [List.mem_singleton.1 h']; exact h
        have HT : Hid (trips C s (turns.take (k + 1)) = trip C (trips C s (turns.take k)) turns[k] ∧ sumAbs (turns.take (k + 1)) = sumAbs (turns.take k) + (turns[k].natAbs : Int)) := by
          unfold Hid
          rw [List.take_succ_eq_append_getElem hlt, trips_snoc, sumAbs_snoc]
          exact ⟨rfl, rfl⟩
        generalize sumAbs (turns.take k) = sm at *
        generalize trips C s (turns.take k) = tr at *
        obtain ⟨a0, pl⟩ := tr
        simp only at i1 i2 i3 hown HT ⊢
        generalize turns[k] = x at *
        clear hall
        by_cases hx0 : x = 0
        · have hn : Hid (res = 8) := HX.out (.inl hx0)
          subst hx0
          clear HX HY HT
          go_wp2_with fail
          go_ret
          exact ⟨by rw [hn.out]; rfl, hbw⟩
        · have y0 : (x == 0) = false := by simpa using hx0
          by_cases hx1 : -C ≤ x ∧ x ≤ C
          case neg =>
            have hn : Hid (res = 8) := HX.out (by unfold turnBad; omega)
            have D1 : Hid (decide (-C ≤ x ∧ x ≤ C) = false) := decide_eq_false hx1
            clear HX HY HT hx1
            go_wp2_with (first
              | (go_at_call 61; refine (in_any _ _ _ _).mono ?_; rw [D1.out]; rintro e w2 ⟨rfl, rfl⟩))
            go_ret
            exact ⟨by rw [hn.out]; rfl, hbw⟩
          case pos =>
            have hn := Lib.hid (HY.out (by unfold turnBad; omega))
            have D1 : Hid (decide (-C ≤ x ∧ x ≤ C) = true) := decide_eq_true hx1
            have hAB : Hid (∀ W, Calls Try.prog 106 #[.int .i64 x] W fun e w' => e = .returned (.int .i64 (x.natAbs : Int)) ∧ W = w') := fun W => abs_nat x W (by omega) (by omega)
            have hq := sg_quo hx0
            have hsg : -1 ≤ sg x ∧ sg x ≤ 1 := by unfold sg; split <;> omega
            have hm1 : 1 ≤ x.natAbs := by omega
            have hm2 : x.natAbs ≤ 120 := by omega
            have HT2 : Hid (trips C s (turns.take (k + 1)) = (stepTo C a0 (sg x) x.natAbs, pl ++ stepL C a0 (sg x) x.natAbs) ∧ sumAbs (turns.take (k + 1)) = sm + (x.natAbs : Int)) := HT.out
            clear HX HY HT
            generalize x.natAbs = m at *
            generalize sg x = sx at *
            have m0 : ((m : Int) == 0) = false := by simp; omega
            have m00 : ¬ (m : Int) = 0 := by omega
            have m01 : ¬ m = 0 := by omega
            have hwsx : IntKind.i64.wrap sx = sx := IntWalk.i64_in _ (by omega)
            go_wp2_with (first
              | (go_at_call 61; refine (in_any _ _ _ _).mono ?_; rw [D1.out]; rintro e w2 ⟨rfl, rfl⟩))
            go_loopw [10, 11, 15] (fun p a j w6 => ∃ t : Nat, ∃ P c, t ≤ m ∧ j = .int .i64 ((t : Int) + 1) ∧ a = .int .i64 (stepTo C a0 sx t) ∧ p = .slice P (pl ++ stepL C a0 sx t).length c ∧ Below w1.heap.size w1 w6 ∧ w6.ownsRow w1.heap.size 3 1 (.slice P (pl ++ stepL C a0 sx t).length c) (pl ++ stepL C a0 sx t).length ((pl ++ stepL C a0 sx t).map (Value.int .i64)))
              (fun _ _ j _ => m + 1 - (intOf j).toNat)
            case atStart => exact ⟨0, P, c, Nat.zero_le _, rfl, rfl, by simp [stepL], hb, by simpa [stepL] using hown⟩
            case round =>
              obtain ⟨t, P', c', htm, rfl, rfl, rfl, hb7, hown'⟩ := hrel
              have hbv := below_next hba hba.size hb7
              have hbk6 := hbk1.below hb7 hlt0
              have hz7 := hb7.size
              obtain ⟨g0, g1, g2, g3, g4⟩ := hbk6.five
              obtain ⟨a1, a2⟩ := stepTo_in (s := sx) (by omega) i1 i2 t
              have hsl := stepL_len C a0 sx t
              by_cases htl : t < m
              · have y1 : (t : Int) + 1 ≤ (m : Int) := by omega
                have y2 : decide ((t : Int) + 1 ≤ (m : Int)) = true := decide_eq_true y1
                have HS := Lib.hid (stepL_succ C a0 sx t)
                have HS2 : Hid (stepTo C a0 sx (t + 1) = (stepTo C a0 sx t + sx) % C) := rfl
                have hlen5 : (pl ++ stepL C a0 sx t).length ≤ 1000000 := by simp; omega
                generalize hat : stepTo C a0 sx t = at1 at *
                generalize stepL C a0 sx t = sl at *
                generalize hpl : pl ++ sl = ps at *
                have HPL := Lib.hid hpl
                clear hat hpl hsl
                go_wp2_with (first
                  | (go_at_call 106; refine (hAB.out _).mono ?_; rintro e w2 ⟨rfl, rfl⟩))
                go_region_held3 (fun w' => w'.cell? ⟨w.heap.size, 0, none⟩ = some (.int .i64 C) ∧ w'.cell? ⟨w.heap.size, 1, none⟩ = some (.int .i64 R) ∧ w'.cell? ⟨w.heap.size, 2, none⟩ = some (.int .i64 B) ∧ w'.cell? ⟨w.heap.size, 3, none⟩ = some (.int .i64 F) ∧ w'.cell? ⟨w.heap.size, 4, none⟩ = some (.slice A cl.length cap)) (first | exact K1 | exact ⟨g0, g1, g2, g3, g4⟩ | go_keep)
                  (first
                    | (go_at_call 106; refine (hAB.out _).mono ?_; rintro e w2 ⟨rfl, rfl⟩)
                    | (go_at_call 73; refine (refFurther_any C R B F _ at1 sx _ (by omega) k2 a1 a2 (by omega) (by omega)).mono ?_; rintro e w3 ⟨rfl, hb3⟩; obtain ⟨q1, q2⟩ := bcell hb3; have K1 : w3.cell? ⟨w.heap.size, 0, none⟩ = some (.int .i64 C) ∧ w3.cell? ⟨w.heap.size, 1, none⟩ = some (.int .i64 R) ∧ w3.cell? ⟨w.heap.size, 2, none⟩ = some (.int .i64 B) ∧ w3.cell? ⟨w.heap.size, 3, none⟩ = some (.int .i64 F) ∧ w3.cell? ⟨w.heap.size, 4, none⟩ = some (.slice A cl.length cap) := ⟨(q1 _ _ hbk6.lt).trans g0, (q1 _ _ hbk6.lt).trans g1, (q1 _ _ hbk6.lt).trans g2, (q1 _ _ hbk6.lt).trans g3, (q1 _ _ hbk6.lt).trans g4⟩))
                have hb3' : Below wr.heap.size wr w3 := (Below.refl _ _).drew.trans hb3
                have hz3 := hb3'.size
                go_wp2_with (at_builtin; refine app1 (by rfl) _ _ (by rfl) w1.heap.size ps ((at1 + sx) % C) _ (by rfl) (own_below hown' hb3') (by rfl) hlen5 (by omega) ?_; intro A' c'' w4 hown1 hb4)
                go_roundw
                case rel =>
                  have hb8 : Below w1.heap.size w1 w4 := (below_next hb7 hb7.size hb3').trans (hb4.mono (by omega))
                  refine ⟨t + 1, A', c'', by omega, by go_num, by rw [HS2.out], ?_, hb8, ?_⟩
                  · rw [HS.out, ← List.append_assoc, HPL.out]; simp
                  · rw [HS.out, ← List.append_assoc, HPL.out]; exact hown1
                case measure => simp [intOf]; try omega
              · obtain rfl : t = m := by omega
                have y1 : ¬ (t : Int) + 1 ≤ (t : Int) := by omega
                have y2 : decide ((t : Int) + 1 ≤ (t : Int)) = false := decide_eq_false y1
                go_wp2_with (first
                  | (go_at_call 106; refine (hAB.out _).mono ?_; rintro e w2 ⟨rfl, rfl⟩))
                go_roundw
                case rel =>
                  obtain ⟨z1, z2⟩ := HT2.out
                  exact ⟨k + 1, P', c', by omega, by go_num, by rw [z1], by rw [z2], by rw [z1]; simp [stepL_len], hn.out, hb7, by rw [z1]; exact hown'⟩
                case measure => simp [intOf]; try omega
      · have ek : turns.take k = turns := List.take_of_length_le (by omega)
        have hk40 : k ≤ 40 := by omega
        rw [ek] at hall hown i1 i2 i3 i4 i5 ⊢
        clear ek
        have hgood : ¬ ∃ n ∈ turns, turnBad C n := fun ⟨n, h1, h2⟩ => hall.out n h1 h2
        have HR2 : Hid ((if sumAbs turns ≠ len then (8 : Int) else if ∀ x ∈ l, x ∈ (trips C s turns).2 then 0 else 8) = res) := by
          unfold Hid; rw [← HR.out]; exact (if_neg hgood).symm
        clear hgood hall HR
        generalize sumAbs turns = sm at *
        generalize trips C s turns = tr at *
        obtain ⟨a0, pl⟩ := tr
        simp only at i1 i2 i3 hown HR2 ⊢
        by_cases hsm : sm = len
        case neg =>
          have hn : Hid (res = 8) := by unfold Hid; rw [← HR2.out]; exact if_pos hsm
          have y1 : (sm != len) = true := by simpa using hsm
          clear HR2
          go_wp2_with fail
          go_ret
          exact ⟨by rw [hn.out]; rfl, hbw⟩
        case pos =>
          have HR3 : Hid ((if ∀ x ∈ l, x ∈ pl then (0 : Int) else 8) = res) := by unfold Hid; rw [← HR2.out]; exact (if_neg (by simpa using hsm)).symm
          subst hsm
          have y1 : (sm != sm) = false := by simp
          obtain ⟨z1, z2, hI⟩ := own_facts hown
          clear HR2
          go_wp2_with fail
          clear d0 d1 d2 d3 d4 d5 d6 hown
          go_loopw [16, 17] (fun i _ w6 => ∃ j : Nat, j ≤ l.length ∧ i = .int .i64 j ∧ Hid (∀ x ∈ l.take j, x ∈ pl) ∧ Below wr.heap.size wr w6)
            (fun i _ _ => l.length - (intOf i).toNat)
          case atStart => exact ⟨0, Nat.zero_le _, rfl, by simp [Hid], Below.refl _ _⟩
          case round =>
            obtain ⟨j, hj, rfl, hall2, hb6⟩ := hrel
            have hbv := below_next hbw hbw.size hb6
            by_cases hjl : j < l.length
            · obtain ⟨ad, hD, hadb, hce⟩ := (hl.below hbv).get hjl
              subst hD
              have hjl2 : (j : Int) < (l.length : Int) := by omega
              have hIr := hI.behind hb6
              by_cases hin : l[j] ∈ pl
              · have D1 : Hid (decide (l[j] ∈ pl) = true) := decide_eq_true hin
                have hn : Hid (∀ x ∈ l.take (j + 1), x ∈ pl) := fun x hx => by
                  rw [List.take_succ_eq_append_getElem hjl] at hx
                  rcases List.mem_append.1 hx with h' | h'
                  · exact hall2.out x h'
                  · rw [List.mem_singleton.1 h']; exact hin
                clear hin hall2
                go_wp2_with (first
                  | (go_at_call 72; refine (has_any pl _ _ _ _ (by omega) hIr).mono ?_; rw [D1.out]; rintro e w2 ⟨rfl, rfl⟩))
                go_roundw
                case rel => exact ⟨j + 1, by omega, by go_num, hn, hb6⟩
                case measure => simp [intOf]; try omega
              · have D1 : Hid (decide (l[j] ∈ pl) = false) := decide_eq_false hin
                have hn : Hid (res = 8) := by unfold Hid; rw [← HR3.out]; exact if_neg fun h => hin (h _ (List.getElem_mem hjl))
                clear hin hall2
                go_wp2_with (first
                  | (go_at_call 72; refine (has_any pl _ _ _ _ (by omega) hIr).mono ?_; rw [D1.out]; rintro e w2 ⟨rfl, rfl⟩))
                go_ret
                exact ⟨by rw [hn.out]; rfl, hbv⟩
            · have hn : Hid (res = 0) := by
                unfold Hid; rw [← HR3.out]; exact if_pos (by have := hall2.out; rwa [List.take_of_length_le (by omega)] at this)
              go_wp2_with fail
              go_ret
              exact ⟨by rw [hn.out]; rfl, hbv⟩

end Go.Proofs.Ytnjmkdgglpcfpaa
