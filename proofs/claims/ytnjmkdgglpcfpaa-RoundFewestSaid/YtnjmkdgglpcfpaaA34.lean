import Derived.Test.YtnjmkdgglpcfpaaA33
import Derived.Test.YtnjmkdgglpcfpaaA26
import Derived.Test.YtnjmkdgglpcfpaaA31
namespace Go.Proofs.Ytnjmkdgglpcfpaa
open Go.RowKit

/-- one column of a cut -/
def apP (C B F : Int) (cs : List Int) (s : Int) (x : Int) : Bool := decide (x ∈ cs) && !decide (x ∈ rchL C B s (B + F + 1).toNat)
/-- how many columns of a cut are reached from a stand -/
def apN (C B F : Int) (l : List Int) (o : Int) : Nat := (l.filter fun x => decide (x ∈ rchL C B o (B + F + 1).toNat)).length
/-- the reference's word on a cut -/
def apartB (C B F : Int) (cl cs : List Int) (s : Int) (l : List Int) : Bool := decide (Rise C l) && l.all (apP C B F cs s) && (openL C cl).all fun o => decide (apN C B F l o ≤ 1)
theorem apartB_rise {C B F : Int} {cl cs : List Int} {s : Int} {l : List Int} (h : ¬ Rise C l) : apartB C B F cl cs s l = false := by simp [apartB, h]
theorem apartB_one {C B F : Int} {cl cs : List Int} {s : Int} {l : List Int} {k : Nat} (hk : k < l.length) (h : apP C B F cs s l[k] = false) : apartB C B F cl cs s l = false := by
  cases hb : apartB C B F cl cs s l with
  | false => rfl
  | true =>
    unfold apartB at hb
    simp only [Bool.and_eq_true] at hb
    have := List.all_eq_true.1 hb.1.2 _ (List.getElem_mem hk)
    rw [h] at this
    cases this
theorem apartB_two {C B F : Int} {cl cs : List Int} {s : Int} {l : List Int} {k : Nat} (hk : k < (openL C cl).length) (h : ¬ apN C B F l (openL C cl)[k] ≤ 1) : apartB C B F cl cs s l = false := by
  cases hb : apartB C B F cl cs s l with
  | false => rfl
  | true =>
    unfold apartB at hb
    simp only [Bool.and_eq_true] at hb
    have := List.all_eq_true.1 hb.2 _ (List.getElem_mem hk)
    exact absurd (of_decide_eq_true this) h
theorem all_next {l : List Int} {P : Int → Bool} {k : Nat} (hk : k < l.length) (h : (l.take k).all P = true) (hp : P l[k] = true) : (l.take (k + 1)).all P = true := by
  rw [List.take_succ_eq_append_getElem hk, List.all_append, h]
  simp [hp]
theorem apN_yes {C B F : Int} {l : List Int} {o : Int} {k : Nat} (hk : k < l.length) (h : decide (l[k] ∈ rchL C B o (B + F + 1).toNat) = true) : apN C B F (l.take (k + 1)) o = apN C B F (l.take k) o + 1 := by
  unfold apN
  rw [List.take_succ_eq_append_getElem hk, List.filter_append]
  simp at h
  simp [h]
theorem apN_no {C B F : Int} {l : List Int} {o : Int} {k : Nat} (hk : k < l.length) (h : decide (l[k] ∈ rchL C B o (B + F + 1).toNat) = false) : apN C B F (l.take (k + 1)) o = apN C B F (l.take k) o := by
  unfold apN
  rw [List.take_succ_eq_append_getElem hk, List.filter_append]
  simp at h
  simp [h]
theorem apN_le {C B F : Int} {l : List Int} {o : Int} {k : Nat} : apN C B F (l.take k) o ≤ l.length := by
  unfold apN
  have := List.length_filter_le (fun x => decide (x ∈ rchL C B o (B + F + 1).toNat)) (l.take k)
  have := List.length_take_le' k l
  omega
theorem openL_le (C : Int) (cl : List Int) : (openL C cl).length ≤ C.toNat := colsTo_len _ _

set_option maxRecDepth 100000 in
set_option maxHeartbeats 4000000 in
theorem apart_any (C R B F : Int) (A : Option Addr) (cap : Nat) (cl : List Int) (D : Option Addr) (dap : Nat) (cs : List Int) (s : Int) (E : Option Addr) (eap : Nat) (l : List Int) (w : World) (h1 : 1 ≤ C) (h2 : C ≤ 120) (h3 : 0 ≤ s) (h4 : s < C) (h7 : 0 ≤ B) (h8 : 0 ≤ F) (h9 : F < C - B) (hcl : cl.length ≤ 1000000) (hcs : cs.length ≤ 1000000) (hll : l.length ≤ 1000000) (hr : Ints w w.heap.size A cl) (hc : Ints w w.heap.size D cs) (hl : Ints w w.heap.size E l) :
    Calls Try.prog 91 #[.agg #[.int .i64 C, .int .i64 R, .int .i64 B, .int .i64 F, .slice A cl.length cap], .slice D cs.length dap, .int .i64 s, .slice E l.length eap] w fun e w' => e = .returned (.bool (apartB C B F cl cs s l)) ∧ Below w.heap.size w w' := by
  have hb0 := below_new w (.cells #[.int .i64 C, .int .i64 R, .int .i64 B, .int .i64 F, .slice A cl.length cap] 24)
  have hr1 := hr.behind hb0
  have hl1 := hl.behind hb0
  have hbk := Blk.new w 24 #[.int .i64 C, .int .i64 R, .int .i64 B, .int .i64 F, .slice A cl.length cap]
  obtain ⟨d0, d1, d2, d3, d4⟩ := hbk.five
  by_cases hrise : Rise C l
  case neg =>
    have hd : Hid (decide (Rise (C - 1 + 1) l) = false) := decide_eq_false (by rw [Int.sub_add_cancel]; exact hrise)
    rw [apartB_rise hrise]
    clear hrise
    go_enter Try.func91, Try.ntmps91
    go_wp2_with (first
      | (go_at_call 75; refine (rising_any l _ _ _ _ hll hl1).mono ?_; rw [hd.out]; rintro e w1 ⟨rfl, hb1⟩))
    go_ret
    exact ⟨rfl, below_next hb0 (by simp) hb1⟩
  case pos =>
    have hd : Hid (decide (Rise (C - 1 + 1) l) = true) := decide_eq_true (by rw [Int.sub_add_cancel]; exact hrise)
    have HRS := Lib.hid hrise
    clear hrise
    generalize hres : apartB C B F cl cs s l = res
    have HR := Lib.hid hres
    clear hres
    go_enter Try.func91, Try.ntmps91
    go_wp2_with (first
      | (go_at_call 75; refine (rising_any l _ _ _ _ hll hl1).mono ?_; rw [hd.out]; rintro e w1 ⟨rfl, hb1⟩))
    have hba : Below w.heap.size w w1 := below_next hb0 (by simp) hb1
    have hbk1 := hbk.below hb1 (by simp)
    clear hb0 hbk d0 d1 d2 d3 d4 hb1 hr1 hl1
    go_loopw [10, 11, 12] (fun i _ _ wr => ∃ k : Nat, k ≤ l.length ∧ i = .int .i64 k ∧ Hid ((l.take k).all (apP C B F cs s) = true) ∧ Below w1.heap.size w1 wr)
      (fun i _ _ _ => l.length - (intOf i).toNat)
    case atStart => exact ⟨0, Nat.zero_le _, rfl, rfl, Below.refl _ _⟩
    case round =>
      obtain ⟨k, hk, rfl, hall, hb⟩ := hrel
      have hbw : Below w.heap.size w wr := below_next hba hba.size hb
      have hbkr := hbk1.below hb hbk1.lt
      obtain ⟨d0, d1, d2, d3, d4⟩ := hbkr.five
      by_cases hlt : k < l.length
      · obtain ⟨ad, hA, hadb, hce⟩ := (hl.below hbw).get hlt
        subst hA
        have hll2 : (k : Int) < (l.length : Int) := by omega
        have hcsr := (hc.below hbw).more hbw.size
        by_cases hin : l[k] ∈ cs
        · have D1 : Hid (decide (l[k] ∈ cs) = true) := decide_eq_true hin
          cases hrc : decide (l[k] ∈ rchL C B s (B + F + 1).toNat) with
          | true =>
            have hn : Hid (res = false) := by unfold Hid; rw [← HR.out]; exact apartB_one hlt (by unfold apP; rw [hrc, D1.out]; rfl)
            have HC := Lib.hid hrc
            clear hin hrc hall
            go_wp2_with (first
              | (go_at_call 72; refine (has_any cs _ _ _ _ hcs hcsr).mono ?_; rw [D1.out]; rintro e w2 ⟨rfl, rfl⟩))
            go_region_held3 (fun w' => w'.cell? ⟨w.heap.size, 0, none⟩ = some (.int .i64 C) ∧ w'.cell? ⟨w.heap.size, 1, none⟩ = some (.int .i64 R) ∧ w'.cell? ⟨w.heap.size, 2, none⟩ = some (.int .i64 B) ∧ w'.cell? ⟨w.heap.size, 3, none⟩ = some (.int .i64 F) ∧ w'.cell? ⟨w.heap.size, 4, none⟩ = some (.slice A cl.length cap) ∧ w'.cell? (ad.add k) = some (.int .i64 l[k])) (first | exact K1 | exact ⟨d0, d1, d2, d3, d4, hce⟩)
              (first
                | (go_at_call 110; refine (reached_any C R B F _ s l[k] _ h1 h2 h3 h4 h7 h8 h9).mono ?_; rw [HC.out]; rintro e w3 ⟨rfl, hb3⟩; obtain ⟨q1, q2⟩ := bcell hb3; have K1 : w3.cell? ⟨w.heap.size, 0, none⟩ = some (.int .i64 C) ∧ w3.cell? ⟨w.heap.size, 1, none⟩ = some (.int .i64 R) ∧ w3.cell? ⟨w.heap.size, 2, none⟩ = some (.int .i64 B) ∧ w3.cell? ⟨w.heap.size, 3, none⟩ = some (.int .i64 F) ∧ w3.cell? ⟨w.heap.size, 4, none⟩ = some (.slice A cl.length cap) ∧ w3.cell? (ad.add k) = some (.int .i64 l[k]) := ⟨(q1 _ _ hbkr.lt).trans d0, (q1 _ _ hbkr.lt).trans d1, (q1 _ _ hbkr.lt).trans d2, (q1 _ _ hbkr.lt).trans d3, (q1 _ _ hbkr.lt).trans d4, (hb3.cell (p := (ad.add k)) (World.block_lt_of_cell? _ _ hce)).trans hce⟩))
            go_wp2_with fail
            go_ret
            exact ⟨by rw [hn.out]; rfl, below_next hbw.drew hbw.size hb3⟩
          | false =>
            have hn : Hid ((l.take (k + 1)).all (apP C B F cs s) = true) := all_next hlt hall.out (by unfold apP; rw [hrc, D1.out]; rfl)
            have HC := Lib.hid hrc
            clear hin hrc hall
            go_wp2_with (first
              | (go_at_call 72; refine (has_any cs _ _ _ _ hcs hcsr).mono ?_; rw [D1.out]; rintro e w2 ⟨rfl, rfl⟩))
            go_region_held3 (fun w' => w'.cell? ⟨w.heap.size, 0, none⟩ = some (.int .i64 C) ∧ w'.cell? ⟨w.heap.size, 1, none⟩ = some (.int .i64 R) ∧ w'.cell? ⟨w.heap.size, 2, none⟩ = some (.int .i64 B) ∧ w'.cell? ⟨w.heap.size, 3, none⟩ = some (.int .i64 F) ∧ w'.cell? ⟨w.heap.size, 4, none⟩ = some (.slice A cl.length cap) ∧ w'.cell? (ad.add k) = some (.int .i64 l[k])) (first | exact K1 | exact ⟨d0, d1, d2, d3, d4, hce⟩)
              (first
                | (go_at_call 110; refine (reached_any C R B F _ s l[k] _ h1 h2 h3 h4 h7 h8 h9).mono ?_; rw [HC.out]; rintro e w3 ⟨rfl, hb3⟩; obtain ⟨q1, q2⟩ := bcell hb3; have K1 : w3.cell? ⟨w.heap.size, 0, none⟩ = some (.int .i64 C) ∧ w3.cell? ⟨w.heap.size, 1, none⟩ = some (.int .i64 R) ∧ w3.cell? ⟨w.heap.size, 2, none⟩ = some (.int .i64 B) ∧ w3.cell? ⟨w.heap.size, 3, none⟩ = some (.int .i64 F) ∧ w3.cell? ⟨w.heap.size, 4, none⟩ = some (.slice A cl.length cap) ∧ w3.cell? (ad.add k) = some (.int .i64 l[k]) := ⟨(q1 _ _ hbkr.lt).trans d0, (q1 _ _ hbkr.lt).trans d1, (q1 _ _ hbkr.lt).trans d2, (q1 _ _ hbkr.lt).trans d3, (q1 _ _ hbkr.lt).trans d4, (hb3.cell (p := (ad.add k)) (World.block_lt_of_cell? _ _ hce)).trans hce⟩))
            go_wp2_with fail
            go_roundw
            case rel => exact ⟨k + 1, by omega, by go_num, hn, below_next hb.drew hb.size hb3⟩
            case measure => simp [intOf]; try omega
        · have D1 : Hid (decide (l[k] ∈ cs) = false) := decide_eq_false hin
          have hn : Hid (res = false) := by unfold Hid; rw [← HR.out]; exact apartB_one hlt (by unfold apP; rw [D1.out]; rfl)
          clear hin hall
          go_wp2_with (first
            | (go_at_call 72; refine (has_any cs _ _ _ _ hcs hcsr).mono ?_; rw [D1.out]; rintro e w2 ⟨rfl, rfl⟩))
          go_region_held3 (fun w' => w'.cell? ⟨w.heap.size, 0, none⟩ = some (.int .i64 C) ∧ w'.cell? ⟨w.heap.size, 1, none⟩ = some (.int .i64 R) ∧ w'.cell? ⟨w.heap.size, 2, none⟩ = some (.int .i64 B) ∧ w'.cell? ⟨w.heap.size, 3, none⟩ = some (.int .i64 F) ∧ w'.cell? ⟨w.heap.size, 4, none⟩ = some (.slice A cl.length cap) ∧ w'.cell? (ad.add k) = some (.int .i64 l[k])) (first | exact K1 | exact ⟨d0, d1, d2, d3, d4, hce⟩)
            (first
              | (go_at_call 110; refine (reached_any C R B F _ s l[k] _ h1 h2 h3 h4 h7 h8 h9).mono ?_; rintro e w3 ⟨rfl, hb3⟩; obtain ⟨q1, q2⟩ := bcell hb3; have K1 : w3.cell? ⟨w.heap.size, 0, none⟩ = some (.int .i64 C) ∧ w3.cell? ⟨w.heap.size, 1, none⟩ = some (.int .i64 R) ∧ w3.cell? ⟨w.heap.size, 2, none⟩ = some (.int .i64 B) ∧ w3.cell? ⟨w.heap.size, 3, none⟩ = some (.int .i64 F) ∧ w3.cell? ⟨w.heap.size, 4, none⟩ = some (.slice A cl.length cap) ∧ w3.cell? (ad.add k) = some (.int .i64 l[k]) := ⟨(q1 _ _ hbkr.lt).trans d0, (q1 _ _ hbkr.lt).trans d1, (q1 _ _ hbkr.lt).trans d2, (q1 _ _ hbkr.lt).trans d3, (q1 _ _ hbkr.lt).trans d4, (hb3.cell (p := (ad.add k)) (World.block_lt_of_cell? _ _ hce)).trans hce⟩))
          go_wp2_with fail
          go_ret
          exact ⟨by rw [hn.out]; rfl, below_next hbw.drew hbw.size hb3⟩
      · have hall1 : Hid (l.all (apP C B F cs s) = true) := by have := hall.out; rwa [List.take_of_length_le (by omega)] at this
        have hO : Hid (∀ x ∈ openL C cl, 0 ≤ x ∧ x < C) := fun x hx => openL_mem hx
        have hOl := openL_le C cl
        have hrr := (hr.below hbw).more hbw.size
        clear hall
        generalize hos : openL C cl = os at hO hOl
        have HOS := Lib.hid hos
        clear hos
        go_wp2_with (first
          | (go_at_call 96; refine (open_any C R B F _ _ cl _ h1 h2 hcl hrr).mono ?_; rw [HOS.out]; rintro e w4 ⟨G, gap, rfl, g1, g2, g3, hb4⟩))
        have hbx : Below w.heap.size w w4 := below_next hbw hbw.size hb4
        have hbk4 := hbkr.below hb4 hbkr.lt
        clear d0 d1 d2 d3 d4
        go_loopw [14, 15, 16, 17] (fun j _ _ _ w5 => ∃ k : Nat, k ≤ os.length ∧ j = .int .i64 k ∧ Hid ((os.take k).all (fun o => decide (apN C B F l o ≤ 1)) = true) ∧ Below w4.heap.size w4 w5)
          (fun j _ _ _ _ => os.length - (intOf j).toNat)
        case atStart => exact ⟨0, Nat.zero_le _, rfl, rfl, Below.refl _ _⟩
        case round =>
          obtain ⟨j, hj, rfl, hall2, hb5⟩ := hrel
          have hby := below_next hbx hbx.size hb5
          have hbk5 := hbk4.below hb5 hbk4.lt
          by_cases hjl : j < os.length
          · obtain ⟨ae, hE, haeb, hcf⟩ := (g3.below hb5).get hjl
            subst hE
            have hjl2 : (j : Int) < (os.length : Int) := by omega
            have ho := hO.out _ (List.getElem_mem hjl)
            go_wp2_with fail
            go_loopw [15, 16, 17] (fun n i _ w6 => ∃ t : Nat, t ≤ l.length ∧ i = .int .i64 t ∧ n = .int .i64 (apN C B F (l.take t) os[j]) ∧ Below wr.heap.size wr w6)
              (fun _ i _ _ => l.length - (intOf i).toNat)
            case atStart => exact ⟨0, Nat.zero_le _, rfl, by simp [apN], Below.refl _ _⟩
            case round =>
              obtain ⟨t, ht, rfl, rfl, hb6⟩ := hrel
              have hbz := below_next hby hby.size hb6
              have hbk6 := hbk5.below hb6 hbk5.lt
              obtain ⟨d0, d1, d2, d3, d4⟩ := hbk6.five
              have han := apN_le (C := C) (B := B) (F := F) (l := l) (o := os[j]) (k := t)
              have hcf6 := (hb6.cell (p := ae.add j) (World.block_lt_of_cell? _ _ hcf)).trans hcf
              by_cases htl : t < l.length
              · obtain ⟨ag, hG, hagb, hcg⟩ := (hl.below hbz).get htl
                subst hG
                have htl2 : (t : Int) < (l.length : Int) := by omega
                cases hrc : decide (l[t] ∈ rchL C B os[j] (B + F + 1).toNat) with
                | true =>
                  have hY := Lib.hid (apN_yes htl hrc)
                  have HC := Lib.hid hrc
                  clear hrc
                  go_wp2_with fail
                  go_region_held3 (fun w' => w'.cell? ⟨w.heap.size, 0, none⟩ = some (.int .i64 C) ∧ w'.cell? ⟨w.heap.size, 1, none⟩ = some (.int .i64 R) ∧ w'.cell? ⟨w.heap.size, 2, none⟩ = some (.int .i64 B) ∧ w'.cell? ⟨w.heap.size, 3, none⟩ = some (.int .i64 F) ∧ w'.cell? ⟨w.heap.size, 4, none⟩ = some (.slice A cl.length cap) ∧ w'.cell? (ae.add j) = some (.int .i64 os[j]) ∧ w'.cell? (ag.add t) = some (.int .i64 l[t])) (first | exact K1 | exact ⟨d0, d1, d2, d3, d4, hcf6, hcg⟩)
                    (first
                      | (go_at_call 110; refine (reached_any C R B F _ os[j] l[t] _ h1 h2 ho.1 ho.2 h7 h8 h9).mono ?_; rw [HC.out]; rintro e w3 ⟨rfl, hb3⟩; obtain ⟨q1, q2⟩ := bcell hb3; have K1 : w3.cell? ⟨w.heap.size, 0, none⟩ = some (.int .i64 C) ∧ w3.cell? ⟨w.heap.size, 1, none⟩ = some (.int .i64 R) ∧ w3.cell? ⟨w.heap.size, 2, none⟩ = some (.int .i64 B) ∧ w3.cell? ⟨w.heap.size, 3, none⟩ = some (.int .i64 F) ∧ w3.cell? ⟨w.heap.size, 4, none⟩ = some (.slice A cl.length cap) ∧ w3.cell? (ae.add j) = some (.int .i64 os[j]) ∧ w3.cell? (ag.add t) = some (.int .i64 l[t]) := ⟨(q1 _ _ hbk6.lt).trans d0, (q1 _ _ hbk6.lt).trans d1, (q1 _ _ hbk6.lt).trans d2, (q1 _ _ hbk6.lt).trans d3, (q1 _ _ hbk6.lt).trans d4, (hb3.cell (p := (ae.add j)) (World.block_lt_of_cell? _ _ hcf6)).trans hcf6, (hb3.cell (p := (ag.add t)) (World.block_lt_of_cell? _ _ hcg)).trans hcg⟩))
                  go_wp2_with fail
                  go_roundw
                  case rel => exact ⟨t + 1, by omega, by go_num, by rw [hY.out]; go_num, below_next hb6.drew hb6.size hb3⟩
                  case measure => simp [intOf]; try omega
                | false =>
                  have hY := Lib.hid (apN_no htl hrc)
                  have HC := Lib.hid hrc
                  clear hrc
                  go_wp2_with fail
                  go_region_held3 (fun w' => w'.cell? ⟨w.heap.size, 0, none⟩ = some (.int .i64 C) ∧ w'.cell? ⟨w.heap.size, 1, none⟩ = some (.int .i64 R) ∧ w'.cell? ⟨w.heap.size, 2, none⟩ = some (.int .i64 B) ∧ w'.cell? ⟨w.heap.size, 3, none⟩ = some (.int .i64 F) ∧ w'.cell? ⟨w.heap.size, 4, none⟩ = some (.slice A cl.length cap) ∧ w'.cell? (ae.add j) = some (.int .i64 os[j]) ∧ w'.cell? (ag.add t) = some (.int .i64 l[t])) (first | exact K1 | exact ⟨d0, d1, d2, d3, d4, hcf6, hcg⟩)
                    (first
                      | (go_at_call 110; refine (reached_any C R B F _ os[j] l[t] _ h1 h2 ho.1 ho.2 h7 h8 h9).mono ?_; rw [HC.out]; rintro e w3 ⟨rfl, hb3⟩; obtain ⟨q1, q2⟩ := bcell hb3; have K1 : w3.cell? ⟨w.heap.size, 0, none⟩ = some (.int .i64 C) ∧ w3.cell? ⟨w.heap.size, 1, none⟩ = some (.int .i64 R) ∧ w3.cell? ⟨w.heap.size, 2, none⟩ = some (.int .i64 B) ∧ w3.cell? ⟨w.heap.size, 3, none⟩ = some (.int .i64 F) ∧ w3.cell? ⟨w.heap.size, 4, none⟩ = some (.slice A cl.length cap) ∧ w3.cell? (ae.add j) = some (.int .i64 os[j]) ∧ w3.cell? (ag.add t) = some (.int .i64 l[t]) := ⟨(q1 _ _ hbk6.lt).trans d0, (q1 _ _ hbk6.lt).trans d1, (q1 _ _ hbk6.lt).trans d2, (q1 _ _ hbk6.lt).trans d3, (q1 _ _ hbk6.lt).trans d4, (hb3.cell (p := (ae.add j)) (World.block_lt_of_cell? _ _ hcf6)).trans hcf6, (hb3.cell (p := (ag.add t)) (World.block_lt_of_cell? _ _ hcg)).trans hcg⟩))
                  go_wp2_with fail
                  go_roundw
                  case rel => exact ⟨t + 1, by omega, by go_num, by rw [hY.out], below_next hb6.drew hb6.size hb3⟩
                  case measure => simp [intOf]; try omega
              · have et : l.take t = l := List.take_of_length_le (by omega)
                rw [et] at han ⊢
                clear et
                by_cases hone : apN C B F l os[j] ≤ 1
                · have hn : Hid ((os.take (j + 1)).all (fun o => decide (apN C B F l o ≤ 1)) = true) := all_next hjl hall2.out (decide_eq_true hone)
                  have hone2 : ¬ (1 : Int) < ((apN C B F l os[j] : Nat) : Int) := by omega
                  have hone3 : decide ((1 : Int) < ((apN C B F l os[j] : Nat) : Int)) = false := decide_eq_false hone2
                  clear hall2 hone
                  generalize apN C B F l os[j] = nn at *
                  go_wp2_with fail
                  go_roundw
                  case rel => exact ⟨j + 1, by omega, by go_num, hn, below_next hb5 hb5.size hb6⟩
                  case measure => simp [intOf]; try omega
                · have hn : Hid (res = false) := by
                    unfold Hid
                    rw [← HR.out]
                    have hos := HOS.out
                    subst hos
                    exact apartB_two hjl hone
                  have hone2 : (1 : Int) < ((apN C B F l os[j] : Nat) : Int) := by omega
                  have hone3 : decide ((1 : Int) < ((apN C B F l os[j] : Nat) : Int)) = true := decide_eq_true hone2
                  clear hall2 hone
                  generalize apN C B F l os[j] = nn at *
                  go_wp2_with fail
                  go_ret
                  exact ⟨by rw [hn.out]; rfl, hbz⟩
          · have hn : Hid (res = true) := by
              unfold Hid
              rw [← HR.out]
              unfold apartB
              have := hall2.out
              rw [List.take_of_length_le (by omega)] at this
              rw [HOS.out, this, hall1.out, decide_eq_true HRS.out]
              rfl
            go_wp2_with fail
            go_ret
            exact ⟨by rw [hn.out]; rfl, hby⟩

end Go.Proofs.Ytnjmkdgglpcfpaa
