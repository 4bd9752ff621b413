import Derived.Test.YtnjmkdgglpcfpaaA13
namespace Go.Proofs.Ytnjmkdgglpcfpaa
open Go.RowKit

/-- the first one of the cheapest, behind a best one that costs low -/
def leastGo (cost : Int → Int) : Int → Int → List Int → Int
  | best, _, [] => best
  | best, low, t :: l => if cost t < low then leastGo cost t (cost t) l else leastGo cost best low l
/-- the first one of those that cost least -/
def leastOf (cost : Int → Int) : List Int → Int
  | [] => 0
  | x :: l => leastGo cost x (cost x) l
/-- how many stands more a round takes that begins with a stand -/
def costOf (C B F : Int) (p q : Nat → Bool) (s : Int) : Int := (afters C B F p q s).length

set_option maxRecDepth 100000 in
set_option maxHeartbeats 400000 in
theorem cost_any (C R B F : Int) (sl : Value) (p q : Nat → Bool) (c : Int) (g : Nat) (w : World) (h1 : 1 ≤ C) (h2 : C ≤ 120) (h3 : 0 ≤ c) (h4 : c < C) (h7 : 0 ≤ B) (h8 : 0 ≤ F) (h9 : F < C - B) (hb : Blk w g 106 (sv C R B F sl p q)) :
    Calls Try.prog 117 #[.int .i64 c, .pointer (some ⟨g, 0, none⟩)] w fun e w' => e = .returned (.int .i64 (costOf C B F p q c)) ∧ Below w.heap.size w w' := by
  have hL : Hid (((afters C B F p q c).length : Int) = costOf C B F p q c) := rfl
  go_enter Try.func117, Try.ntmps117
  go_wp2_with (first
    | (refine wpList_load_row (by rfl) 106 _ (by rfl) _ (by rfl) 106 _ (0, 0) _ hb Try.underlying106 rfl (info106 _ _ _ _ _ _ _) ?_)
    | (go_at_call 97; refine (after_any C R B F sl p q c _ h1 h2 h3 h4 h7 h8 h9).mono ?_; rintro e w1 ⟨A, c', rfl, e1, e2, e3, hb1⟩))
  go_ret
  exact ⟨ret_int hL.out, hb1⟩

theorem Ints.tail {w : World} {B : Nat} {ad : Addr} {x : Int} {l : List Int} (h : Ints w B (some ad) (x :: l)) : Ints w B (some ⟨ad.block, ad.off + 1, none⟩) l := fun k y hy => by
  obtain ⟨a, ha, hb, hc⟩ := h (k + 1) y (by simpa using hy)
  cases ha
  refine ⟨_, rfl, hb, ?_⟩
  have : (⟨ad.block, ad.off + 1, none⟩ : Addr).add k = ad.add (k + 1) := by
    unfold Addr.add
    rw [if_neg (by omega : ¬ k + 1 = 0)]
    split
    · rename_i h0
      rw [h0]
    · simp
      omega
  rw [this]
  exact hc
theorem leastGo_yes {cost : Int → Int} {best low t : Int} {l : List Int} (h : cost t < low) : leastGo cost best low (t :: l) = leastGo cost t (cost t) l := if_pos h
theorem leastGo_no {cost : Int → Int} {best low t : Int} {l : List Int} (h : ¬ cost t < low) : leastGo cost best low (t :: l) = leastGo cost best low l := if_neg h
theorem drop_cons {l : List Int} {k : Nat} (h : k < l.length) : l.drop k = l[k] :: l.drop (k + 1) := List.drop_eq_getElem_cons h

set_option maxRecDepth 100000 in
set_option maxHeartbeats 1000000 in
theorem least_any (C R B F : Int) (sl : Value) (p q : Nat → Bool) (g : Nat) (D : Option Addr) (dap : Nat) (x0 : Int) (l : List Int) (w : World) (h1 : 1 ≤ C) (h2 : C ≤ 120) (h7 : 0 ≤ B) (h8 : 0 ≤ F) (h9 : F < C - B)
    (hb : Blk w g 106 (sv C R B F sl p q)) (hr : Ints w w.heap.size D (x0 :: l)) (hm : ∀ x ∈ x0 :: l, 0 ≤ x ∧ x < C) (hlen : l.length ≤ 200) (hcap : l.length + 1 ≤ dap) :
    Calls Try.prog 116 #[.slice D (l.length + 1) dap, .func (.func 117) #[] #[.pointer (some ⟨g, 0, none⟩)]] w fun e w' => e = .returned (.int .i64 (leastOf (costOf C B F p q) (x0 :: l))) ∧ Below w.heap.size w w' := by
  obtain ⟨ad, rfl, hadb, hc0⟩ := hr.get (k := 0) (by simp)
  have hx0 := hm x0 (by simp)
  have e0 : ad.add 0 = ad := rfl
  rw [e0] at hc0
  simp only [List.getElem_cons_zero] at hc0
  have hl1 : (0 : Int) < (l.length : Int) + 1 := by omega
  have hl2 : (1 : Int) ≤ (l.length : Int) + 1 := by omega
  clear e0
  have HL : Hid (leastOf (costOf C B F p q) (x0 :: l) = leastGo (costOf C B F p q) x0 (costOf C B F p q x0) l) := rfl
  have HC : Hid (∀ x, 0 ≤ x → x < C → ∀ W : World, Blk W g 106 (sv C R B F sl p q) → Calls Try.prog 117 #[.int .i64 x, .pointer (some ⟨g, 0, none⟩)] W fun e w' => e = .returned (.int .i64 (costOf C B F p q x)) ∧ Below W.heap.size W w') :=
    fun x hxa hxb W hW => cost_any C R B F sl p q x g W h1 h2 hxa hxb h7 h8 h9 hW
  generalize leastOf (costOf C B F p q) (x0 :: l) = res at HL ⊢
  generalize costOf C B F p q = cost at HL HC
  have hm' : ∀ x ∈ l, 0 ≤ x ∧ x < C := fun x hx => hm x (by simp [hx])
  have HM := Lib.hid hm'
  have HT := Lib.hid hr.tail
  have HX := Lib.hid hx0
  have hnt : (1 : Int) ≤ (dap : Int) := by omega
  clear hm hm' hr hx0
  go_enter Try.func116, Try.ntmps116
  go_wp2_with fail
  go_region_held3 (fun w' => w'.cell? ad = some (.int .i64 x0) ∧ Blk w' g 106 (sv C R B F sl p q)) (first | exact K1 | exact ⟨hc0, hb⟩)
    (first
      | (go_at_call 117; refine (HC.out x0 HX.out.1 HX.out.2 _ ?_).mono ?_; (exact hb); rintro e w1 ⟨rfl, hb1⟩; have K1 : w1.cell? ad = some (.int .i64 x0) ∧ Blk w1 g 106 (sv C R B F sl p q) := ⟨(hb1.cell (p := ad) hadb).trans hc0, (hb1.block _ hb.lt).trans hb⟩))
  go_wp2_with fail
  · obtain rfl : l = [] := List.eq_nil_of_length_eq_zero (by omega)
    go_loopw [5, 6, 8, 9, 21] (fun v lo _ _ i wr => v = .int .i64 x0 ∧ i = .int .i64 0 ∧ w1 = wr) (fun _ _ _ _ _ _ => 0)
    case atStart => exact ⟨rfl, rfl, rfl⟩
    case round =>
      obtain ⟨rfl, rfl, rfl⟩ := hrel
      go_wp2_with fail
      go_ret
      exact ⟨ret_int HL.out.symm, (Below.refl _ _).drew.trans hb1⟩
  · have hb0 : Below w.heap.size w w1 := (Below.refl _ _).drew.trans hb1
    have hT' : Ints w1 w1.heap.size (some ⟨ad.block, ad.off + 1, none⟩) l := (HT.out.below hb0).more hb0.size
    have hbs := K1.2
    clear hc0 hadb hb K1 hb1
    go_loopw [5, 6, 8, 9, 21] (fun v lo _ _ i wr => ∃ (k : Nat) (best : Int), k ≤ l.length ∧ i = .int .i64 k ∧ v = .int .i64 best ∧ lo = .int .i64 (cost best) ∧ Hid (res = leastGo cost best (cost best) (l.drop k)) ∧ Below w1.heap.size w1 wr)
      (fun _ _ _ _ i _ => l.length - (intOf i).toNat)
    case atStart => exact ⟨0, x0, Nat.zero_le _, rfl, rfl, rfl, HL, Below.refl _ _⟩
    case round =>
      obtain ⟨k, best, hk, rfl, rfl, rfl, hres, hbw⟩ := hrel
      by_cases hlt : k < l.length
      · obtain ⟨X, hX, hXb, hce⟩ := (hT'.below hbw).get hlt
        cases hX
        rw [Addr.add_mid] at hce
        have hx := HM.out _ (List.getElem_mem hlt)
        have hd := Lib.hid (drop_cons hlt)
        have hbr : Blk wr g 106 (sv C R B F sl p q) := (hbw.block _ hbs.lt).trans hbs
        generalize l[k] = t at hce hx hd
        by_cases hcl : cost t < cost best
        · have hn : Hid (res = leastGo cost t (cost t) (l.drop (k + 1))) := by unfold Hid; rw [hres.out, hd.out, leastGo_yes hcl]
          clear hres hd
          go_wp2_with (first
            | (go_at_call 117; refine (HC.out t hx.1 hx.2 _ hbr).mono ?_; rintro e w3 ⟨rfl, hb3⟩))
          go_roundw
          case rel => exact ⟨k + 1, t, by omega, by go_num, rfl, rfl, hn, below_next hbw hbw.size hb3⟩
          case measure => simp [intOf]; try omega
        · have hn : Hid (res = leastGo cost best (cost best) (l.drop (k + 1))) := by unfold Hid; rw [hres.out, hd.out, leastGo_no hcl]
          clear hres hd
          go_wp2_with (first
            | (go_at_call 117; refine (HC.out t hx.1 hx.2 _ hbr).mono ?_; rintro e w3 ⟨rfl, hb3⟩))
          go_roundw
          case rel => exact ⟨k + 1, best, by omega, by go_num, rfl, rfl, hn, below_next hbw hbw.size hb3⟩
          case measure => simp [intOf]; try omega
      · have hn : Hid (best = res) := by unfold Hid; rw [hres.out, List.drop_of_length_le (by omega)]; rfl
        clear hres
        go_wp2_with fail
        go_ret
        exact ⟨ret_int hn.out, below_next hb0 hb0.size hbw⟩
end Go.Proofs.Ytnjmkdgglpcfpaa
