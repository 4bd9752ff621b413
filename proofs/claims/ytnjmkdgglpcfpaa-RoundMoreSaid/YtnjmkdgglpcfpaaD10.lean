import Derived.Test.YtnjmkdgglpcfpaaM4
import Derived.Test.YtnjmkdgglpcfpaaC7
namespace Go.Proofs.Ytnjmkdgglpcfpaa
set_option linter.unusedSimpArgs false
set_option linter.unusedVariables false
open Go.RowKit

/-- a whole list of numbers appended, in a plain region -/
theorem appL {ops : Array Oper} {rest : List Oper} {o : Oper} {a : Act} {Q : Exit → Act → World → Prop} {w : World} (hgd : o.guard = none) (s x : Operand)
    (ho : o.op = .call { callee := .builtin .append, args := #[s, x], argTypes := #[22, 22] }) (hty : o.type = 22) (base : Nat) (l m : List Int) (v : Value) (A : Option Addr) (c : Nat) (B : Nat)
    (hs : a.eval s = v) (hown : w.ownsRow base 3 1 v l.length (l.map (Value.int .i64))) (hx : a.eval x = .slice A m.length c) (hm : Ints w B A m) (hl : l.length ≤ 1000000) (hml : m.length ≤ 1000000) (hbase : base ≤ w.heap.size)
    (h : ∀ A' c' w', w'.ownsRow base 3 1 (.slice A' (l ++ m).length c') (l ++ m).length ((l ++ m).map (Value.int .i64)) → Below base w w' → wpList Try.prog ops Q rest (a.put o.dst (.slice A' (l ++ m).length c')) w') :
    wpList Try.prog ops Q (o :: rest) a w :=
  wpList_plain hgd fun K hK => wp_appL s x ho hty base l m v A c B hs hown hx hm hl hml hbase fun A' c' w' h1 h2 _ => hK _ _ (h A' c' w' h1 h2)

set_option maxRecDepth 100000 in
set_option maxHeartbeats 1000000 in
theorem moreLaw_out (C R B F : Int) (A : Option Addr) (cap : Nat) (cl : List Int) (D : Option Addr) (dap : Nat) (l : List Int) (E : Option Addr) (eap : Nat) (m : List Int) (x : Int) (w : World) (hB : B ≤ 9223372036854775807) (hcl : cl.length ≤ maxLen) (hll : l.length ≤ maxLen) (hml : m.length ≤ maxLen) (hr : Ints w w.heap.size A cl) (hl : Ints w w.heap.size D l) (hm : Ints w w.heap.size E m) (hs : ¬ (l.length ≤ 30 ∧ m.length ≤ 30 ∧ someB C R B F cl l = true)) :
    Calls Try.prog 10 #[.agg #[.int .i64 C, .int .i64 R, .int .i64 B, .int .i64 F, .slice A cl.length cap], .slice D l.length dap, .slice E m.length eap, .int .i64 x] w fun e w' => e = .returned (.bool true) ∧ Below w.heap.size w w' := by
  have hc63 : cl.length ≤ 9223372036854775807 := Nat.le_trans hcl (by decide)
  have bw0 := below_new w (.cells #[.int .i64 C, .int .i64 R, .int .i64 B, .int .i64 F, .slice A cl.length cap] 24)
  have kH0 := Blk.new w 24 #[.int .i64 C, .int .i64 R, .int .i64 B, .int .i64 F, .slice A cl.length cap]
  have iA0 := hr.behind bw0
  have iD0 := hl.behind bw0
  have iE0 := hm.behind bw0
  obtain ⟨d0, d1, d2, d3, d4⟩ := kH0.five
  by_cases c1 : l.length ≤ 30
  · skip
    have e1 : ¬ (30 : Int) < (l.length : Int) := by omega
    have e2 : decide ((30 : Int) < (l.length : Int)) = false := decide_eq_false e1
    by_cases c2 : m.length ≤ 30
    · have g1 : ¬ (30 : Int) < (m.length : Int) := by omega
      have g2 : decide ((30 : Int) < (m.length : Int)) = false := decide_eq_false g1
      have HS : Hid (someB C R B F cl l = false) := by
        cases h : someB C R B F cl l with
        | false => rfl
        | true => exact absurd ⟨c1, c2, h⟩ hs
      clear hs
      go_enter Try.func10, Try.ntmps10
      go_wp2_with (first
        | (refine wpList_load_rowG (by rfl) 24 _ (by rfl) _ (by rfl) 24 _ (0, 0) _ kH0 Try.underlying24 rfl (info24 _ _ _ _ _) ?_)
        | (go_at_call 55; refine (some_any C R B F A cap cl D dap l _ hB hc63 iA0).mono ?_; rw [HS.out]; rintro e w1 ⟨rfl, hb1⟩; have bw1 := below_next bw0 bw0.size hb1; clear bw0; have kH1 := kH0.below hb1 kH0.lt; clear kH0; have iA1 := iA0.behind hb1; clear iA0; have iD1 := iD0.behind hb1; clear iD0; have iE1 := iE0.behind hb1; clear iE0; clear d0 d1 d2 d3 d4; obtain ⟨d0, d1, d2, d3, d4⟩ := kH1.five)
        | (go_at_call 15; refine (sanity_any _).mono ?_; rintro e w2 ⟨rfl, hb2⟩; have bw2 := below_next bw1 bw1.size hb2)
        | fail)
      go_ret
      exact ⟨ret_bool rfl, bw2⟩
    · have g1 : (30 : Int) < (m.length : Int) := by omega
      have g2 : decide ((30 : Int) < (m.length : Int)) = true := decide_eq_true g1
      clear hs
      go_enter Try.func10, Try.ntmps10
      go_wp2_with (first
        | (go_at_call 15; refine (sanity_any _).mono ?_; rintro e w2 ⟨rfl, hb2⟩; have bw2 := below_next bw0 bw0.size hb2)
        | fail)
      go_ret
      exact ⟨ret_bool rfl, bw2⟩
  · skip
    have e1 : (30 : Int) < (l.length : Int) := by omega
    have e2 : decide ((30 : Int) < (l.length : Int)) = true := decide_eq_true e1
    clear hs
    go_enter Try.func10, Try.ntmps10
    go_wp2_with (first
      | (go_at_call 15; refine (sanity_any _).mono ?_; rintro e w2 ⟨rfl, hb2⟩; have bw2 := below_next bw0 bw0.size hb2)
      | fail)
    go_ret
    exact ⟨ret_bool rfl, bw2⟩

set_option maxRecDepth 100000 in
set_option maxHeartbeats 4000000 in
theorem moreLaw_a1 (C R B F : Int) (A : Option Addr) (cap : Nat) (cl : List Int) (D : Option Addr) (dap : Nat) (l : List Int) (E : Option Addr) (eap : Nat) (m : List Int) (x : Int) (w : World) (hB : B ≤ 9223372036854775807) (hcl : cl.length ≤ maxLen) (hll : l.length ≤ maxLen) (hml : m.length ≤ maxLen) (hr : Ints w w.heap.size A cl) (hl : Ints w w.heap.size D l) (hm : Ints w w.heap.size E m) (h30 : l.length ≤ 30) (h30m : m.length ≤ 30) (hs : someB C R B F cl l = true) (N1 N2 N3 : Nat) (e1 e2 e3 : Int) (H1 : Hid (∀ W : World, Ints W W.heap.size A cl → Ints W W.heap.size D l → Calls Try.prog 37 #[.agg #[.int .i64 C, .int .i64 R, .int .i64 B, .int .i64 F, .slice A cl.length cap], .slice D l.length dap] W fun e w' => e = .returned (.tuple #[.int .i64 (N1 : Nat), .int .i64 e1]) ∧ Below W.heap.size W w')) (H2 : Hid (∀ W : World, Ints W W.heap.size A cl → Ints W W.heap.size E m → Calls Try.prog 37 #[.agg #[.int .i64 C, .int .i64 R, .int .i64 B, .int .i64 F, .slice A cl.length cap], .slice E m.length eap] W fun e w' => e = .returned (.tuple #[.int .i64 (N2 : Nat), .int .i64 e2]) ∧ Below W.heap.size W w')) (H3 : Hid (∀ (X : Option Addr) (xap : Nat) (W : World), Ints W W.heap.size A cl → Ints W W.heap.size X (l ++ m) → Calls Try.prog 37 #[.agg #[.int .i64 C, .int .i64 R, .int .i64 B, .int .i64 F, .slice A cl.length cap], .slice X (l.length + m.length) xap] W fun e w' => e = .returned (.tuple #[.int .i64 (N3 : Nat), .int .i64 e3]) ∧ Below W.heap.size W w')) (k1 : e1 ≠ 0) (k3 : e3 ≠ 0) :
    Calls Try.prog 10 #[.agg #[.int .i64 C, .int .i64 R, .int .i64 B, .int .i64 F, .slice A cl.length cap], .slice D l.length dap, .slice E m.length eap, .int .i64 x] w fun e w' => e = .returned (.bool true) ∧ Below w.heap.size w w' := by
  have hc63 : cl.length ≤ 9223372036854775807 := Nat.le_trans hcl (by decide)
  have bw0 := below_new w (.cells #[.int .i64 C, .int .i64 R, .int .i64 B, .int .i64 F, .slice A cl.length cap] 24)
  have kH0 := Blk.new w 24 #[.int .i64 C, .int .i64 R, .int .i64 B, .int .i64 F, .slice A cl.length cap]
  have iA0 := hr.behind bw0
  have iD0 := hl.behind bw0
  have iE0 := hm.behind bw0
  obtain ⟨d0, d1, d2, d3, d4⟩ := kH0.five
  have q1 : ¬ (30 : Int) < (l.length : Int) := by omega
  have q2 : decide ((30 : Int) < (l.length : Int)) = false := decide_eq_false q1
  have g1 : ¬ (30 : Int) < (m.length : Int) := by omega
  have g2 : decide ((30 : Int) < (m.length : Int)) = false := decide_eq_false g1
  have HS := Lib.hid hs
  have n31 : (e3 == 0) = false := by simpa using k3
  have n32 : (e3 != 0) = true := by simpa using k3
  have n11 : (e1 == 0) = false := by simpa using k1
  have n12 : (e1 != 0) = true := by simpa using k1
  clear hs k1 k3
  go_enter Try.func10, Try.ntmps10
  go_wp2_with (first
    | (refine wpList_load_rowG (by rfl) 24 _ (by rfl) _ (by rfl) 24 _ (0, 0) _ kH0 Try.underlying24 rfl (info24 _ _ _ _ _) ?_)
    | (go_at_call 55; refine (some_any C R B F A cap cl D dap l _ hB hc63 iA0).mono ?_; rw [HS.out]; rintro e w1 ⟨rfl, hb1⟩; have bw1 := below_next bw0 bw0.size hb1; clear bw0; have kH1 := kH0.below hb1 kH0.lt; clear kH0; have iA1 := iA0.behind hb1; clear iA0; have iD1 := iD0.behind hb1; clear iD0; have iE1 := iE0.behind hb1; clear iE0; clear d0 d1 d2 d3 d4; obtain ⟨d0, d1, d2, d3, d4⟩ := kH1.five)
    | (at_builtin; have hn2 : Below w1.heap.size w1 (w1.alloc (.cells #[] 3)) := below_new w1 _; have hoe : (w1.alloc (.cells #[] 3)).ownsRow w1.heap.size 3 1 (.slice (some ⟨w1.heap.size, 0, none⟩) ([] : List Int).length 0) ([] : List Int).length (([] : List Int).map (Value.int .i64)) := own_empty (Blk.new w1 3 #[]) (Nat.le_refl _); refine appL (by rfl) _ _ (by rfl) (by rfl) w1.heap.size [] l _ D dap _ (by rfl) hoe (by rfl) (iD1.behind hn2) (by simp) (by omega) (by simp) ?_; intro X1 c1 w3 hown3 hb3'; have hb3 : Below w1.heap.size w1 w3 := hn2.trans hb3'; rw [List.nil_append] at hown3)
    | (at_builtin; refine appL (by rfl) _ _ (by rfl) (by rfl) w1.heap.size l m _ E eap _ (by rfl) hown3 (by rfl) (iE1.behind hb3) (by omega) (by omega) hb3.size ?_; intro X2 c2 w4 hown4 hb4'; have hb4 : Below w1.heap.size w1 w4 := hb3.trans hb4'; have bw4 := below_next bw1 bw1.size hb4; clear bw1; have kH4 := kH1.below hb4 kH1.lt; clear kH1; have iA4 := iA1.behind hb4; clear iA1; have iD4 := iD1.behind hb4; clear iD1; have iE4 := iE1.behind hb4; clear iE1; have iX4 := Ints.of_own hown4; clear d0 d1 d2 d3 d4; obtain ⟨d0, d1, d2, d3, d4⟩ := kH4.five)
    | (go_at_call 37; refine (H1.out _ iA4 iD4).mono ?_; rintro e w5 ⟨rfl, hb5⟩; have bw5 := below_next bw4 bw4.size hb5; clear bw4; have kH5 := kH4.below hb5 kH4.lt; clear kH4; have iA5 := iA4.behind hb5; clear iA4; have iD5 := iD4.behind hb5; clear iD4; have iE5 := iE4.behind hb5; clear iE4; have iX5 := iX4.behind hb5; clear iX4; clear d0 d1 d2 d3 d4; obtain ⟨d0, d1, d2, d3, d4⟩ := kH5.five)
    | (go_at_call 37; refine (H2.out _ iA5 iE5).mono ?_; rintro e w6 ⟨rfl, hb6⟩; have bw6 := below_next bw5 bw5.size hb6; clear bw5; have kH6 := kH5.below hb6 kH5.lt; clear kH5; have iA6 := iA5.behind hb6; clear iA5; have iD6 := iD5.behind hb6; clear iD5; have iE6 := iE5.behind hb6; clear iE5; have iX6 := iX5.behind hb6; clear iX5; clear d0 d1 d2 d3 d4; obtain ⟨d0, d1, d2, d3, d4⟩ := kH6.five)
    | (go_at_call 37; refine (H3.out X2 c2 _ iA6 iX6).mono ?_; rintro e w7 ⟨rfl, hb7⟩; have bw7 := below_next bw6 bw6.size hb7; clear bw6; have kH7 := kH6.below hb7 kH6.lt; clear kH6; have iA7 := iA6.behind hb7; clear iA6; have iD7 := iD6.behind hb7; clear iD6; have iE7 := iE6.behind hb7; clear iE6; have iX7 := iX6.behind hb7; clear iX6; clear d0 d1 d2 d3 d4; obtain ⟨d0, d1, d2, d3, d4⟩ := kH7.five)
    | (go_at_call 15; refine (sanity_any _).mono ?_; rintro e w8 ⟨rfl, hb8⟩; have bw8 := below_next bw7 bw7.size hb8)
    | fail)
  go_ret
  exact ⟨ret_bool rfl, bw8⟩

set_option maxRecDepth 100000 in
set_option maxHeartbeats 4000000 in
theorem moreLaw_a2 (C R B F : Int) (A : Option Addr) (cap : Nat) (cl : List Int) (D : Option Addr) (dap : Nat) (l : List Int) (E : Option Addr) (eap : Nat) (m : List Int) (x : Int) (w : World) (hB : B ≤ 9223372036854775807) (hcl : cl.length ≤ maxLen) (hll : l.length ≤ maxLen) (hml : m.length ≤ maxLen) (hr : Ints w w.heap.size A cl) (hl : Ints w w.heap.size D l) (hm : Ints w w.heap.size E m) (h30 : l.length ≤ 30) (h30m : m.length ≤ 30) (hs : someB C R B F cl l = true) (N1 N2 N3 : Nat) (e1 e2 e3 : Int) (H1 : Hid (∀ W : World, Ints W W.heap.size A cl → Ints W W.heap.size D l → Calls Try.prog 37 #[.agg #[.int .i64 C, .int .i64 R, .int .i64 B, .int .i64 F, .slice A cl.length cap], .slice D l.length dap] W fun e w' => e = .returned (.tuple #[.int .i64 (N1 : Nat), .int .i64 e1]) ∧ Below W.heap.size W w')) (H2 : Hid (∀ W : World, Ints W W.heap.size A cl → Ints W W.heap.size E m → Calls Try.prog 37 #[.agg #[.int .i64 C, .int .i64 R, .int .i64 B, .int .i64 F, .slice A cl.length cap], .slice E m.length eap] W fun e w' => e = .returned (.tuple #[.int .i64 (N2 : Nat), .int .i64 e2]) ∧ Below W.heap.size W w')) (H3 : Hid (∀ (X : Option Addr) (xap : Nat) (W : World), Ints W W.heap.size A cl → Ints W W.heap.size X (l ++ m) → Calls Try.prog 37 #[.agg #[.int .i64 C, .int .i64 R, .int .i64 B, .int .i64 F, .slice A cl.length cap], .slice X (l.length + m.length) xap] W fun e w' => e = .returned (.tuple #[.int .i64 (N3 : Nat), .int .i64 e3]) ∧ Below W.heap.size W w')) (k1 : e1 = 0) (k2 : e2 ≠ 0) (k3 : e3 ≠ 0) :
    Calls Try.prog 10 #[.agg #[.int .i64 C, .int .i64 R, .int .i64 B, .int .i64 F, .slice A cl.length cap], .slice D l.length dap, .slice E m.length eap, .int .i64 x] w fun e w' => e = .returned (.bool true) ∧ Below w.heap.size w w' := by
  have hc63 : cl.length ≤ 9223372036854775807 := Nat.le_trans hcl (by decide)
  have bw0 := below_new w (.cells #[.int .i64 C, .int .i64 R, .int .i64 B, .int .i64 F, .slice A cl.length cap] 24)
  have kH0 := Blk.new w 24 #[.int .i64 C, .int .i64 R, .int .i64 B, .int .i64 F, .slice A cl.length cap]
  have iA0 := hr.behind bw0
  have iD0 := hl.behind bw0
  have iE0 := hm.behind bw0
  obtain ⟨d0, d1, d2, d3, d4⟩ := kH0.five
  have q1 : ¬ (30 : Int) < (l.length : Int) := by omega
  have q2 : decide ((30 : Int) < (l.length : Int)) = false := decide_eq_false q1
  have g1 : ¬ (30 : Int) < (m.length : Int) := by omega
  have g2 : decide ((30 : Int) < (m.length : Int)) = false := decide_eq_false g1
  have HS := Lib.hid hs
  have n31 : (e3 == 0) = false := by simpa using k3
  have n32 : (e3 != 0) = true := by simpa using k3
  subst k1
  have n21 : (e2 == 0) = false := by simpa using k2
  have n22 : (e2 != 0) = true := by simpa using k2
  clear hs k2 k3
  go_enter Try.func10, Try.ntmps10
  go_wp2_with (first
    | (refine wpList_load_rowG (by rfl) 24 _ (by rfl) _ (by rfl) 24 _ (0, 0) _ kH0 Try.underlying24 rfl (info24 _ _ _ _ _) ?_)
    | (go_at_call 55; refine (some_any C R B F A cap cl D dap l _ hB hc63 iA0).mono ?_; rw [HS.out]; rintro e w1 ⟨rfl, hb1⟩; have bw1 := below_next bw0 bw0.size hb1; clear bw0; have kH1 := kH0.below hb1 kH0.lt; clear kH0; have iA1 := iA0.behind hb1; clear iA0; have iD1 := iD0.behind hb1; clear iD0; have iE1 := iE0.behind hb1; clear iE0; clear d0 d1 d2 d3 d4; obtain ⟨d0, d1, d2, d3, d4⟩ := kH1.five)
    | (at_builtin; have hn2 : Below w1.heap.size w1 (w1.alloc (.cells #[] 3)) := below_new w1 _; have hoe : (w1.alloc (.cells #[] 3)).ownsRow w1.heap.size 3 1 (.slice (some ⟨w1.heap.size, 0, none⟩) ([] : List Int).length 0) ([] : List Int).length (([] : List Int).map (Value.int .i64)) := own_empty (Blk.new w1 3 #[]) (Nat.le_refl _); refine appL (by rfl) _ _ (by rfl) (by rfl) w1.heap.size [] l _ D dap _ (by rfl) hoe (by rfl) (iD1.behind hn2) (by simp) (by omega) (by simp) ?_; intro X1 c1 w3 hown3 hb3'; have hb3 : Below w1.heap.size w1 w3 := hn2.trans hb3'; rw [List.nil_append] at hown3)
    | (at_builtin; refine appL (by rfl) _ _ (by rfl) (by rfl) w1.heap.size l m _ E eap _ (by rfl) hown3 (by rfl) (iE1.behind hb3) (by omega) (by omega) hb3.size ?_; intro X2 c2 w4 hown4 hb4'; have hb4 : Below w1.heap.size w1 w4 := hb3.trans hb4'; have bw4 := below_next bw1 bw1.size hb4; clear bw1; have kH4 := kH1.below hb4 kH1.lt; clear kH1; have iA4 := iA1.behind hb4; clear iA1; have iD4 := iD1.behind hb4; clear iD1; have iE4 := iE1.behind hb4; clear iE1; have iX4 := Ints.of_own hown4; clear d0 d1 d2 d3 d4; obtain ⟨d0, d1, d2, d3, d4⟩ := kH4.five)
    | (go_at_call 37; refine (H1.out _ iA4 iD4).mono ?_; rintro e w5 ⟨rfl, hb5⟩; have bw5 := below_next bw4 bw4.size hb5; clear bw4; have kH5 := kH4.below hb5 kH4.lt; clear kH4; have iA5 := iA4.behind hb5; clear iA4; have iD5 := iD4.behind hb5; clear iD4; have iE5 := iE4.behind hb5; clear iE4; have iX5 := iX4.behind hb5; clear iX4; clear d0 d1 d2 d3 d4; obtain ⟨d0, d1, d2, d3, d4⟩ := kH5.five)
    | (go_at_call 37; refine (H2.out _ iA5 iE5).mono ?_; rintro e w6 ⟨rfl, hb6⟩; have bw6 := below_next bw5 bw5.size hb6; clear bw5; have kH6 := kH5.below hb6 kH5.lt; clear kH5; have iA6 := iA5.behind hb6; clear iA5; have iD6 := iD5.behind hb6; clear iD5; have iE6 := iE5.behind hb6; clear iE5; have iX6 := iX5.behind hb6; clear iX5; clear d0 d1 d2 d3 d4; obtain ⟨d0, d1, d2, d3, d4⟩ := kH6.five)
    | (go_at_call 37; refine (H3.out X2 c2 _ iA6 iX6).mono ?_; rintro e w7 ⟨rfl, hb7⟩; have bw7 := below_next bw6 bw6.size hb7; clear bw6; have kH7 := kH6.below hb7 kH6.lt; clear kH6; have iA7 := iA6.behind hb7; clear iA6; have iD7 := iD6.behind hb7; clear iD6; have iE7 := iE6.behind hb7; clear iE6; have iX7 := iX6.behind hb7; clear iX6; clear d0 d1 d2 d3 d4; obtain ⟨d0, d1, d2, d3, d4⟩ := kH7.five)
    | (go_at_call 15; refine (sanity_any _).mono ?_; rintro e w8 ⟨rfl, hb8⟩; have bw8 := below_next bw7 bw7.size hb8)
    | fail)
  go_ret
  exact ⟨ret_bool rfl, bw8⟩

end Go.Proofs.Ytnjmkdgglpcfpaa
