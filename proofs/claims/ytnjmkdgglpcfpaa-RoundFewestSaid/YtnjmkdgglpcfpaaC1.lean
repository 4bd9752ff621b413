import Derived.Test.YtnjmkdgglpcfpaaA19
namespace Go.Proofs.Ytnjmkdgglpcfpaa
set_option linter.unusedSimpArgs false
set_option linter.unusedVariables false
open Go.RowKit

set_option maxRecDepth 100000 in
set_option maxHeartbeats 400000 in
/-- the law's own 'has' -/
theorem has56_any (l : List Int) (A : Option Addr) (cap : Nat) (x : Int) (w : World) (hll : l.length ≤ 1000000) (hr : Ints w w.heap.size A l) :
    Calls Try.prog 56 #[.slice A l.length cap, .int .i64 x] w fun e w' => e = .returned (.bool (decide (x ∈ l))) ∧ w = w' := by
  go_enter Try.func56, Try.ntmps56
  go_wp2_with fail
  go_loopw [6, 9] (fun _ i wr => ∃ k : Nat, k ≤ l.length ∧ i = .int .i64 k ∧ Hid (x ∉ l.take k) ∧ w = wr)
    (fun _ i _ => l.length - (intOf i).toNat)
  case atStart => exact ⟨0, Nat.zero_le _, rfl, (by simp [Hid]), rfl⟩
  case round =>
    obtain ⟨k, hk, rfl, hall, rfl⟩ := hrel
    by_cases hlt : k < l.length
    · obtain ⟨ad, rfl, hB, hc⟩ := hr.get hlt
      by_cases hx : l[k] = x
      · have hd : Hid (decide (x ∈ l) = true) := decide_eq_true (by rw [← hx]; exact List.getElem_mem hlt)
        have hq : (l[k] == x) = true := by simpa using hx
        clear hall hx
        go_wp2_with fail
        go_ret
        exact ⟨by rw [hd.out]; rfl, rfl⟩
      · have hn : Hid (x ∉ l.take (k + 1)) := by
          unfold Hid
          rw [List.take_succ_eq_append_getElem hlt]
          intro h
          rcases List.mem_append.1 h with h | h
          · exact hall.out h
          · exact hx (List.mem_singleton.1 h).symm
        have hq : (l[k] == x) = false := by simpa using hx
        clear hall hx
        go_wp2_with fail
        go_roundw
        case rel => exact ⟨k + 1, by omega, by go_num, hn, trivial⟩
        case measure => simp [intOf]; try omega
    · have hd : Hid (decide (x ∈ l) = false) := decide_eq_false (by have := hall.out; rwa [List.take_of_length_le (by omega)] at this)
      clear hall
      go_wp2_with fail
      go_ret
      exact ⟨by rw [hd.out]; rfl, rfl⟩

set_option maxRecDepth 100000 in
set_option maxHeartbeats 400000 in
theorem turned57_any (C R B F : Int) (sl : Value) (c n : Int) (w : World) (h1 : 1 ≤ C) (h2 : C ≤ 120) (h3 : -1000 ≤ c) (h4 : c ≤ 1000) (h5 : -1000 ≤ n) (h6 : n ≤ 1000) :
    Calls Try.prog 57 #[.agg #[.int .i64 C, .int .i64 R, .int .i64 B, .int .i64 F, sl], .int .i64 c, .int .i64 n] w fun e w' => e = .returned (.int .i64 ((c + n) % C)) ∧ Below w.heap.size w w' := by
  have hC : (C == 0) = false := by simp; omega
  have ht1 : -120 ≤ (c + n).tmod C := by have := Int.lt_tmod_of_pos (c + n) (b := C) (by omega); omega
  have ht2 : (c + n).tmod C ≤ 120 := by have := Int.tmod_lt_of_pos (c + n) (b := C) (by omega); omega
  go_enter Try.func57, Try.ntmps57
  go_wp2
  go_quiet (fail)
  go_wp2
  go_ret
  exact ⟨ret_int (fur_eq h1), below_new_drewN _ _ _⟩

/-- is a house right, with few holes? -/
def someB (C R B F : Int) (cl l : List Int) : Bool := decide (l.length ≤ 60 ∧ chk C R B F cl = 0)
set_option maxRecDepth 100000 in
set_option maxHeartbeats 1000000 in
theorem some_any (C R B F : Int) (A : Option Addr) (cap : Nat) (cl : List Int) (D : Option Addr) (dap : Nat) (l : List Int) (w : World) (hB : B ≤ 9223372036854775807) (hcl : cl.length ≤ 9223372036854775807) (hr : Ints w w.heap.size A cl) :
    Calls Try.prog 55 #[.agg #[.int .i64 C, .int .i64 R, .int .i64 B, .int .i64 F, .slice A cl.length cap], .slice D l.length dap] w fun e w' => e = .returned (.bool (someB C R B F cl l)) ∧ Below w.heap.size w w' := by
  have hbk := Blk.new w 24 #[.int .i64 C, .int .i64 R, .int .i64 B, .int .i64 F, .slice A cl.length cap]
  obtain ⟨d0, d1, d2, d3, d4⟩ := hbk.five
  have hb := below_new w (.cells #[.int .i64 C, .int .i64 R, .int .i64 B, .int .i64 F, .slice A cl.length cap] 24)
  have hr1 := hr.behind hb
  by_cases c1 : cl.length ≤ 120
  · have e1 : ((cl.length : Nat) : Int) ≤ 120 := by omega
    have e2 : decide (((cl.length : Nat) : Int) ≤ 120) = true := decide_eq_true e1
    by_cases c3 : l.length ≤ 60
    · have e3 : ((l.length : Nat) : Int) ≤ 60 := by omega
      have e4 : decide (((l.length : Nat) : Int) ≤ 60) = true := decide_eq_true e3
      by_cases c5 : Ok C R B F cl
      · have hs : someB C R B F cl l = true := decide_eq_true ⟨c3, chk_ok.2 c5⟩
        have H0 := Lib.hid (chk_ok.2 c5)
        rw [hs]
        clear hs
        go_enter Try.func55, Try.ntmps55
        go_wp2_with (first
          | (refine wpList_load_rowG (by rfl) 24 _ (by rfl) _ (by rfl) 24 _ (0, 0) _ hbk Try.underlying24 rfl (info24 _ _ _ _ _) ?_)
          | (go_at_call 26; refine (check_any C R B F A cap cl _ hB hcl hr1).mono ?_; rw [H0.out]; rintro e w1 ⟨rfl, hb1⟩))
        go_ret
        exact ⟨rfl, below_next hb (by simp) hb1⟩
      · have hs : someB C R B F cl l = false := decide_eq_false fun h => c5 (chk_ok.1 h.2)
        have n1 := (chk_ne c5).1
        have n2 := (chk_ne c5).2
        rw [hs]
        clear hs
        go_enter Try.func55, Try.ntmps55
        go_wp2_with (first
          | (refine wpList_load_rowG (by rfl) 24 _ (by rfl) _ (by rfl) 24 _ (0, 0) _ hbk Try.underlying24 rfl (info24 _ _ _ _ _) ?_)
          | (go_at_call 26; refine (check_any C R B F A cap cl _ hB hcl hr1).mono ?_; rintro e w1 ⟨rfl, hb1⟩))
        go_ret
        exact ⟨rfl, below_next hb (by simp) hb1⟩
    · have e3 : ¬ ((l.length : Nat) : Int) ≤ 60 := by omega
      have e4 : decide (((l.length : Nat) : Int) ≤ 60) = false := decide_eq_false e3
      have hs : someB C R B F cl l = false := decide_eq_false fun h => c3 h.1
      rw [hs]
      clear hs
      go_enter Try.func55, Try.ntmps55
      go_wp2_with fail
      go_ret
      exact ⟨rfl, hb⟩
  · have e1 : ¬ ((cl.length : Nat) : Int) ≤ 120 := by omega
    have e2 : decide (((cl.length : Nat) : Int) ≤ 120) = false := decide_eq_false e1
    have hs : someB C R B F cl l = false := decide_eq_false fun h => c1 (by have := (chk_ok.1 h.2).len; omega)
    rw [hs]
    clear hs
    go_enter Try.func55, Try.ntmps55
    go_wp2_with fail
    go_ret
    exact ⟨rfl, hb⟩

/-- are the numbers of a list, turned, those of another one that is as long? -/
def alikeB (C n : Int) (a b : List Int) : Bool := (a.all fun c => decide ((c + n) % C ∈ b)) && decide (a.length = b.length)
set_option maxRecDepth 100000 in
set_option maxHeartbeats 1000000 in
theorem alike_any (C R B F : Int) (sl : Value) (a b : List Int) (A D : Option Addr) (cap dap : Nat) (n : Int) (w : World) (h1 : 1 ≤ C) (h2 : C ≤ 120) (h3 : -1000 ≤ n) (h4 : n ≤ 1000) (ha : ∀ x ∈ a, 0 ≤ x ∧ x < C) (hal : a.length ≤ 1000000) (hbl : b.length ≤ 1000000) (hra : Ints w w.heap.size A a) (hrb : Ints w w.heap.size D b) :
    Calls Try.prog 58 #[.agg #[.int .i64 C, .int .i64 R, .int .i64 B, .int .i64 F, sl], .slice A a.length cap, .slice D b.length dap, .int .i64 n] w fun e w' => e = .returned (.bool (alikeB C n a b)) ∧ Below w.heap.size w w' := by
  have hbk := Blk.new w 24 #[.int .i64 C, .int .i64 R, .int .i64 B, .int .i64 F, sl]
  have hb := below_new w (.cells #[.int .i64 C, .int .i64 R, .int .i64 B, .int .i64 F, sl] 24)
  have HA : Hid (∀ x ∈ a, 0 ≤ x ∧ x < C) := ha
  have HR : Hid (alikeB C n a b = ((a.all fun c => decide ((c + n) % C ∈ b)) && decide (a.length = b.length))) := rfl
  generalize alikeB C n a b = res at HR
  have hla := hra.behind hb
  have hlb := hrb.behind hb
  clear ha hra hrb
  go_enter Try.func58, Try.ntmps58
  go_wp2_with fail
  go_loopw [10, 13] (fun _ i wr => ∃ k : Nat, k ≤ a.length ∧ i = .int .i64 k ∧ Hid ((a.take k).all (fun c => decide ((c + n) % C ∈ b)) = true) ∧ Below (w.alloc (.cells #[.int .i64 C, .int .i64 R, .int .i64 B, .int .i64 F, sl] 24)).heap.size (w.alloc (.cells #[.int .i64 C, .int .i64 R, .int .i64 B, .int .i64 F, sl] 24)) wr)
    (fun _ i _ => a.length - (intOf i).toNat)
  case atStart => exact ⟨0, Nat.zero_le _, rfl, (by simp [Hid]), Below.refl _ _⟩
  case round =>
    obtain ⟨k, hk, rfl, hall, hbw⟩ := hrel
    have hb0 := hbk.below hbw hbk.lt
    have hz := hbw.size
    by_cases hlt : k < a.length
    · obtain ⟨ad, rfl, hB, hc⟩ := (hla.behind hbw).get hlt
      have hx := HA.out _ (List.getElem_mem hlt)
      cases hm : decide ((a[k] + n) % C ∈ b) with
      | true =>
        have hn : Hid ((a.take (k + 1)).all (fun c => decide ((c + n) % C ∈ b)) = true) := by
          unfold Hid
          rw [List.take_succ_eq_append_getElem hlt, List.all_append, hall.out]
          simp [hm]
        have HM := Lib.hid hm
        clear hall hm HR
        go_wp2_with (first
          | (refine wpList_load_row (by rfl) 24 _ (by rfl) _ (by rfl) 24 _ (0, 0) _ hb0 Try.underlying24 rfl (info24 _ _ _ _ _) ?_)
          | (go_at_call 57; refine (turned57_any C R B F sl _ n _ h1 h2 (by omega) (by omega) h3 h4).mono ?_; rintro e w2 ⟨rfl, hb2⟩)
          | (go_at_call 56; refine (has56_any b D dap _ _ hbl ((hlb.behind hbw).behind hb2)).mono ?_; rw [HM.out]; rintro e w3 ⟨rfl, rfl⟩))
        go_roundw
        case rel => exact ⟨k + 1, by omega, by go_num, hn, below_next hbw hz hb2⟩
        case measure => simp [intOf]; try omega
      | false =>
        have hres : Hid (res = false) := by
          rw [HR.out, Bool.and_eq_false_iff]
          refine .inl (List.all_eq_false.2 ⟨_, List.getElem_mem hlt, ?_⟩)
          simp [hm]
        have HM := Lib.hid hm
        clear hall hm HR
        go_wp2_with (first
          | (refine wpList_load_row (by rfl) 24 _ (by rfl) _ (by rfl) 24 _ (0, 0) _ hb0 Try.underlying24 rfl (info24 _ _ _ _ _) ?_)
          | (go_at_call 57; refine (turned57_any C R B F sl _ n _ h1 h2 (by omega) (by omega) h3 h4).mono ?_; rintro e w2 ⟨rfl, hb2⟩)
          | (go_at_call 56; refine (has56_any b D dap _ _ hbl ((hlb.behind hbw).behind hb2)).mono ?_; rw [HM.out]; rintro e w3 ⟨rfl, rfl⟩))
        go_ret
        exact ⟨ret_bool hres.out.symm, below_next hb hb.size (below_next hbw hz hb2)⟩
    · have hfull : (a.all fun c => decide ((c + n) % C ∈ b)) = true := by have := hall.out; rwa [List.take_of_length_le (by omega)] at this
      by_cases hle : a.length = b.length
      · have hres : Hid (res = true) := by rw [HR.out, hfull, decide_eq_true hle]; rfl
        have hq : (((a.length : Nat) : Int) == ((b.length : Nat) : Int)) = true := by simp; omega
        clear HR hall hfull hle
        go_wp2_with fail
        go_ret
        exact ⟨ret_bool hres.out.symm, below_next hb hb.size hbw⟩
      · have hres : Hid (res = false) := by rw [HR.out, decide_eq_false hle, Bool.and_false]; rfl
        have hq : (((a.length : Nat) : Int) == ((b.length : Nat) : Int)) = false := by simp; omega
        clear HR hall hfull hle
        go_wp2_with fail
        go_ret
        exact ⟨ret_bool hres.out.symm, below_next hb hb.size hbw⟩

end Go.Proofs.Ytnjmkdgglpcfpaa
