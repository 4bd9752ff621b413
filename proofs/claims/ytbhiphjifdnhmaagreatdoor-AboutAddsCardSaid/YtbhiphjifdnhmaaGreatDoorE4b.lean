import Derived.Test.YtbhiphjifdnhmaaGreatDoorE41
import Derived.Test.YtbhiphjifdnhmaaGreatDoorE42
import Derived.Test.YtbhiphjifdnhmaaGreatDoorE43
import Derived.Test.YtbhiphjifdnhmaaGreatDoorE44
set_option linter.unusedSimpArgs false
set_option linter.unusedVariables false
/- AboutAdds, of any days. -/
namespace Go.Proofs.YtbhiphjifdnhmaaGreatDoor
open Go.RowKit Go.Maps
set_option linter.unusedSimpArgs false

set_option maxRecDepth 100000 in
set_option maxHeartbeats 2000000 in
theorem law4_bad (hS : Hid SanityIs) (a b c : Nat → Int) (d x y : Int) (w : World) (ho : ¬ ((vok a = true ∧ vok b = true) ∧ vok c = true)) :
    Calls Tryz.prog 4 #[.agg (va a), .agg (va b), .agg (va c), .int .u8 d, .int .u16 x, .int .u16 y] w fun e w' => e = .returned (.bool true) ∧ Below w.heap.size w w' := by
  have hK : AllB (((w.alloc (.cells (va a) 26)).alloc (.cells (va b) 26)).alloc (.cells (va c) 26)) [(w.heap.size, 26, va a), (w.heap.size + 1, 26, va b), (w.heap.size + 2, 26, va c)] := by
    intro q hq
    simp only [List.mem_cons, List.not_mem_nil, or_false] at hq
    rcases hq with rfl | rfl | rfl
    · exact (((Blk.new _ _ _).alloc _).alloc _)
    · exact ((Blk.newAt (by simp)).alloc _)
    · exact (Blk.newAt (by simp))
  have hW : Below w.heap.size w (((w.alloc (.cells (va a) 26)).alloc (.cells (va b) 26)).alloc (.cells (va c) 26)) := ((below_new _ _).alloc (by simp) _).alloc (by simp; omega) _
  cases ha : vok a
  · have HA := Lib.hid (chkV_no ha)
    clear ha ho
    go_enter Tryz.func4, Tryz.ntmps4
    go_wp2_with (first
      | go_skip
      | (refine ldV 6 rfl rfl (hK.get 0 rfl) rfl ?_)
      | (refine ldVG 7 (by rfl) rfl (hK.get 1 rfl) rfl ?_)
      | (refine ldVG 8 (by rfl) rfl (hK.get 2 rfl) rfl ?_)
      | (go_at_call 14; refine (check_any _ _).mono ?_; (first | rw [HA.out]); rintro e w ⟨rfl, hb⟩; replace hW := below_next hW hW.size hb; replace hK := hK.below hb; clear hb)
      | (go_at_call 15; refine (hS.out _).mono ?_; rintro e w ⟨rfl, hb⟩; replace hW := below_next hW hW.size hb; replace hK := hK.below hb; clear hb))
    go_ret
    exact ⟨rfl, hW⟩
  · have HA := Lib.hid (chkV_ok ha)
    cases hb : vok b
    · have HB := Lib.hid (chkV_no hb)
      clear ha hb ho
      go_enter Tryz.func4, Tryz.ntmps4
      go_wp2_with (first
        | go_skip
        | (refine ldV 6 rfl rfl (hK.get 0 rfl) rfl ?_)
        | (refine ldVG 7 (by rfl) rfl (hK.get 1 rfl) rfl ?_)
        | (refine ldVG 8 (by rfl) rfl (hK.get 2 rfl) rfl ?_)
        | (go_at_call 14; refine (check_any _ _).mono ?_; (first | rw [HA.out] | rw [HB.out]); rintro e w ⟨rfl, hb⟩; replace hW := below_next hW hW.size hb; replace hK := hK.below hb; clear hb)
        | (go_at_call 15; refine (hS.out _).mono ?_; rintro e w ⟨rfl, hb⟩; replace hW := below_next hW hW.size hb; replace hK := hK.below hb; clear hb))
      go_ret
      exact ⟨rfl, hW⟩
    · have HB := Lib.hid (chkV_ok hb)
      have hc : vok c = false := by
        cases hc : vok c
        · rfl
        · exact absurd ⟨⟨ha, hb⟩, hc⟩ ho
      have HC := Lib.hid (chkV_no hc)
      clear ha hb hc ho
      go_enter Tryz.func4, Tryz.ntmps4
      go_wp2_with (first
        | go_skip
        | (refine ldV 6 rfl rfl (hK.get 0 rfl) rfl ?_)
        | (refine ldVG 7 (by rfl) rfl (hK.get 1 rfl) rfl ?_)
        | (refine ldVG 8 (by rfl) rfl (hK.get 2 rfl) rfl ?_)
        | (go_at_call 14; refine (check_any _ _).mono ?_; (first | rw [HA.out] | rw [HB.out] | rw [HC.out]); rintro e w ⟨rfl, hb⟩; replace hW := below_next hW hW.size hb; replace hK := hK.below hb; clear hb)
        | (go_at_call 15; refine (hS.out _).mono ?_; rintro e w ⟨rfl, hb⟩; replace hW := below_next hW hW.size hb; replace hK := hK.below hb; clear hb))
      go_ret
      exact ⟨rfl, hW⟩
theorem cut4 {a : Nat → Int} (ha : vok a = true) (d : Int) (h1 : 1 ≤ d) (h2 : d ≤ 12) (W : World) : Calls Tryz.prog 21 #[.agg (va a), .int .i64 d] W (RetS W (a (2 * (d.toNat - 1)), a (2 * (d.toNat - 1) + 1)) 0) := by
  have h := cut_any a d W
  rw [(cut_ok ha h1 h2).1, (cut_ok ha h1 h2).2] at h
  exact h
theorem place4 {x lo hi : Int} (hx : 0 ≤ x) (h : lo ≤ hi) : 0 ≤ x.tmod (hi - lo + 1) ∧ x.tmod (hi - lo + 1) ≤ hi - lo := by
  have h1 := Int.tmod_nonneg (hi - lo + 1) hx
  have h2 := Int.tmod_lt_of_pos x (show 0 < hi - lo + 1 by omega)
  omega
theorem rng03 {m : Int → Int → Int → Int → Int × Int} {a b : Nat → Int} (ha : vok a = true) (hb : vok b = true) : joinE m a b = 0 ∨ joinE m a b = 3 := by
  rw [joinE_ok m (by rw [ha, hb]; rfl)]
  unfold rngE
  split
  · exact .inl rfl
  · exact .inr rfl
theorem law4_any (hS : Hid SanityIs) (a b c : Nat → Int) (d x y : Int) (hd : 0 ≤ d ∧ d ≤ 255) (hx : 0 ≤ x ∧ x ≤ 65535) (hy : 0 ≤ y ∧ y ≤ 65535) (w : World) :
    Calls Tryz.prog 4 #[.agg (va a), .agg (va b), .agg (va c), .int .u8 d, .int .u16 x, .int .u16 y] w fun e w' => e = .returned (.bool true) ∧ Below w.heap.size w w' := by
  by_cases ho : (vok a = true ∧ vok b = true) ∧ vok c = true
  · obtain ⟨⟨ha, hb⟩, hc⟩ := ho
    have t1 : 0 ≤ d % 12 := Int.emod_nonneg _ (by decide)
    have t2 : d % 12 < 12 := Int.emod_lt_of_pos _ (by decide)
    have oa := vok_iff.1 ha
    have ob := vok_iff.1 hb
    obtain ⟨k, hk⟩ : ∃ k : Nat, k = (1 + d % 12).toNat - 1 := ⟨_, rfl⟩
    have k12 : k < 12 := by omega
    have a1 := oa.sp k k12
    have a2 := oa.lo k k12
    have a3 := oa.hi k k12
    have b1 := ob.sp k k12
    have b2 := ob.lo k k12
    have b3 := ob.hi k k12
    obtain ⟨p1, p2⟩ := place4 hx.1 a1
    obtain ⟨p3, p4⟩ := place4 hy.1 b1
    obtain ⟨N, hN⟩ : ∃ N, a (2 * k) + x.tmod (a (2 * k + 1) - a (2 * k) + 1) = N := ⟨_, rfl⟩
    obtain ⟨M, hM⟩ : ∃ M, b (2 * k) + y.tmod (b (2 * k + 1) - b (2 * k) + 1) = M := ⟨_, rfl⟩
    have hn : a (2 * ((1 + d % 12).toNat - 1)) ≤ N ∧ N ≤ a (2 * ((1 + d % 12).toNat - 1) + 1) := by rw [← hk]; omega
    have hm : b (2 * ((1 + d % 12).toNat - 1)) ≤ M ∧ M ≤ b (2 * ((1 + d % 12).toNat - 1) + 1) := by rw [← hk]; omega
    have d1 : 1 ≤ 1 + d % 12 := by omega
    have d2 : 1 + d % 12 ≤ 12 := by omega
    have hh := hull_ok ha hb
    rcases rng03 (m := plusM) ha hb with r1 | r1 <;> rcases rng03 (m := lessM) ha hb with r2 | r2
    · refine law4_00 hS a b c (joinR plusM a b) (joinR lessM a b) (joinR hullM a b) (joinR plusM (joinR lessM a b) b) (joinR plusM b c) (joinR plusM (joinR plusM a b) c)
        d x y (a (2 * k)) (a (2 * k + 1)) (b (2 * k)) (b (2 * k + 1)) (x.tmod (a (2 * k + 1) - a (2 * k) + 1)) (y.tmod (b (2 * k + 1) - b (2 * k) + 1)) N M (joinE plusM (joinR lessM a b) b) (joinE plusM b c) (joinE plusM (joinR plusM a b) c) (chk2 a (joinR plusM (joinR lessM a b) b)) (holdsV a (joinR plusM (joinR lessM a b) b)) w
        (Lib.hid (chkV_ok ha)) (Lib.hid (chkV_ok hb)) (Lib.hid (chkV_ok hc)) hd hx hy (Lib.hid fun W => ?_) (Lib.hid fun W => ?_) ⟨⟨a2.1, a1⟩, a3.2⟩ ⟨⟨b2.1, b1⟩, b3.2⟩ rfl rfl hN hM (by omega) (by omega)
        (Lib.hid fun W => ?_) (Lib.hid fun W => ?_) (Lib.hid fun W => ?_) (Lib.hid fun W => reach_ok (plus_reach ha hb r1 d1 d2 hn hm) W) (Lib.hid fun W => reach_ok (less_reach ha hb r2 d1 d2 hn hm) W) 
        (Lib.hid fun W => ?_) (Lib.hid fun W => ?_) (Lib.hid fun W => reach_ok (hull_reach ha hb d1 d2 hn) W) (Lib.hid fun W => ?_) (Lib.hid fun W => plus_any _ b W) (Lib.hid fun W => holds_any a _ W) (Lib.hid fun h2 => ?_) (Lib.hid fun W => plus_any b c W) (Lib.hid fun h2 W => plus_any _ c W) (Lib.hid fun h2 W => ?_)
      · rw [hk]; exact cut4 ha _ d1 d2 W
      · rw [hk]; exact cut4 hb _ d1 d2 W
      · have h := plus_any a b W
        rwa [r1] at h
      · have h := plus_any b a W
        rwa [plusR_comm b a, plusE_comm b a, r1] at h
      · have h := less_any a b W
        rwa [r2] at h
      · have h := hull_any a b W
        rwa [hh.1] at h
      · have h := hull_any b a W
        rwa [(hull_ok hb ha).1, hull_comm b a] at h
      · rw [hull_comm a b]
        exact reach_ok (hull_reach hb ha d1 d2 hm) W
      · exact ⟨(back_holds ha hb r2 h2).2, (back_holds ha hb r2 h2).1⟩
      · have h := plus_any a (joinR plusM b c) W
        rwa [← (adds_assoc ha hb hc r1 h2).1, ← (adds_assoc ha hb hc r1 h2).2] at h
    · refine law4_03 hS a b c (joinR plusM a b) (joinR lessM a b) (joinR hullM a b) (joinR plusM b c) (joinR plusM (joinR plusM a b) c)
        d x y (a (2 * k)) (a (2 * k + 1)) (b (2 * k)) (b (2 * k + 1)) (x.tmod (a (2 * k + 1) - a (2 * k) + 1)) (y.tmod (b (2 * k + 1) - b (2 * k) + 1)) N M (joinE plusM b c) (joinE plusM (joinR plusM a b) c) w
        (Lib.hid (chkV_ok ha)) (Lib.hid (chkV_ok hb)) (Lib.hid (chkV_ok hc)) hd hx hy (Lib.hid fun W => ?_) (Lib.hid fun W => ?_) ⟨⟨a2.1, a1⟩, a3.2⟩ ⟨⟨b2.1, b1⟩, b3.2⟩ rfl rfl hN hM (by omega) (by omega)
        (Lib.hid fun W => ?_) (Lib.hid fun W => ?_) (Lib.hid fun W => ?_) (Lib.hid fun W => reach_ok (plus_reach ha hb r1 d1 d2 hn hm) W) 
        (Lib.hid fun W => ?_) (Lib.hid fun W => ?_) (Lib.hid fun W => reach_ok (hull_reach ha hb d1 d2 hn) W) (Lib.hid fun W => ?_) (Lib.hid fun W => plus_any b c W) (Lib.hid fun h2 W => plus_any _ c W) (Lib.hid fun h2 W => ?_)
      · rw [hk]; exact cut4 ha _ d1 d2 W
      · rw [hk]; exact cut4 hb _ d1 d2 W
      · have h := plus_any a b W
        rwa [r1] at h
      · have h := plus_any b a W
        rwa [plusR_comm b a, plusE_comm b a, r1] at h
      · have h := less_any a b W
        rwa [r2] at h
      · have h := hull_any a b W
        rwa [hh.1] at h
      · have h := hull_any b a W
        rwa [(hull_ok hb ha).1, hull_comm b a] at h
      · rw [hull_comm a b]
        exact reach_ok (hull_reach hb ha d1 d2 hm) W
      · have h := plus_any a (joinR plusM b c) W
        rwa [← (adds_assoc ha hb hc r1 h2).1, ← (adds_assoc ha hb hc r1 h2).2] at h
    · refine law4_30 hS a b c (joinR plusM a b) (joinR lessM a b) (joinR hullM a b) (joinR plusM (joinR lessM a b) b) (joinR plusM b c) (joinR plusM (joinR plusM a b) c)
        d x y (a (2 * k)) (a (2 * k + 1)) (b (2 * k)) (b (2 * k + 1)) (x.tmod (a (2 * k + 1) - a (2 * k) + 1)) (y.tmod (b (2 * k + 1) - b (2 * k) + 1)) N M (joinE plusM (joinR lessM a b) b) (joinE plusM b c) (joinE plusM (joinR plusM a b) c) (chk2 a (joinR plusM (joinR lessM a b) b)) (holdsV a (joinR plusM (joinR lessM a b) b)) w
        (Lib.hid (chkV_ok ha)) (Lib.hid (chkV_ok hb)) (Lib.hid (chkV_ok hc)) hd hx hy (Lib.hid fun W => ?_) (Lib.hid fun W => ?_) ⟨⟨a2.1, a1⟩, a3.2⟩ ⟨⟨b2.1, b1⟩, b3.2⟩ rfl rfl hN hM (by omega) (by omega)
        (Lib.hid fun W => ?_) (Lib.hid fun W => ?_) (Lib.hid fun W => ?_) (Lib.hid fun W => reach_ok (less_reach ha hb r2 d1 d2 hn hm) W) 
        (Lib.hid fun W => ?_) (Lib.hid fun W => ?_) (Lib.hid fun W => reach_ok (hull_reach ha hb d1 d2 hn) W) (Lib.hid fun W => ?_) (Lib.hid fun W => plus_any _ b W) (Lib.hid fun W => holds_any a _ W) (Lib.hid fun h2 => ?_) (Lib.hid fun W => plus_any b c W) 
      · rw [hk]; exact cut4 ha _ d1 d2 W
      · rw [hk]; exact cut4 hb _ d1 d2 W
      · have h := plus_any a b W
        rwa [r1] at h
      · have h := plus_any b a W
        rwa [plusR_comm b a, plusE_comm b a, r1] at h
      · have h := less_any a b W
        rwa [r2] at h
      · have h := hull_any a b W
        rwa [hh.1] at h
      · have h := hull_any b a W
        rwa [(hull_ok hb ha).1, hull_comm b a] at h
      · rw [hull_comm a b]
        exact reach_ok (hull_reach hb ha d1 d2 hm) W
      · exact ⟨(back_holds ha hb r2 h2).2, (back_holds ha hb r2 h2).1⟩
    · refine law4_33 hS a b c (joinR plusM a b) (joinR lessM a b) (joinR hullM a b) (joinR plusM b c) (joinR plusM (joinR plusM a b) c)
        d x y (a (2 * k)) (a (2 * k + 1)) (b (2 * k)) (b (2 * k + 1)) (x.tmod (a (2 * k + 1) - a (2 * k) + 1)) (y.tmod (b (2 * k + 1) - b (2 * k) + 1)) N M (joinE plusM b c) (joinE plusM (joinR plusM a b) c) w
        (Lib.hid (chkV_ok ha)) (Lib.hid (chkV_ok hb)) (Lib.hid (chkV_ok hc)) hd hx hy (Lib.hid fun W => ?_) (Lib.hid fun W => ?_) ⟨⟨a2.1, a1⟩, a3.2⟩ ⟨⟨b2.1, b1⟩, b3.2⟩ rfl rfl hN hM (by omega) (by omega)
        (Lib.hid fun W => ?_) (Lib.hid fun W => ?_) (Lib.hid fun W => ?_) 
        (Lib.hid fun W => ?_) (Lib.hid fun W => ?_) (Lib.hid fun W => reach_ok (hull_reach ha hb d1 d2 hn) W) (Lib.hid fun W => ?_) (Lib.hid fun W => plus_any b c W) 
      · rw [hk]; exact cut4 ha _ d1 d2 W
      · rw [hk]; exact cut4 hb _ d1 d2 W
      · have h := plus_any a b W
        rwa [r1] at h
      · have h := plus_any b a W
        rwa [plusR_comm b a, plusE_comm b a, r1] at h
      · have h := less_any a b W
        rwa [r2] at h
      · have h := hull_any a b W
        rwa [hh.1] at h
      · have h := hull_any b a W
        rwa [(hull_ok hb ha).1, hull_comm b a] at h
      · rw [hull_comm a b]
        exact reach_ok (hull_reach hb ha d1 d2 hm) W
  · exact law4_bad hS a b c d x y w ho
end Go.Proofs.YtbhiphjifdnhmaaGreatDoor
