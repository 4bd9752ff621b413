import Derived.Test.YtnjmkdgglpcfpaaM3
import Derived.Test.YtnjmkdgglpcfpaaA46
namespace Go.Proofs.Ytnjmkdgglpcfpaa
set_option linter.unusedSimpArgs false
set_option linter.unusedVariables false
open Go.RowKit

set_option maxRecDepth 100000 in
set_option maxHeartbeats 1000000 in
theorem turnedLaw_out (C R B F : Int) (A : Option Addr) (cap : Nat) (cl : List Int) (D : Option Addr) (dap : Nat) (l : List Int) (b : Int) (w : World) (hB : B ≤ 9223372036854775807) (hcl : cl.length ≤ maxLen) (hll : l.length ≤ maxLen) (hr : Ints w w.heap.size A cl) (hl : Ints w w.heap.size D l) (hs : someB C R B F cl l = false) :
    Calls Try.prog 13 #[.agg #[.int .i64 C, .int .i64 R, .int .i64 B, .int .i64 F, .slice A cl.length cap], .slice D l.length dap, .int .i8 b] w fun e w' => e = .returned (.bool true) ∧ Below w.heap.size w w' := by
  have hc63 : cl.length ≤ 9223372036854775807 := Nat.le_trans hcl (by decide)
  have bw0 := below_new w (.cells #[.int .i64 C, .int .i64 R, .int .i64 B, .int .i64 F, .slice A cl.length cap] 24)
  have kH0 := Blk.new w 24 #[.int .i64 C, .int .i64 R, .int .i64 B, .int .i64 F, .slice A cl.length cap]
  have iA0 := hr.behind bw0
  have HS := Lib.hid hs
  clear hs
  go_enter Try.func13, Try.ntmps13
  go_wp2_with (first
    | (go_at_call 55; refine (some_any C R B F A cap cl D dap l _ hB hc63 iA0).mono ?_; rw [HS.out]; rintro e w1 ⟨rfl, hb1⟩; have bw1 := below_next bw0 bw0.size hb1)
    | (go_at_call 15; refine (sanity_any _).mono ?_; rintro e w2 ⟨rfl, hb2⟩; have bw2 := below_next bw1 bw1.size hb2))
  go_ret
  exact ⟨ret_bool rfl, bw2⟩

set_option maxRecDepth 100000 in
set_option maxHeartbeats 8000000 in
theorem turnedLaw_in (C R B F : Int) (A : Option Addr) (cap : Nat) (cl : List Int) (D : Option Addr) (dap : Nat) (l : List Int) (b : Int) (w : World) (hB : B ≤ 9223372036854775807) (hcl : cl.length ≤ maxLen) (hll : l.length ≤ maxLen) (hr : Ints w w.heap.size A cl) (hl : Ints w w.heap.size D l) (hb0 : -128 ≤ b) (hb1 : b ≤ 127) (hs : someB C R B F cl l = true) :
    Calls Try.prog 13 #[.agg #[.int .i64 C, .int .i64 R, .int .i64 B, .int .i64 F, .slice A cl.length cap], .slice D l.length dap, .int .i8 b] w fun e w' => e = .returned (.bool true) ∧ Below w.heap.size w w' := by
  have hc63 : cl.length ≤ 9223372036854775807 := Nat.le_trans hcl (by decide)
  obtain ⟨hl60, hck⟩ := of_decide_eq_true hs
  have hok := chk_ok.1 hck
  have k1 := hok.c3
  have k1' : 1 ≤ C := by omega
  have k2 := hok.c120
  have k3 := hok.b0
  have k4 := hok.f0
  have k5 := hok.bf
  have hCR := hok.holes
  have hn1 : -121 < (b.tmod 121) := by have := Int.lt_tmod_of_pos b (b := 121) (by omega); omega
  have hn2 : (b.tmod 121) < 121 := Int.tmod_lt_of_pos b (by omega)
  have hte : turnErr C R B F cl (b.tmod 121) = 0 := by unfold turnErr; rw [if_neg (by simp [hck]), if_pos (by omega)]
  have hok2 : Ok C R B F (turnedL C cl (b.tmod 121)) := turned_ok hok
  have H24 : Hid (∀ W : World, Ints W W.heap.size A cl → Calls Try.prog 24 #[.agg #[.int .i64 C, .int .i64 R, .int .i64 B, .int .i64 F, .slice A cl.length cap], .int .i64 (b.tmod 121)] W (RetHouse W C R B F (turnedL C cl (b.tmod 121)) 0)) := fun W hW => by
    have := turned24_any C R B F A cap cl (b.tmod 121) W hB hc63 hW
    simpa only [hte, ↓reduceIte] using this
  have HT : Hid (HolesOk C R B F cl l → findErr C R B F (turnedL C cl (b.tmod 121)) (mvs C (b.tmod 121) l) = findErr C R B F cl l ∧ (findL C R B F (turnedL C cl (b.tmod 121)) (mvs C (b.tmod 121) l)).length = (findL C R B F cl l).length ∧
    (findErr C R B F cl l = 0 → alikeB C (b.tmod 121) (nedL C R B F cl l) (nedL C R B F (turnedL C cl (b.tmod 121)) (mvs C (b.tmod 121) l)) = true ∧ alikeB C (b.tmod 121) (useL C R B F cl l) (useL C R B F (turnedL C cl (b.tmod 121)) (mvs C (b.tmod 121) l)) = true ∧ alikeB C (b.tmod 121) (savL C R B F cl l) (savL C R B F (turnedL C cl (b.tmod 121)) (mvs C (b.tmod 121) l)) = true)) := fun h => turned_all h
  generalize turnedL C cl (b.tmod 121) = cl2 at *
  have hl2 := hok2.len
  have hck2 := chk_ok.2 hok2
  have H26 : Hid (∀ (X : Option Addr) (xap : Nat) (W : World), Ints W W.heap.size X cl2 → Calls Try.prog 26 #[.agg #[.int .i64 C, .int .i64 R, .int .i64 B, .int .i64 F, .slice X cl2.length xap]] W fun e w' => e = .returned (.int .i64 0) ∧ Below W.heap.size W w') := fun X xap W hW => by
    have := check_any C R B F X xap cl2 W hB (by omega) hW
    rwa [hck2] at this
  have HS := Lib.hid hs
  have bw0 := below_new w (.cells #[.int .i64 C, .int .i64 R, .int .i64 B, .int .i64 F, .slice A cl.length cap] 24)
  have kH0 := Blk.new w 24 #[.int .i64 C, .int .i64 R, .int .i64 B, .int .i64 F, .slice A cl.length cap]
  have iA0 := hr.behind bw0
  have iD0 := hl.behind bw0
  clear hs hck hte
  go_enter Try.func13, Try.ntmps13
  go_wp2_with (first
    | (go_at_call 55; refine (some_any C R B F A cap cl D dap l _ hB hc63 iA0).mono ?_; rw [HS.out]; rintro e w1 ⟨rfl, hb1⟩; have bw1 := below_next bw0 bw0.size hb1; clear bw0; have kH1 := kH0.below hb1 kH0.lt; clear kH0; have iA1 := iA0.behind hb1; clear iA0; have iD1 := iD0.behind hb1; clear iD0; obtain ⟨d0, d1, d2, d3, d4⟩ := kH1.five)
    | (go_at_call 24; refine (H24.out _ iA1).mono ?_; rintro e w2 ⟨X, xap, rfl, x1, x2, iX2, hb2⟩; have bw2 := below_next bw1 bw1.size hb2; clear bw1; have kH2 := kH1.below hb2 kH1.lt; clear kH1; have iA2 := iA1.behind hb2; clear iA1; have iD2 := iD1.behind hb2; clear iD1; have hn3 := below_new w2 (.cells #[.int .i64 C, .int .i64 R, .int .i64 B, .int .i64 F, .slice X cl2.length xap] 24); have bw3 := below_next bw2 bw2.size hn3; clear bw2; have kH3 := kH2.below hn3 kH2.lt; clear kH2; have iA3 := iA2.behind hn3; clear iA2; have iD3 := iD2.behind hn3; clear iD2; have iX3 := iX2.behind hn3; clear iX2; have kT3 := Blk.new w2 24 #[.int .i64 C, .int .i64 R, .int .i64 B, .int .i64 F, .slice X cl2.length xap]; clear d0 d1 d2 d3 d4; obtain ⟨d0, d1, d2, d3, d4⟩ := kH3.five; obtain ⟨e0, e1, e2, e3, e4⟩ := kT3.five)
    | (go_at_call 26; refine (H26.out X xap _ iX3).mono ?_; rintro e w4 ⟨rfl, hb4⟩; have bw4 := below_next bw3 bw3.size hb4; clear bw3; have kH4 := kH3.below hb4 kH3.lt; clear kH3; have iA4 := iA3.behind hb4; clear iA3; have iD4 := iD3.behind hb4; clear iD3; have iX4 := iX3.behind hb4; clear iX3; have kT4 := kT3.below hb4 kT3.lt; clear kT3; clear d0 d1 d2 d3 d4; obtain ⟨d0, d1, d2, d3, d4⟩ := kH4.five; clear e0 e1 e2 e3 e4; obtain ⟨e0, e1, e2, e3, e4⟩ := kT4.five)
    | fail)
  go_loopw [10, 56] (fun v i wr => ∃ (k : Nat) (A' : Option Addr) (c' : Nat), k ≤ l.length ∧ i = .int .i64 k ∧ v = .slice A' (mvs C (b.tmod 121) (l.take k)).length c' ∧ Hid (∀ x ∈ l.take k, 0 ≤ x ∧ x < C * R) ∧ Below w4.heap.size w4 wr ∧ wr.ownsRow w4.heap.size 3 1 (.slice A' (mvs C (b.tmod 121) (l.take k)).length c') (mvs C (b.tmod 121) (l.take k)).length ((mvs C (b.tmod 121) (l.take k)).map (Value.int .i64)))
    (fun _ i _ => l.length - (intOf i).toNat)
  case atStart => exact ⟨0, none, 0, Nat.zero_le _, rfl, rfl, (by simp [Hid]), Below.refl _ _, World.ownsRow_nil _ _ _ _⟩
  case round =>
    obtain ⟨k, A', c', hk, rfl, rfl, hall, hb, hown⟩ := hrel
    have kH5 := kH4.below hb kH4.lt
    have iA5 := iA4.behind hb
    have iD5 := iD4.behind hb
    have iX5 := iX4.behind hb
    have kT5 := kT4.below hb kT4.lt
    have bw5 := below_next bw4 bw4.size hb
    clear d0 d1 d2 d3 d4 e0 e1 e2 e3 e4
    obtain ⟨d0, d1, d2, d3, d4⟩ := kH5.five
    have ho5 := hown
    have hbn5 := hb
    by_cases hlt : k < l.length
    · obtain ⟨ad, hD, hadb, hce⟩ := iD5.get hlt
      subst hD
      have hlt2 : (k : Int) < (l.length : Int) := by omega
      by_cases hx : 0 ≤ l[k] ∧ l[k] < C * R
      · have hall2 : Hid (∀ x ∈ l.take (k + 1), 0 ≤ x ∧ x < C * R) := by
          unfold Hid
          rw [List.take_succ_eq_append_getElem hlt]
          intro y hy
          rcases List.mem_append.1 hy with hy | hy
          · exact hall.out y hy
          · rw [List.mem_singleton.1 hy]; exact hx
        have HM : Hid (mvs C (b.tmod 121) (l.take (k + 1)) = mvs C (b.tmod 121) (l.take k) ++ [mvf C (b.tmod 121) l[k]]) := by
          unfold Hid mvs; rw [List.take_succ_eq_append_getElem hlt, List.map_append]; rfl
        have hml : (mvs C (b.tmod 121) (l.take k)).length ≤ 60 := by rw [mvs_len, List.length_take]; omega
        obtain ⟨m1, m2, m3, m4, m5⟩ := mvf_in (n := (b.tmod 121)) k1' hx.1 hx.2 hCR
        have HF : Hid (mvf C (b.tmod 121) l[k] = l[k] / C * C + (l[k] % C + (b.tmod 121)) % C) := rfl
        have hz0 := Int.emod_nonneg l[k] (b := C) (by omega)
        have hz1 := Int.emod_lt_of_pos l[k] (b := C) (by omega)
        have hym0 := Int.emod_nonneg (l[k] % C + (b.tmod 121)) (b := C) (by omega)
        have hym1 := Int.emod_lt_of_pos (l[k] % C + (b.tmod 121)) (b := C) (by omega)
        generalize mvs C (b.tmod 121) (l.take k) = mv at *
        generalize l[k] = x at *
        generalize hxm : x % C = xm at *
        generalize hq : x / C = xq at *
        generalize hp : xq * C = xp at *
        have hw1 : IntKind.i64.wrap xp = xp := IntWalk.i64_in _ (by omega)
        have hw2 : IntKind.i64.wrap (xp + (xm + (b.tmod 121)) % C) = xp + (xm + (b.tmod 121)) % C := IntWalk.i64_in _ (by omega)
        have HQ := Lib.hid hq
        have HP := Lib.hid hp
        have HXM := Lib.hid hxm
        clear hall hown hb hq hxm m5
        go_wp2_with (first
          | (go_at_call 16; refine (column_ok _ hok iA5 hx).mono ?_; rw [HXM.out]; rintro e w6 ⟨rfl, hb6⟩; have kH6 := kH5.below hb6 kH5.lt; clear kH5; have iA6 := iA5.behind hb6; clear iA5; have iD6 := iD5.behind hb6; clear iD5; have iX6 := iX5.behind hb6; clear iX5; have kT6 := kT5.below hb6 kT5.lt; clear kT5; have ho6 := own_below ho5 hb6; clear ho5; have hbn6 := below_next hbn5 hbn5.size hb6; clear hbn5; clear d0 d1 d2 d3 d4; obtain ⟨d0, d1, d2, d3, d4⟩ := kH6.five)
          | (go_at_call 18; refine (ring_ok _ hok iA6 hx).mono ?_; rw [HQ.out]; rintro e w7 ⟨rfl, hb7⟩; have kH7 := kH6.below hb7 kH6.lt; clear kH6; have iA7 := iA6.behind hb7; clear iA6; have iD7 := iD6.behind hb7; clear iD6; have iX7 := iX6.behind hb7; clear iX6; have kT7 := kT6.below hb7 kT6.lt; clear kT6; have ho7 := own_below ho6 hb7; clear ho6; have hbn7 := below_next hbn6 hbn6.size hb7; clear hbn6; clear d0 d1 d2 d3 d4; obtain ⟨d0, d1, d2, d3, d4⟩ := kH7.five)
          | fail)
        have hz5 := hbn7.size
        have hH4 := kH4.lt
        clear HQ HP HXM
        go_region_held3 (fun w' => w'.cell? ⟨w.heap.size, 0, none⟩ = some (.int .i64 C) ∧ w'.cell? ⟨w.heap.size, 1, none⟩ = some (.int .i64 R) ∧ w'.cell? ⟨w.heap.size, 2, none⟩ = some (.int .i64 B) ∧ w'.cell? ⟨w.heap.size, 3, none⟩ = some (.int .i64 F) ∧ w'.cell? ⟨w.heap.size, 4, none⟩ = some (.slice A cl.length cap)) (first | exact K2 | exact K1 | exact ⟨d0, d1, d2, d3, d4⟩ | go_keep)
          (first
            | (go_at_call 57; refine (turned57_any C R B F _ xm (b.tmod 121) _ k1' k2 (by omega) (by omega) (by omega) (by omega)).mono ?_; rintro e w8 ⟨rfl, hb8⟩; have hb8x : Below w7.heap.size w7 w8 := (by first | exact hb8 | exact (Below.refl _ _).drew.trans hb8); have K1 : w8.cell? ⟨w.heap.size, 0, none⟩ = some (.int .i64 C) ∧ w8.cell? ⟨w.heap.size, 1, none⟩ = some (.int .i64 R) ∧ w8.cell? ⟨w.heap.size, 2, none⟩ = some (.int .i64 B) ∧ w8.cell? ⟨w.heap.size, 3, none⟩ = some (.int .i64 F) ∧ w8.cell? ⟨w.heap.size, 4, none⟩ = some (.slice A cl.length cap) := keep5 hb8x ⟨d0, d1, d2, d3, d4⟩; have ho8 := own_below ho7 hb8x; have hbn8 := below_next hbn7 hbn7.size hb8x)
            | (rw [if_pos (by rfl)]; refine wp_appI _ _ (by rfl) w4.heap.size mv (xp + (xm + (b.tmod 121)) % C) (.slice A' mv.length c') (by rfl) (by with_reducible exact ho8.alloc _) ⟨_, 0, none⟩ (by rfl) ((Blk.new w8 3 #[.int .i64 (xp + (xm + (b.tmod 121)) % C)]).cell 0) (by omega) (by have := hbn8.size; simp; omega) ?_; intro A5 c5 w9 hown9 hb9; have hbn9 : Below w4.heap.size w4 w9 := (hbn8.alloc hbn8.size _).trans hb9; have kH9 := ((kH7.below hb8x kH7.lt).alloc (.cells #[.int .i64 (xp + (xm + (b.tmod 121)) % C)] 3)).below hb9 hH4; have K2 : w9.cell? ⟨w.heap.size, 0, none⟩ = some (.int .i64 C) ∧ w9.cell? ⟨w.heap.size, 1, none⟩ = some (.int .i64 R) ∧ w9.cell? ⟨w.heap.size, 2, none⟩ = some (.int .i64 B) ∧ w9.cell? ⟨w.heap.size, 3, none⟩ = some (.int .i64 F) ∧ w9.cell? ⟨w.heap.size, 4, none⟩ = some (.slice A cl.length cap) := kH9.five))
        all_goals (
          go_wp2_with fail
          go_roundw
          case rel => exact ⟨k + 1, A5, c5, by omega, by go_num, by rw [HM.out]; simp, hall2, hbn9, by rw [HM.out, HF.out]; exact hown9⟩
          case measure => simp [intOf]; try omega)
      · have hnn := hx
        clear hall hown
        generalize l[k] = x at *
        go_wp2_with (first
          | (go_at_call 16; refine (column_out _ hok iA5 hx).mono ?_; rintro e w6 ⟨rfl, hb6⟩; have bw6 := below_next bw5 bw5.size hb6; have iA6 := iA5.behind hb6; have kH6 := kH5.below hb6 kH5.lt; clear d0 d1 d2 d3 d4; obtain ⟨d0, d1, d2, d3, d4⟩ := kH6.five)
          | (go_at_call 18; refine (ring_out _ hok iA6 hx).mono ?_; rintro e w7 ⟨rfl, hb7⟩; have bw7 := below_next bw6 bw6.size hb7)
          | (go_at_call 15; refine (sanity_any _).mono ?_; rintro e w8 ⟨rfl, hb8⟩; have bw8 := below_next bw7 bw7.size hb8)
          | fail)
        go_ret
        exact ⟨ret_bool rfl, bw8⟩
    · have ek : l.take k = l := List.take_of_length_le (by omega)
      rw [ek] at hown hall ho5 ⊢
      have hk2 : HolesOk C R B F cl l := ⟨hok, by omega, hall.out⟩
      obtain ⟨t1, t2, t3⟩ := HT.out hk2
      have hml : (mvs C (b.tmod 121) l).length ≤ 60 := by rw [mvs_len]; exact hl60
      have CC1 := count37 C R B F A cap cl D dap l hB hc63 (Nat.le_trans hll (by decide))
      have CC2 := count37 C R B F X xap cl2 A' c' (mvs C (b.tmod 121) l) hB (by omega) (by omega)
      have N1 := needed43 C R B F A cap cl D dap l hB hc63 (Nat.le_trans hll (by decide))
      have N2 := needed43 C R B F X xap cl2 A' c' (mvs C (b.tmod 121) l) hB (by omega) (by omega)
      have U1 := useful45 C R B F A cap cl D dap l hB hc63 (Nat.le_trans hll (by decide))
      have U2 := useful45 C R B F X xap cl2 A' c' (mvs C (b.tmod 121) l) hB (by omega) (by omega)
      have S1 := saves47 C R B F A cap cl D dap l hB hc63 (Nat.le_trans hll (by decide))
      have S2 := saves47 C R B F X xap cl2 A' c' (mvs C (b.tmod 121) l) hB (by omega) (by omega)
      have iM5 : Ints wr wr.heap.size A' (mvs C (b.tmod 121) l) := Ints.of_own ho5
      obtain ⟨r1, r2, r3⟩ := need_len (C := C) (R := R) (B := B) (F := F) (cl := cl) (l := l)
      obtain ⟨r4, r5, r6⟩ := need_len (C := C) (R := R) (B := B) (F := F) (cl := cl2) (l := mvs C (b.tmod 121) l)
      have hin := fun he => need_rise hk2 he
      rw [t1] at CC2 N2 U2 S2
      rw [t2] at CC2
      clear HT hown hall ek t1 t2
      generalize findErr C R B F cl l = fe at *
      generalize (findL C R B F cl l).length = N at *
      generalize nedL C R B F cl l = n1 at *
      generalize nedL C R B F cl2 (mvs C (b.tmod 121) l) = n2 at *
      generalize useL C R B F cl l = u1 at *
      generalize useL C R B F cl2 (mvs C (b.tmod 121) l) = u2 at *
      generalize savL C R B F cl l = s1 at *
      generalize savL C R B F cl2 (mvs C (b.tmod 121) l) = s2 at *
      generalize mvs C (b.tmod 121) l = mv at *
      have C1 := Lib.hid CC1
      have C2 := Lib.hid CC2
      have HN1 := Lib.hid N1
      have HN2 := Lib.hid N2
      have HU1 := Lib.hid U1
      have HU2 := Lib.hid U2
      have HS1 := Lib.hid S1
      have HS2 := Lib.hid S2
      clear CC1 CC2 N1 N2 U1 U2 S1 S2
      obtain ⟨e0, e1, e2, e3, e4⟩ := kT5.five
      by_cases hfe : fe = 0
      · obtain ⟨al1, al2, al3⟩ := t3 hfe
        obtain ⟨⟨_, i1⟩, ⟨_, i2⟩, ⟨_, i3⟩⟩ := hin hfe
        subst hfe
        clear hin t3
        have AL1 := Lib.hid al1
        have AL2 := Lib.hid al2
        have AL3 := Lib.hid al3
        clear al1 al2 al3
        have hct : C.toNat ≤ 120 := by omega
        clear hbn5 ho5 hk2 hb
        go_wp2_with (first
          | (go_at_call 37; refine (C1.out _ iA5 iD5).mono ?_; rintro e w6 ⟨rfl, hb6⟩; have kH6 := kH5.below hb6 kH5.lt; clear kH5; have iA6 := iA5.behind hb6; clear iA5; have iD6 := iD5.behind hb6; clear iD5; have iX6 := iX5.behind hb6; clear iX5; have kT6 := kT5.below hb6 kT5.lt; clear kT5; have iM6 := iM5.behind hb6; clear iM5; have bw6 := below_next bw5 bw5.size hb6; clear bw5; clear d0 d1 d2 d3 d4 e0 e1 e2 e3 e4; obtain ⟨d0, d1, d2, d3, d4⟩ := kH6.five; obtain ⟨e0, e1, e2, e3, e4⟩ := kT6.five)
          | (go_at_call 37; refine (C2.out _ iX6 iM6).mono ?_; rintro e w7 ⟨rfl, hb7⟩; have kH7 := kH6.below hb7 kH6.lt; clear kH6; have iA7 := iA6.behind hb7; clear iA6; have iD7 := iD6.behind hb7; clear iD6; have iX7 := iX6.behind hb7; clear iX6; have kT7 := kT6.below hb7 kT6.lt; clear kT6; have iM7 := iM6.behind hb7; clear iM6; have bw7 := below_next bw6 bw6.size hb7; clear bw6; clear d0 d1 d2 d3 d4 e0 e1 e2 e3 e4; obtain ⟨d0, d1, d2, d3, d4⟩ := kH7.five; obtain ⟨e0, e1, e2, e3, e4⟩ := kT7.five)
          | (go_at_call 43; refine (HN1.out _ iA7 iD7).mono ?_; rintro e w8 ⟨Na, Nap, rfl, Nay, Naz, iNa8, hb8⟩; have kH8 := kH7.below hb8 kH7.lt; clear kH7; have iA8 := iA7.behind hb8; clear iA7; have iD8 := iD7.behind hb8; clear iD7; have iX8 := iX7.behind hb8; clear iX7; have kT8 := kT7.below hb8 kT7.lt; clear kT7; have iM8 := iM7.behind hb8; clear iM7; have bw8 := below_next bw7 bw7.size hb8; clear bw7; clear d0 d1 d2 d3 d4 e0 e1 e2 e3 e4; obtain ⟨d0, d1, d2, d3, d4⟩ := kH8.five; obtain ⟨e0, e1, e2, e3, e4⟩ := kT8.five)
          | (go_at_call 43; refine (HN2.out _ iX8 iM8).mono ?_; rintro e w9 ⟨Nb, Nbp, rfl, Nby, Nbz, iNb9, hb9⟩; have kH9 := kH8.below hb9 kH8.lt; clear kH8; have iA9 := iA8.behind hb9; clear iA8; have iD9 := iD8.behind hb9; clear iD8; have iX9 := iX8.behind hb9; clear iX8; have kT9 := kT8.below hb9 kT8.lt; clear kT8; have iM9 := iM8.behind hb9; clear iM8; have bw9 := below_next bw8 bw8.size hb9; clear bw8; have iNa9 := iNa8.behind hb9; clear iNa8; clear d0 d1 d2 d3 d4 e0 e1 e2 e3 e4; obtain ⟨d0, d1, d2, d3, d4⟩ := kH9.five; obtain ⟨e0, e1, e2, e3, e4⟩ := kT9.five)
          | (go_at_call 45; refine (HU1.out _ iA9 iD9).mono ?_; rintro e w10 ⟨Ua, Uap, rfl, Uay, Uaz, iUa10, hb10⟩; have kH10 := kH9.below hb10 kH9.lt; clear kH9; have iA10 := iA9.behind hb10; clear iA9; have iD10 := iD9.behind hb10; clear iD9; have iX10 := iX9.behind hb10; clear iX9; have kT10 := kT9.below hb10 kT9.lt; clear kT9; have iM10 := iM9.behind hb10; clear iM9; have bw10 := below_next bw9 bw9.size hb10; clear bw9; have iNa10 := iNa9.behind hb10; clear iNa9; have iNb10 := iNb9.behind hb10; clear iNb9; clear d0 d1 d2 d3 d4 e0 e1 e2 e3 e4; obtain ⟨d0, d1, d2, d3, d4⟩ := kH10.five; obtain ⟨e0, e1, e2, e3, e4⟩ := kT10.five)
          | (go_at_call 45; refine (HU2.out _ iX10 iM10).mono ?_; rintro e w11 ⟨Ub, Ubp, rfl, Uby, Ubz, iUb11, hb11⟩; have kH11 := kH10.below hb11 kH10.lt; clear kH10; have iA11 := iA10.behind hb11; clear iA10; have iD11 := iD10.behind hb11; clear iD10; have iX11 := iX10.behind hb11; clear iX10; have kT11 := kT10.below hb11 kT10.lt; clear kT10; have iM11 := iM10.behind hb11; clear iM10; have bw11 := below_next bw10 bw10.size hb11; clear bw10; have iNa11 := iNa10.behind hb11; clear iNa10; have iNb11 := iNb10.behind hb11; clear iNb10; have iUa11 := iUa10.behind hb11; clear iUa10; clear d0 d1 d2 d3 d4 e0 e1 e2 e3 e4; obtain ⟨d0, d1, d2, d3, d4⟩ := kH11.five; obtain ⟨e0, e1, e2, e3, e4⟩ := kT11.five)
          | (go_at_call 47; refine (HS1.out _ iA11 iD11).mono ?_; rintro e w12 ⟨Za, Zap, rfl, Zay, Zaz, iZa12, hb12⟩; have kH12 := kH11.below hb12 kH11.lt; clear kH11; have iA12 := iA11.behind hb12; clear iA11; have iD12 := iD11.behind hb12; clear iD11; have iX12 := iX11.behind hb12; clear iX11; have kT12 := kT11.below hb12 kT11.lt; clear kT11; have iM12 := iM11.behind hb12; clear iM11; have bw12 := below_next bw11 bw11.size hb12; clear bw11; have iNa12 := iNa11.behind hb12; clear iNa11; have iNb12 := iNb11.behind hb12; clear iNb11; have iUa12 := iUa11.behind hb12; clear iUa11; have iUb12 := iUb11.behind hb12; clear iUb11; clear d0 d1 d2 d3 d4 e0 e1 e2 e3 e4; obtain ⟨d0, d1, d2, d3, d4⟩ := kH12.five; obtain ⟨e0, e1, e2, e3, e4⟩ := kT12.five)
          | (go_at_call 47; refine (HS2.out _ iX12 iM12).mono ?_; rintro e w13 ⟨Zb, Zbp, rfl, Zby, Zbz, iZb13, hb13⟩; have kH13 := kH12.below hb13 kH12.lt; clear kH12; have iA13 := iA12.behind hb13; clear iA12; have iD13 := iD12.behind hb13; clear iD12; have iX13 := iX12.behind hb13; clear iX12; have kT13 := kT12.below hb13 kT12.lt; clear kT12; have iM13 := iM12.behind hb13; clear iM12; have bw13 := below_next bw12 bw12.size hb13; clear bw12; have iNa13 := iNa12.behind hb13; clear iNa12; have iNb13 := iNb12.behind hb13; clear iNb12; have iUa13 := iUa12.behind hb13; clear iUa12; have iUb13 := iUb12.behind hb13; clear iUb12; have iZa13 := iZa12.behind hb13; clear iZa12; clear d0 d1 d2 d3 d4 e0 e1 e2 e3 e4; obtain ⟨d0, d1, d2, d3, d4⟩ := kH13.five; obtain ⟨e0, e1, e2, e3, e4⟩ := kT13.five)
          | (go_at_call 15; refine (sanity_any _).mono ?_; rintro e w14 ⟨rfl, hb14⟩; have kH14 := kH13.below hb14 kH13.lt; clear kH13; have iA14 := iA13.behind hb14; clear iA13; have iD14 := iD13.behind hb14; clear iD13; have iX14 := iX13.behind hb14; clear iX13; have kT14 := kT13.below hb14 kT13.lt; clear kT13; have iM14 := iM13.behind hb14; clear iM13; have bw14 := below_next bw13 bw13.size hb14; clear bw13; have iNa14 := iNa13.behind hb14; clear iNa13; have iNb14 := iNb13.behind hb14; clear iNb13; have iUa14 := iUa13.behind hb14; clear iUa13; have iUb14 := iUb13.behind hb14; clear iUb13; have iZa14 := iZa13.behind hb14; clear iZa13; have iZb14 := iZb13.behind hb14; clear iZb13)
          | (refine wpList_load_rowG (by rfl) 24 _ (by rfl) _ (by rfl) 24 _ (0, 0) _ kH14 Try.underlying24 rfl (info24 _ _ _ _ _) ?_; have jj0 := 0)
          | (go_at_call 58; refine (alike_any C R B F _ n1 n2 Na Nb Nap Nbp (b.tmod 121) _ k1' k2 (by omega) (by omega) i1 (by omega) (by omega) iNa14 iNb14).mono ?_; rw [AL1.out]; rintro e w15 ⟨rfl, hb15⟩; have kH15 := kH14.below hb15 kH14.lt; clear kH14; have iA15 := iA14.behind hb15; clear iA14; have iD15 := iD14.behind hb15; clear iD14; have iX15 := iX14.behind hb15; clear iX14; have kT15 := kT14.below hb15 kT14.lt; clear kT14; have iM15 := iM14.behind hb15; clear iM14; have bw15 := below_next bw14 bw14.size hb15; clear bw14; have iNa15 := iNa14.behind hb15; clear iNa14; have iNb15 := iNb14.behind hb15; clear iNb14; have iUa15 := iUa14.behind hb15; clear iUa14; have iUb15 := iUb14.behind hb15; clear iUb14; have iZa15 := iZa14.behind hb15; clear iZa14; have iZb15 := iZb14.behind hb15; clear iZb14)
          | (refine wpList_load_rowG (by rfl) 24 _ (by rfl) _ (by rfl) 24 _ (0, 0) _ kH15 Try.underlying24 rfl (info24 _ _ _ _ _) ?_; have jj1 := 0)
          | (go_at_call 58; refine (alike_any C R B F _ u1 u2 Ua Ub Uap Ubp (b.tmod 121) _ k1' k2 (by omega) (by omega) i2 (by omega) (by omega) iUa15 iUb15).mono ?_; rw [AL2.out]; rintro e w16 ⟨rfl, hb16⟩; have kH16 := kH15.below hb16 kH15.lt; clear kH15; have iA16 := iA15.behind hb16; clear iA15; have iD16 := iD15.behind hb16; clear iD15; have iX16 := iX15.behind hb16; clear iX15; have kT16 := kT15.below hb16 kT15.lt; clear kT15; have iM16 := iM15.behind hb16; clear iM15; have bw16 := below_next bw15 bw15.size hb16; clear bw15; have iNa16 := iNa15.behind hb16; clear iNa15; have iNb16 := iNb15.behind hb16; clear iNb15; have iUa16 := iUa15.behind hb16; clear iUa15; have iUb16 := iUb15.behind hb16; clear iUb15; have iZa16 := iZa15.behind hb16; clear iZa15; have iZb16 := iZb15.behind hb16; clear iZb15)
          | (refine wpList_load_rowG (by rfl) 24 _ (by rfl) _ (by rfl) 24 _ (0, 0) _ kH16 Try.underlying24 rfl (info24 _ _ _ _ _) ?_; have jj2 := 0)
          | (go_at_call 58; refine (alike_any C R B F _ s1 s2 Za Zb Zap Zbp (b.tmod 121) _ k1' k2 (by omega) (by omega) i3 (by omega) (by omega) iZa16 iZb16).mono ?_; rw [AL3.out]; rintro e w17 ⟨rfl, hb17⟩; have kH17 := kH16.below hb17 kH16.lt; clear kH16; have iA17 := iA16.behind hb17; clear iA16; have iD17 := iD16.behind hb17; clear iD16; have iX17 := iX16.behind hb17; clear iX16; have kT17 := kT16.below hb17 kT16.lt; clear kT16; have iM17 := iM16.behind hb17; clear iM16; have bw17 := below_next bw16 bw16.size hb17; clear bw16; have iNa17 := iNa16.behind hb17; clear iNa16; have iNb17 := iNb16.behind hb17; clear iNb16; have iUa17 := iUa16.behind hb17; clear iUa16; have iUb17 := iUb16.behind hb17; clear iUb16; have iZa17 := iZa16.behind hb17; clear iZa16; have iZb17 := iZb16.behind hb17; clear iZb16)
          | fail)
        go_ret
        exact ⟨ret_bool rfl, bw17⟩
      · have n1 : (fe == 0) = false := by simpa using hfe
        have n2 : (fe != 0) = true := by simpa using hfe
        clear hin t3
        go_wp2_with (first
          | (go_at_call 37; refine (C1.out _ iA5 iD5).mono ?_; rintro e w6 ⟨rfl, hb6⟩; have kH6 := kH5.below hb6 kH5.lt; clear kH5; have iA6 := iA5.behind hb6; clear iA5; have iD6 := iD5.behind hb6; clear iD5; have iX6 := iX5.behind hb6; clear iX5; have kT6 := kT5.below hb6 kT5.lt; clear kT5; have iM6 := iM5.behind hb6; clear iM5; have bw6 := below_next bw5 bw5.size hb6; clear bw5; clear d0 d1 d2 d3 d4 e0 e1 e2 e3 e4; obtain ⟨d0, d1, d2, d3, d4⟩ := kH6.five; obtain ⟨e0, e1, e2, e3, e4⟩ := kT6.five)
          | (go_at_call 37; refine (C2.out _ iX6 iM6).mono ?_; rintro e w7 ⟨rfl, hb7⟩; have kH7 := kH6.below hb7 kH6.lt; clear kH6; have iA7 := iA6.behind hb7; clear iA6; have iD7 := iD6.behind hb7; clear iD6; have iX7 := iX6.behind hb7; clear iX6; have kT7 := kT6.below hb7 kT6.lt; clear kT6; have iM7 := iM6.behind hb7; clear iM6; have bw7 := below_next bw6 bw6.size hb7; clear bw6; clear d0 d1 d2 d3 d4 e0 e1 e2 e3 e4; obtain ⟨d0, d1, d2, d3, d4⟩ := kH7.five; obtain ⟨e0, e1, e2, e3, e4⟩ := kT7.five)
          | (go_at_call 15; refine (sanity_any _).mono ?_; rintro e w8 ⟨rfl, hb8⟩; have bw8 := below_next bw7 bw7.size hb8)
          | fail)
        go_ret
        exact ⟨ret_bool rfl, bw8⟩

theorem turnedLaw_any (C R B F : Int) (A : Option Addr) (cap : Nat) (cl : List Int) (D : Option Addr) (dap : Nat) (l : List Int) (b : Int) (w : World) (hB : B ≤ 9223372036854775807) (hcl : cl.length ≤ maxLen) (hll : l.length ≤ maxLen) (hr : Ints w w.heap.size A cl) (hl : Ints w w.heap.size D l) (hb0 : -128 ≤ b) (hb1 : b ≤ 127) :
    Calls Try.prog 13 #[.agg #[.int .i64 C, .int .i64 R, .int .i64 B, .int .i64 F, .slice A cl.length cap], .slice D l.length dap, .int .i8 b] w fun e w' => e = .returned (.bool true) ∧ Below w.heap.size w w' := by
  cases hs : someB C R B F cl l with
  | true => exact turnedLaw_in C R B F A cap cl D dap l b w hB hcl hll hr hl hb0 hb1 hs
  | false => exact turnedLaw_out C R B F A cap cl D dap l b w hB hcl hll hr hl hs

end Go.Proofs.Ytnjmkdgglpcfpaa
