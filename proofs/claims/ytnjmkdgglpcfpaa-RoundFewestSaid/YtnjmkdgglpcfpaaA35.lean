import Derived.Test.YtnjmkdgglpcfpaaA34
import Derived.Test.YtnjmkdgglpcfpaaA31
namespace Go.Proofs.Ytnjmkdgglpcfpaa
open Go.RowKit

/-- the slice at G reads, in w, as cuts: a stand and columns each -/
def Cuts (w : World) (B : Nat) (G : Option Addr) (cs : List (Int × List Int)) : Prop :=
  ∀ k c, cs[k]? = some c → ∃ ad E cap, G = some ad ∧ ad.block < B ∧ w.cell? (ad.add (k * 2)) = some (.int .i64 c.1) ∧ w.cell? ⟨(ad.add (k * 2)).block, (ad.add (k * 2)).off + 1, none⟩ = some (.slice E c.2.length cap) ∧ Ints w B E c.2
section
variable {w w' : World} {B B' : Nat} {G : Option Addr} {cs : List (Int × List Int)}
theorem Cuts.nil : Cuts w B G [] := fun k c h => by simp at h
theorem Cuts.get (h : Cuts w B G cs) {k : Nat} (hk : k < cs.length) : ∃ ad E cap, G = some ad ∧ ad.block < B ∧ w.cell? (ad.add (k * 2)) = some (.int .i64 cs[k].1) ∧ w.cell? ⟨(ad.add (k * 2)).block, (ad.add (k * 2)).off + 1, none⟩ = some (.slice E cs[k].2.length cap) ∧ Ints w B E cs[k].2 :=
  h k _ (List.getElem?_eq_getElem hk)
theorem Cuts.below (h : Cuts w B G cs) (hb : Below B w w') : Cuts w' B G cs := fun k c hc => by
  obtain ⟨ad, E, cap, h1, h2, h3, h4, h5⟩ := h k c hc
  exact ⟨ad, E, cap, h1, h2, (hb.cell (by rw [addr_block]; exact h2)).trans h3, (hb.cell (p := ⟨(ad.add (k * 2)).block, (ad.add (k * 2)).off + 1, none⟩) (by show (ad.add (k * 2)).block < B; rw [addr_block]; exact h2)).trans h4, h5.below hb⟩
theorem Cuts.more (h : Cuts w B G cs) (hB : B ≤ B') : Cuts w B' G cs := fun k c hc => by
  obtain ⟨ad, E, cap, h1, h2, h3, h4, h5⟩ := h k c hc
  exact ⟨ad, E, cap, h1, Nat.lt_of_lt_of_le h2 hB, h3, h4, h5.more hB⟩
end

/-- the reference's word on one cut -/
def cutOk (C B F : Int) (cl cs : List Int) (n : Int) (p : Int × (Int × List Int)) : Bool := decide (p.2.1 = p.1) && (decide ((p.2.2.length : Int) = n - 1) && apartB C B F cl cs p.2.1 p.2.2)
/-- the reference's word on a round with its cuts -/
def roundOk (C B F : Int) (cl cs st : List Int) (cuts : List (Int × List Int)) : Bool :=
  decide (Rise C st ∧ ∀ x ∈ st, x ∉ cl) && ((cs.filter fun x => !anyR C B F st x).isEmpty &&
    match cs with
    | [] => st.isEmpty && cuts.isEmpty
    | c :: _ => decide (cuts.length = (rstL C B F cl c).length) && ((rstL C B F cl c).zip cuts).all (cutOk C B F cl cs st.length))
/-- the reference's CheckFewest -/
def ckFew (C R B F : Int) (cl holes st : List Int) (cuts : List (Int × List Int)) : Int :=
  if holesErr C R B F cl holes ≠ 0 then holesErr C R B F cl holes
  else if 200 < st.length ∨ 200 < cuts.length then 2
  else if ∃ c ∈ cuts, 200 < c.2.length then 2
  else if roundOk C B F cl (colsTo (isIn (colm C holes)) C.toNat) st cuts = true then 0 else 8

theorem zip_next {fs : List Int} {cuts : List (Int × List Int)} {P : Int × (Int × List Int) → Bool} {k : Nat} (h1 : k < fs.length) (h2 : k < cuts.length) (h : ((fs.zip cuts).take k).all P = true) (hp : P (fs[k], cuts[k]) = true) : ((fs.zip cuts).take (k + 1)).all P = true := by
  have hk : k < (fs.zip cuts).length := by simp; omega
  rw [List.take_succ_eq_append_getElem hk, List.all_append, h]
  simp [hp]
theorem zip_no {fs : List Int} {cuts : List (Int × List Int)} {P : Int × (Int × List Int) → Bool} {k : Nat} (h1 : k < fs.length) (h2 : k < cuts.length) (hp : P (fs[k], cuts[k]) = false) : (fs.zip cuts).all P = false := by
  have hk : k < (fs.zip cuts).length := by simp; omega
  cases hb : (fs.zip cuts).all P with
  | false => rfl
  | true =>
    have := List.all_eq_true.1 hb _ (List.getElem_mem hk)
    rw [List.getElem_zip, hp] at this
    cases this
theorem rstL_mem {C B F : Int} {cl : List Int} {c x : Int} (h : x ∈ rstL C B F cl c) : 0 ≤ x ∧ x < C := openL_mem (List.mem_filter.1 h).1
theorem rstL_len (C B F : Int) (cl : List Int) (c : Int) : (rstL C B F cl c).length ≤ C.toNat := Nat.le_trans (List.length_filter_le _ _) (openL_le C cl)

theorem info104 {a b : Value} : (Try.prog.info? 104).map (·.size) = some #[a, b].size := by
  show _ = some 2
  kernel_rfl
set_option maxRecDepth 100000 in
set_option maxHeartbeats 4000000 in
theorem refCheckFewest_any (C R B F : Int) (A : Option Addr) (cap : Nat) (cl : List Int) (D : Option Addr) (dap : Nat) (l : List Int) (E : Option Addr) (eap : Nat) (st : List Int) (G : Option Addr) (gap : Nat) (cuts : List (Int × List Int)) (w : World) (hcl : cl.length ≤ 1000000) (hll : l.length ≤ 1000000) (hst : st.length ≤ 1000000) (hcu : cuts.length ≤ 1000000) (hcc : ∀ c ∈ cuts, c.2.length ≤ 1000000)
    (hr : Ints w w.heap.size A cl) (hl : Ints w w.heap.size D l) (hs : Ints w w.heap.size E st) (hg : Cuts w w.heap.size G cuts) :
    Calls Try.prog 40 #[.agg #[.int .i64 C, .int .i64 R, .int .i64 B, .int .i64 F, .slice A cl.length cap], .slice D l.length dap, .agg #[.slice E st.length eap, .slice G cuts.length gap]] w fun e w' => e = .returned (.int .i64 (ckFew C R B F cl l st cuts)) ∧ Below w.heap.size w w' := by
  have hb0 : Below w.heap.size w ((w.alloc (.cells #[.int .i64 C, .int .i64 R, .int .i64 B, .int .i64 F, .slice A cl.length cap] 24)).alloc (.cells #[.slice E st.length eap, .slice G cuts.length gap] 56)) := (below_new w (.cells #[.int .i64 C, .int .i64 R, .int .i64 B, .int .i64 F, .slice A cl.length cap] 24)).alloc (by simp) _
  have hbk : Blk ((w.alloc (.cells #[.int .i64 C, .int .i64 R, .int .i64 B, .int .i64 F, .slice A cl.length cap] 24)).alloc (.cells #[.slice E st.length eap, .slice G cuts.length gap] 56)) w.heap.size 24 #[.int .i64 C, .int .i64 R, .int .i64 B, .int .i64 F, .slice A cl.length cap] := (Blk.new _ _ _).alloc _
  have hbq : Blk ((w.alloc (.cells #[.int .i64 C, .int .i64 R, .int .i64 B, .int .i64 F, .slice A cl.length cap] 24)).alloc (.cells #[.slice E st.length eap, .slice G cuts.length gap] 56)) (w.heap.size + 1) 56 #[.slice E st.length eap, .slice G cuts.length gap] := Blk.newAt (by simp)
  have hr1 := hr.behind hb0
  have hl1 := hl.behind hb0
  by_cases he : holesErr C R B F cl l = 0
  case neg =>
    have hn1 : (holesErr C R B F cl l == 0) = false := by simpa using he
    have hn2 : (holesErr C R B F cl l != 0) = true := by simpa using he
    have hres : ckFew C R B F cl l st cuts = holesErr C R B F cl l := if_pos he
    rw [hres]
    clear hres he
    go_enter Try.func40, Try.ntmps40
    go_wp2_with (first
      | (go_at_call 79; refine (wanted_any C R B F A cap cl D dap l _ hcl hll hr1 hl1).mono ?_; rintro e w1 ⟨rfl, hb1⟩))
    go_ret
    exact ⟨rfl, below_next hb0 (by simp; omega) hb1⟩
  case pos =>
    have hk := holesErr_zero.1 he
    have hok := hk.ok
    have k1 := hok.c3
    have k2 := hok.c120
    have k3 := hok.b0
    have k4 := hok.f0
    have k5 := hok.bf
    have hpos : Hid (∀ x ∈ l, 0 ≤ x) := fun x hx => (hk.all x hx).1
    have HE := Lib.hid he
    have hres : ckFew C R B F cl l st cuts = (if 200 < st.length ∨ 200 < cuts.length then 2 else if ∃ c ∈ cuts, 200 < c.2.length then 2 else if roundOk C B F cl (colsTo (isIn (colm C l)) C.toNat) st cuts = true then 0 else 8) := if_neg (by simp [he])
    rw [hres]
    clear hres he hk hok
    by_cases c1 : 200 < st.length
    · have e1 : (200 : Int) < ((st.length : Nat) : Int) := by omega
      have e2 : decide ((200 : Int) < ((st.length : Nat) : Int)) = true := decide_eq_true e1
      rw [if_pos (.inl c1)]
      go_enter Try.func40, Try.ntmps40
      go_wp2_with (first
        | (go_at_call 79; refine (wanted_any C R B F A cap cl D dap l _ hcl hll hr1 hl1).mono ?_; rw [HE.out]; rintro e w1 ⟨rfl, hb1⟩; have d5 := (hbq.below hb1 (by simp)).cell 0; have d6 := (hbq.below hb1 (by simp)).cell 1))
      go_ret
      exact ⟨rfl, below_next hb0 (by simp; omega) hb1⟩
    have e1 : ¬ (200 : Int) < ((st.length : Nat) : Int) := by omega
    have e2 : decide ((200 : Int) < ((st.length : Nat) : Int)) = false := decide_eq_false e1
    by_cases c2 : 200 < cuts.length
    · have e3 : (200 : Int) < ((cuts.length : Nat) : Int) := by omega
      have e4 : decide ((200 : Int) < ((cuts.length : Nat) : Int)) = true := decide_eq_true e3
      rw [if_pos (.inr c2)]
      go_enter Try.func40, Try.ntmps40
      go_wp2_with (first
        | (go_at_call 79; refine (wanted_any C R B F A cap cl D dap l _ hcl hll hr1 hl1).mono ?_; rw [HE.out]; rintro e w1 ⟨rfl, hb1⟩; have d5 := (hbq.below hb1 (by simp)).cell 0; have d6 := (hbq.below hb1 (by simp)).cell 1))
      go_ret
      exact ⟨rfl, below_next hb0 (by simp; omega) hb1⟩
    have e3 : ¬ (200 : Int) < ((cuts.length : Nat) : Int) := by omega
    have e4 : decide ((200 : Int) < ((cuts.length : Nat) : Int)) = false := decide_eq_false e3
    rw [if_neg (by omega)]
    generalize hres : (if ∃ c ∈ cuts, 200 < c.2.length then (2 : Int) else if roundOk C B F cl (colsTo (isIn (colm C l)) C.toNat) st cuts = true then 0 else 8) = res
    have HR := Lib.hid hres
    clear hres
    go_enter Try.func40, Try.ntmps40
    go_wp2_with (first
      | (go_at_call 79; refine (wanted_any C R B F A cap cl D dap l _ hcl hll hr1 hl1).mono ?_; rw [HE.out]; rintro e w1 ⟨rfl, hb1⟩; have hbk1 := hbk.below hb1 (by simp; omega); have hbq1 := hbq.below hb1 (by simp); have d5 := hbq1.cell 0; have d6 := hbq1.cell 1))
    have hba : Below w.heap.size w w1 := below_next hb0 (by simp; omega) hb1
    clear hbk hbq hb0 hb1 hr1 hl1
    go_loopw [8] (fun i wr => ∃ k : Nat, k ≤ cuts.length ∧ i = .int .i64 k ∧ Hid (∀ c ∈ cuts.take k, c.2.length ≤ 200) ∧ Below w1.heap.size w1 wr)
      (fun i _ => cuts.length - (intOf i).toNat)
    case atStart => exact ⟨0, Nat.zero_le _, rfl, by simp [Hid], Below.refl _ _⟩
    case round =>
      obtain ⟨k, hk, rfl, hall, hb⟩ := hrel
      have hbw := below_next hba hba.size hb
      have hbqr := hbq1.below hb hbq1.lt
      have hbkr := hbk1.below hb hbk1.lt
      clear d5 d6
      have d5 := hbqr.cell 0
      have d6 := hbqr.cell 1
      by_cases hlt : k < cuts.length
      · obtain ⟨ad, T, tap, hG, hadb, hc0, hc1, hT⟩ := (hg.below hbw).get hlt
        subst hG
        have hlt2 : (k : Int) < (cuts.length : Int) := by omega
        have hcm := hcc _ (List.getElem_mem hlt)
        by_cases hx : 200 < cuts[k].2.length
        · have hn : Hid (res = 2) := by unfold Hid; rw [← HR.out]; exact if_pos ⟨_, List.getElem_mem hlt, hx⟩
          have f1 : (200 : Int) < ((cuts[k].2.length : Nat) : Int) := by omega
          have f2 : decide ((200 : Int) < ((cuts[k].2.length : Nat) : Int)) = true := decide_eq_true f1
          clear hall hx hT hc0
          generalize cuts[k].2.length = nn at *
          go_wp2_with fail
          go_ret
          exact ⟨by rw [hn.out]; rfl, hbw⟩
        · have hn : Hid (∀ c ∈ cuts.take (k + 1), c.2.length ≤ 200) := by
            intro c hc
            rw [List.take_succ_eq_append_getElem hlt] at hc
            rcases List.mem_append.1 hc with h | h
            · exact hall.out c h
            · rw [List.mem_singleton.1 h]; omega
          have f1 : ¬ (200 : Int) < ((cuts[k].2.length : Nat) : Int) := by omega
          have f2 : decide ((200 : Int) < ((cuts[k].2.length : Nat) : Int)) = false := decide_eq_false f1
          clear hall hx hT hc0
          generalize cuts[k].2.length = nn at *
          go_wp2_with fail
          go_roundw
          case rel => exact ⟨k + 1, by omega, by go_num, hn, hb⟩
          case measure => simp [intOf]; try omega
      · have hall2 : Hid (∀ c ∈ cuts, c.2.length ≤ 200) := by have := hall.out; rwa [List.take_of_length_le (by omega)] at this
        have HR2 : Hid ((if roundOk C B F cl (colsTo (isIn (colm C l)) C.toNat) st cuts = true then 0 else 8) = res) := by
          unfold Hid; rw [← HR.out]
          refine (if_neg ?_).symm
          rintro ⟨c, h1, h2⟩
          have := hall2.out c h1
          omega
        clear HR hall
        have hlr := (hl.below hbw).more hbw.size
        have hrr := (hr.below hbw).more hbw.size
        have hsr := (hs.below hbw).more hbw.size
        have hclen : (colsTo (isIn (colm C l)) C.toNat).length ≤ C.toNat := colsTo_len _ _
        generalize hcsq : colsTo (isIn (colm C l)) C.toNat = cs at HR2 hclen
        have HCS : Hid (colsTo (isIn (colm C l)) C.toNat = cs) := hcsq
        clear hcsq
        obtain ⟨d0, d1, d2, d3, d4⟩ := hbkr.five
        go_wp2_with (first
          | (go_at_call 80; refine (refColumns_any C R B F _ D dap l _ (by omega) k2 hll hpos.out hlr).mono ?_; rw [HCS.out]; rintro e w2 ⟨S, sap, rfl, s1, s2, s3, hb2⟩; have hbk2 := hbkr.below hb2 hbkr.lt; have hbq2 := hbqr.below hb2 hbqr.lt; obtain ⟨f0, f1, f2, f3, f4⟩ := hbk2.five; have f5 := hbq2.cell 0; have f6 := hbq2.cell 1))
        have hbx : Below w.heap.size w w2 := below_next hbw hbw.size hb2
        have hrx := hrr.behind hb2
        have hsx := hsr.behind hb2
        clear d0 d1 d2 d3 d4 d5 d6 hbkr hbqr
        by_cases hstd : Rise C st ∧ ∀ x ∈ st, x ∉ cl
        case neg =>
          have D1 : Hid (decide (Rise C st ∧ ∀ x ∈ st, x ∉ cl) = false) := decide_eq_false hstd
          have hn : Hid (res = 8) := by unfold Hid; rw [← HR2.out, if_neg]; unfold roundOk; rw [D1.out]; simp
          clear hstd HR2
          go_wp2_with (first
            | (go_at_call 90; refine (standing_any C R B F A cap cl E eap st _ (by omega) k2 hcl hst hrx hsx).mono ?_; rw [D1.out]; rintro e w3 ⟨rfl, hb3⟩))
          go_ret
          exact ⟨by rw [hn.out]; rfl, below_next hbx hbx.size hb3⟩
        case pos =>
          have D1 : Hid (decide (Rise C st ∧ ∀ x ∈ st, x ∉ cl) = true) := decide_eq_true hstd
          have hsm : ∀ x ∈ st, 0 ≤ x ∧ x < C := hstd.1.2
          clear hstd
          go_wp2_with (first
            | (go_at_call 90; refine (standing_any C R B F A cap cl E eap st _ (by omega) k2 hcl hst hrx hsx).mono ?_; rw [D1.out]; rintro e w3 ⟨rfl, hb3⟩; have hbk3 := hbk2.below hb3 hbk2.lt; have hbq3 := hbq2.below hb3 hbq2.lt; obtain ⟨g0, g1, g2, g3, g4⟩ := hbk3.five; have g5 := hbq3.cell 0; have g6 := hbq3.cell 1))
          have hby : Below w.heap.size w w3 := below_next hbx hbx.size hb3
          have hcs3 := s3.behind hb3
          have hss3 := hsx.behind hb3
          have hrx3 := hrx.behind hb3
          clear f0 f1 f2 f3 f4 f5 f6 hbk2 hbq2
          obtain ⟨lf, hlf⟩ : ∃ lf, (cs.filter fun x => !anyR C B F st x) = lf := ⟨_, rfl⟩
          have HLF : Hid ((cs.filter fun x => !anyR C B F st x) = lf) := hlf
          clear hlf
          by_cases hemp : lf = []
          case neg =>
            have hn : Hid (res = 8) := by
              unfold Hid; rw [← HR2.out, if_neg]; unfold roundOk; rw [D1.out, HLF.out]; simp [hemp]
            have hpos2 := List.length_pos_iff.2 hemp
            have p1 : (0 : Int) < ((lf.length : Nat) : Int) := by omega
            have p2 : decide ((0 : Int) < ((lf.length : Nat) : Int)) = true := decide_eq_true p1
            clear hemp HR2
            go_wp2_with (first
              | (go_at_call 83; refine (refLeft_any C R B F _ S sap cs E eap st _ (by omega) k2 k3 k4 k5 (by omega) hst hsm hcs3 hss3).mono ?_; rw [HLF.out]; rintro e w4 ⟨V, vap, rfl, v1, v2, v3, hb4⟩))
            go_ret
            exact ⟨by rw [hn.out]; rfl, below_next hby hby.size hb4⟩
          case pos =>
            have p0 : ((lf.length : Nat) : Int) = 0 := by rw [hemp]; rfl
            have p1 : ¬ (0 : Int) < ((lf.length : Nat) : Int) := by omega
            have p2 : decide ((0 : Int) < ((lf.length : Nat) : Int)) = false := decide_eq_false p1
            have HLE := Lib.hid hemp
            clear p0 hemp
            by_cases hcz : cs = []
            case pos =>
              have q1 : (((cs.length : Nat) : Int) == 0) = true := by rw [hcz]; rfl
              have q2 : ((cs.length : Nat) : Int) = 0 := by rw [hcz]; rfl
              have HR3 : Hid ((if (st.isEmpty && cuts.isEmpty) = true then 0 else 8) = res) := by
                unfold Hid; rw [← HR2.out]; unfold roundOk; rw [D1.out, HLF.out, HLE.out, hcz]; rfl
              clear HR2
              by_cases hsz : 0 < st.length
              · have hn : Hid (res = 8) := by
                  unfold Hid; rw [← HR3.out, if_neg]; simp; intro h; rw [h] at hsz; simp at hsz
                have u1 : (0 : Int) < ((st.length : Nat) : Int) := by omega
                have u2 : decide ((0 : Int) < ((st.length : Nat) : Int)) = true := decide_eq_true u1
                have u9 : ¬ st = [] := List.length_pos_iff.1 hsz
                clear hcz q2 hsz
                go_wp2_with (first
                  | (go_at_call 83; refine (refLeft_any C R B F _ S sap cs E eap st _ (by omega) k2 k3 k4 k5 (by omega) hst hsm hcs3 hss3).mono ?_; rw [HLF.out]; rintro e w4 ⟨V, vap, rfl, v1, v2, v3, hb4⟩; have hbq4 := hbq3.below hb4 hbq3.lt; have g7 := hbq4.cell 0; have g8 := hbq4.cell 1))
                go_ret
                exact ⟨by rw [hn.out]; rfl, below_next hby hby.size hb4⟩
              · have z1 : st = [] := List.eq_nil_of_length_eq_zero (by omega)
                subst z1
                by_cases hcuz : 0 < cuts.length
                · have hn : Hid (res = 8) := by
                    unfold Hid; rw [← HR3.out, if_neg]; simp; intro h; rw [h] at hcuz; simp at hcuz
                  have u3 : (0 : Int) < ((cuts.length : Nat) : Int) := by omega
                  have u4 : decide ((0 : Int) < ((cuts.length : Nat) : Int)) = true := decide_eq_true u3
                  have u9 : ¬ cuts = [] := List.length_pos_iff.1 hcuz
                  clear hcz q2 hsz hcuz
                  go_wp2_with (first
                    | (go_at_call 83; refine (refLeft_any C R B F _ S sap cs E eap ([] : List Int) _ (by omega) k2 k3 k4 k5 (by omega) (by simp) (by simp) hcs3 Ints.nil).mono ?_; rw [HLF.out]; rintro e w4 ⟨V, vap, rfl, v1, v2, v3, hb4⟩; have hbq4 := hbq3.below hb4 hbq3.lt; have g7 := hbq4.cell 0; have g8 := hbq4.cell 1))
                  go_ret
                  exact ⟨by rw [hn.out]; rfl, below_next hby hby.size hb4⟩
                · have z2 : cuts = [] := List.eq_nil_of_length_eq_zero (by omega)
                  subst z2
                  have hn : Hid (res = 0) := by
                    unfold Hid; rw [← HR3.out]; rfl
                  clear hcz q2 hsz hcuz
                  go_wp2_with (first
                    | (go_at_call 83; refine (refLeft_any C R B F _ S sap cs E eap ([] : List Int) _ (by omega) k2 k3 k4 k5 (by omega) (by simp) (by simp) hcs3 Ints.nil).mono ?_; rw [HLF.out]; rintro e w4 ⟨V, vap, rfl, v1, v2, v3, hb4⟩; have hbq4 := hbq3.below hb4 hbq3.lt; have g7 := hbq4.cell 0; have g8 := hbq4.cell 1))
                  go_ret
                  exact ⟨by rw [hn.out]; rfl, below_next hby hby.size hb4⟩
            case neg =>
              have hcpos := List.length_pos_iff.2 hcz
              obtain ⟨c, hc0⟩ : ∃ c, cs[0]? = some c := ⟨_, List.getElem?_eq_getElem hcpos⟩
              have q1 : (((cs.length : Nat) : Int) == 0) = false := by simp; omega
              have q2 : ¬ ((cs.length : Nat) : Int) = 0 := by omega
              have q3 : (0 : Int) < ((cs.length : Nat) : Int) := by omega
              have HR3 : Hid ((if (decide (cuts.length = (rstL C B F cl c).length) && ((rstL C B F cl c).zip cuts).all (cutOk C B F cl cs st.length)) = true then 0 else 8) = res) := by
                unfold Hid; rw [← HR2.out]; unfold roundOk; rw [D1.out, HLF.out, HLE.out]
                cases cs with
                | nil => exact absurd rfl hcz
                | cons a b => cases hc0; rfl
              have hfm : Hid (∀ x ∈ rstL C B F cl c, 0 ≤ x ∧ x < C) := fun x hx => rstL_mem hx
              have hfl := rstL_len C B F cl c
              have hrs : Hid (∀ W, Ints W W.heap.size A cl → Calls Try.prog 69 #[.agg #[.int .i64 C, .int .i64 R, .int .i64 B, .int .i64 F, .slice A cl.length cap], .int .i64 c] W (RetInts W (rstL C B F cl c))) := fun W hW => refStands_any C R B F A cap cl c W (by omega) k2 k3 k4 k5 hcl hW
              generalize rstL C B F cl c = fs at HR3 hfm hfl hrs
              clear HR2 hcz
              go_wp2_with (first
                | (go_at_call 83; refine (refLeft_any C R B F _ S sap cs E eap st _ (by omega) k2 k3 k4 k5 (by omega) hst hsm hcs3 hss3).mono ?_; rw [HLF.out]; rintro e w4 ⟨V, vap, rfl, v1, v2, v3, hb4⟩; have hbk4 := hbk3.below hb4 hbk3.lt; have hbq4 := hbq3.below hb4 hbq3.lt))
              have hbz : Below w.heap.size w w4 := below_next hby hby.size hb4
              obtain ⟨ac, hS, hacb, hcc0⟩ := (hcs3.behind hb4) 0 c hc0
              subst hS
              have hcc1 : w4.cell? ac = some (.int .i64 c) := hcc0
              have hrX : ∀ W : World, Below w4.heap.size w4 W → Ints W W.heap.size A cl := fun W hW => (hrx3.behind hb4).behind hW
              clear hcc0 g0 g1 g2 g3 g4 g5 g6 hbk3 hbq3
              obtain ⟨d0, d1, d2, d3, d4⟩ := hbk4.five
              go_region_held3 (fun w' => w'.cell? ⟨w.heap.size, 0, none⟩ = some (.int .i64 C) ∧ w'.cell? ⟨w.heap.size, 1, none⟩ = some (.int .i64 R) ∧ w'.cell? ⟨w.heap.size, 2, none⟩ = some (.int .i64 B) ∧ w'.cell? ⟨w.heap.size, 3, none⟩ = some (.int .i64 F) ∧ w'.cell? ⟨w.heap.size, 4, none⟩ = some (.slice A cl.length cap) ∧ w'.cell? ac = some (.int .i64 c)) (first | exact K1 | exact ⟨d0, d1, d2, d3, d4, hcc1⟩)
                (first
                  | (go_at_call 69; refine (hrs.out _ ?_).mono ?_; (exact hrX _ (Below.refl _ _).drew); rintro e w5 ⟨T, tap, rfl, t1, t2, t3, hb5⟩; obtain ⟨q1', q2'⟩ := bcell hb5; have K1 : w5.cell? ⟨w.heap.size, 0, none⟩ = some (.int .i64 C) ∧ w5.cell? ⟨w.heap.size, 1, none⟩ = some (.int .i64 R) ∧ w5.cell? ⟨w.heap.size, 2, none⟩ = some (.int .i64 B) ∧ w5.cell? ⟨w.heap.size, 3, none⟩ = some (.int .i64 F) ∧ w5.cell? ⟨w.heap.size, 4, none⟩ = some (.slice A cl.length cap) ∧ w5.cell? ac = some (.int .i64 c) := ⟨(q1' _ _ hbk4.lt).trans d0, (q1' _ _ hbk4.lt).trans d1, (q1' _ _ hbk4.lt).trans d2, (q1' _ _ hbk4.lt).trans d3, (q1' _ _ hbk4.lt).trans d4, (hb5.cell (p := ac) (World.block_lt_of_cell? _ _ hcc1)).trans hcc1⟩))
              have hb5' : Below w4.heap.size w4 w5 := (Below.refl _ _).drew.trans hb5
              have hbu : Below w.heap.size w w5 := below_next hbz hbz.size hb5'
              have hbk5 := hbk4.below hb5' hbk4.lt
              have hbq5 := hbq4.below hb5' hbq4.lt
              have hcs5 := (hcs3.behind hb4).behind hb5'
              clear d0 d1 d2 d3 d4 hcc1 K1 hbk4 hbq4
              have d5 := hbq5.cell 0
              have d6 := hbq5.cell 1
              by_cases hlen : cuts.length = fs.length
              case neg =>
                have hn : Hid (res = 8) := by unfold Hid; rw [← HR3.out, if_neg]; simp [hlen]
                have x1 : (((cuts.length : Nat) : Int) != ((fs.length : Nat) : Int)) = true := by simp; omega
                have x2 : ¬ ((cuts.length : Nat) : Int) = ((fs.length : Nat) : Int) := by omega
                clear HR3 hlen
                go_wp2_with fail
                go_ret
                exact ⟨by rw [hn.out]; rfl, hbu⟩
              case pos =>
                have x1 : (((cuts.length : Nat) : Int) != ((fs.length : Nat) : Int)) = false := by simp; omega
                have HLEN := Lib.hid hlen
                have hfl2 : fs.length ≤ 200 := by omega
                clear hlen
                go_wp2_with fail
                clear d5 d6 x1
                go_loopw [10, 12, 13] (fun _ i _ w6 => ∃ j : Nat, j ≤ fs.length ∧ i = .int .i64 j ∧ Hid (((fs.zip cuts).take j).all (cutOk C B F cl cs st.length) = true) ∧ Below w5.heap.size w5 w6)
                  (fun _ i _ _ => fs.length - (intOf i).toNat)
                case atStart => exact ⟨0, Nat.zero_le _, rfl, rfl, Below.refl _ _⟩
                case round =>
                  obtain ⟨j, hj, rfl, hall3, hb6⟩ := hrel
                  have hbv := below_next hbu hbu.size hb6
                  have hbk6 := hbk5.below hb6 hbk5.lt
                  have hbq6 := hbq5.below hb6 hbq5.lt
                  have d5 := hbq6.cell 0
                  have d6 := hbq6.cell 1
                  obtain ⟨d0, d1, d2, d3, d4⟩ := hbk6.five
                  have hlt0 := hbk6.lt
                  have hlt1 := hbq6.lt
                  by_cases hjl : j < fs.length
                  · have hjc : j < cuts.length := by rw [HLEN.out]; exact hjl
                    obtain ⟨ad, T2, tap2, hG, hadb, hc0', hc1', hT⟩ := (hg.below hbv).get hjc
                    subst hG
                    obtain ⟨af, hT', hafb, hcf⟩ := (t3.below hb6).get hjl
                    subst hT'
                    have hjl2 : (j : Int) < (fs.length : Int) := by omega
                    have hjc2 : (j : Int) < (cuts.length : Int) := by omega
                    have hfj := hfm.out _ (List.getElem_mem hjl)
                    have hcm := hcc _ (List.getElem_mem hjc)
                    have HZ : Hid (cutOk C B F cl cs st.length (fs[j], cuts[j]) = false → res = 8) := fun h => by
                      rw [← HR3.out, if_neg]; rw [zip_no hjl hjc h]; simp
                    have HW : Hid (cutOk C B F cl cs st.length (fs[j], cuts[j]) = true → ((fs.zip cuts).take (j + 1)).all (cutOk C B F cl cs st.length) = true) := fun h => zip_next hjl hjc hall3.out h
                    obtain ⟨f, hf⟩ : ∃ f, fs[j] = f := ⟨_, rfl⟩
                    obtain ⟨cc, hccq⟩ : ∃ cc, cuts[j] = cc := ⟨_, rfl⟩
                    rw [hf] at hcf hfj HZ HW
                    rw [hccq] at hc0' hc1' hT hcm HZ HW
                    obtain ⟨cs1, cl1⟩ := cc
                    simp only at hc0' hc1' hT hcm
                    clear hf hccq hall3
                    have hTv := hT.more hbv.size
                    by_cases hc1x : cs1 = f
                    case neg =>
                      have y1 : (cs1 != f) = true := by simpa using hc1x
                      have hn : Hid (res = 8) := HZ.out (by simp [cutOk, hc1x])
                      clear HZ HW hc1x
                      go_wp2_with fail
                      have hbc := Blk.new wr 104 #[.int .i64 cs1, .slice T2 cl1.length tap2]
                      have e0 := hbc.cell 0
                      have e1' := hbc.cell 1
                      have hb7 := below_new wr (.cells #[.int .i64 cs1, .slice T2 cl1.length tap2] 104)
                      have hcf2 := (hb7.cell (p := af.add j) (World.block_lt_of_cell? _ _ hcf)).trans hcf
                      go_quiet (fail)
                      go_wp2_with fail
                      go_ret
                      exact ⟨by rw [hn.out]; rfl, below_drewN (hbv.alloc hbv.size _) _⟩
                    case pos =>
                      subst hc1x
                      have y1 : (cs1 != cs1) = false := by simp
                      by_cases hln : ((cl1.length : Nat) : Int) = ((st.length : Nat) : Int) - 1
                      case neg =>
                        have y2 : (((cl1.length : Nat) : Int) != ((st.length : Nat) : Int) - 1) = true := by simpa using hln
                        have hn : Hid (res = 8) := HZ.out (by simp [cutOk, hln])
                        clear HZ HW
                        go_wp2_with fail
                        have hbc := Blk.new wr 104 #[.int .i64 cs1, .slice T2 cl1.length tap2]
                        have e0 := hbc.cell 0
                        have e1' := hbc.cell 1
                        have hb7 := below_new wr (.cells #[.int .i64 cs1, .slice T2 cl1.length tap2] 104)
                        have hcf2 := (hb7.cell (p := af.add j) (World.block_lt_of_cell? _ _ hcf)).trans hcf
                        go_quiet (fail)
                        go_wp2_with fail
                        go_ret
                        exact ⟨by rw [hn.out]; rfl, below_drewN (hbv.alloc hbv.size _) _⟩
                      case pos =>
                        have y2 : (((cl1.length : Nat) : Int) != ((st.length : Nat) : Int) - 1) = false := by simpa using hln
                        have HLN := Lib.hid hln
                        have hres3 : cutOk C B F cl cs st.length (cs1, (cs1, cl1)) = apartB C B F cl cs cs1 cl1 := by simp [cutOk, hln]
                        rw [hres3] at HZ HW
                        clear hres3 hln
                        have hAP : Hid (∀ W, Ints W W.heap.size A cl → Ints W W.heap.size (some ac) cs → Ints W W.heap.size T2 cl1 → Calls Try.prog 91 #[.agg #[.int .i64 C, .int .i64 R, .int .i64 B, .int .i64 F, .slice A cl.length cap], .slice (some ac) cs.length sap, .int .i64 cs1, .slice T2 cl1.length tap2] W fun e w' => e = .returned (.bool (apartB C B F cl cs cs1 cl1)) ∧ Below W.heap.size W w') := fun W q1 q2 q3 => apart_any C R B F A cap cl (some ac) sap cs cs1 T2 tap2 cl1 W (by omega) k2 hfj.1 hfj.2 k3 k4 k5 hcl (by omega) hcm q1 q2 q3
                        have hrA : Ints wr wr.heap.size A cl := (hr.below hbv).more hbv.size
                        have hrC : Ints wr wr.heap.size (some ac) cs := hcs5.behind hb6
                        cases hap : apartB C B F cl cs cs1 cl1 with
                        | false =>
                          have hn : Hid (res = 8) := HZ.out hap
                          have HAP := Lib.hid hap
                          clear HZ HW hap
                          go_wp2_with fail
                          have hbc := Blk.new wr 104 #[.int .i64 cs1, .slice T2 cl1.length tap2]
                          have e0 := hbc.cell 0
                          have e1' := hbc.cell 1
                          have hb7 := below_new wr (.cells #[.int .i64 cs1, .slice T2 cl1.length tap2] 104)
                          have hcf2 := (hb7.cell (p := af.add j) (World.block_lt_of_cell? _ _ hcf)).trans hcf
                          go_quiet (fail)
                          go_wp2_with (first
                            | (go_at_call 91; refine (hAP.out _ (hrA.behind (below_drewN hb7 _)) (hrC.behind (below_drewN hb7 _)) (hTv.behind (below_drewN hb7 _))).mono ?_; rw [HAP.out]; rintro e w8 ⟨rfl, hb8⟩))
                          go_ret
                          exact ⟨by rw [hn.out]; rfl, below_next (below_drewN (hbv.alloc hbv.size _) _) (Nat.le_trans hbv.size (below_drewN hb7 _).size) hb8⟩
                        | true =>
                          have hn := Lib.hid (HW.out hap)
                          have HAP := Lib.hid hap
                          clear HZ HW hap
                          go_wp2_with fail
                          have hbc := Blk.new wr 104 #[.int .i64 cs1, .slice T2 cl1.length tap2]
                          have e0 := hbc.cell 0
                          have e1' := hbc.cell 1
                          have hb7 := below_new wr (.cells #[.int .i64 cs1, .slice T2 cl1.length tap2] 104)
                          have hcf2 := (hb7.cell (p := af.add j) (World.block_lt_of_cell? _ _ hcf)).trans hcf
                          go_quiet (fail)
                          go_wp2_with (first
                            | (go_at_call 91; refine (hAP.out _ (hrA.behind (below_drewN hb7 _)) (hrC.behind (below_drewN hb7 _)) (hTv.behind (below_drewN hb7 _))).mono ?_; rw [HAP.out]; rintro e w8 ⟨rfl, hb8⟩))
                          go_roundw
                          case rel => exact ⟨j + 1, by omega, by go_num, hn.out, below_next (below_drewN (hb6.alloc hb6.size _) _) (Nat.le_trans hb6.size (below_drewN hb7 _).size) hb8⟩
                          case measure => simp [intOf]; try omega
                  · have hn : Hid (res = 0) := by
                      unfold Hid; rw [← HR3.out]
                      have h := hall3.out
                      rw [List.take_of_length_le (by simp; omega)] at h
                      rw [h, decide_eq_true HLEN.out]; rfl
                    go_wp2_with fail
                    go_ret
                    exact ⟨by rw [hn.out]; rfl, hbv⟩

end Go.Proofs.Ytnjmkdgglpcfpaa
