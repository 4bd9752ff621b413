import Derived.Test.YtnjmkdgglpcfpaaM7
import Derived.Test.YtnjmkdgglpcfpaaD10
import Derived.Deep.Cut
import Derived.Deep.CutRange
namespace Go.Proofs.Ytnjmkdgglpcfpaa
set_option linter.unusedSimpArgs false
set_option linter.unusedVariables false
open Go.RowKit

theorem one_newD (w : World) (x : Int) : Ints (w.alloc (.cells #[.int .i64 x] 3)) (w.alloc (.cells #[.int .i64 x] 3)).heap.size (some ⟨w.heap.size, 0, none⟩) [x] := fun k y h => by
  match k, h with
  | 0, h =>
    obtain rfl : x = y := by simpa using h
    exact ⟨_, rfl, by simp, (Blk.new w 3 #[.int .i64 x]).cell 0⟩
  | k + 1, h => simp at h
theorem wp_appN {o : Oper} {a : Act} {K : Act → World → Prop} {Q : Exit → Act → World → Prop} {w : World} (s x : Operand)
    (ho : o.op = .call { callee := .builtin .append, args := #[s, x], argTypes := #[22, 22] }) (hty : o.type = 22) (base : Nat) (l m : List Int) (nl n N : Nat) (v : Value) (A : Option Addr) (c : Nat) (B : Nat) (hnl : l.length = nl) (hn : m.length = n) (hN : nl + n = N)
    (hs : a.eval s = v) (hown : w.ownsRow base 3 1 v nl (l.map (Value.int .i64))) (hx : a.eval x = .slice A n c) (hm : Ints w B A m) (hl : nl ≤ 1000000) (hml : n ≤ 1000000) (hbase : base ≤ w.heap.size)
    (h : ∀ A' c' w', w'.ownsRow base 3 1 (.slice A' N c') N ((l ++ m).map (Value.int .i64)) → Below base w w' → w.grownBy w' v.ownBlock → K (a.put o.dst (.slice A' N c')) w') :
    o.wp Try.prog a w K Q := by
  subst hnl hn
  refine wp_appL s x ho hty base l m v A c B hs hown hx hm hl hml hbase fun A' c' w' h1 h2 h3 => ?_
  rw [List.length_append, hN] at h1 ⊢
  exact h A' c' w' h1 h2 h3
theorem own_empty0 {w : World} {g base : Nat} (h : Blk w g 3 #[]) (hb : base ≤ g) : w.ownsRow base 3 1 (.slice (some ⟨g, 0, none⟩) 0 0) 0 (([] : List Int).map (Value.int .i64)) := own_empty h hb
theorem Ints.take {w : World} {B : Nat} {A : Option Addr} {l : List Int} (h : Ints w B A l) (k : Nat) : Ints w B A (l.take k) := fun j y hy => by
  rw [List.getElem?_take] at hy
  split at hy
  · exact h j y hy
  · cases hy
theorem Ints.drop {w : World} {B : Nat} {ad : Addr} {l : List Int} (h : Ints w B (some ad) l) (k : Nat) : Ints w B (some (ad.add k)) (l.drop k) := fun j y hy => by
  rw [List.getElem?_drop] at hy
  obtain ⟨ad', e, hb, hc⟩ := h (k + j) y hy
  cases e
  exact ⟨_, rfl, by rw [addr_block]; exact hb, by rw [addr_add]; exact hc⟩
theorem blk_drew {W : World} {g : Nat} {t : TypeId} {cs : Array Value} (h : Blk W g t cs) : Blk W.drew g t cs := h
theorem blk_one {W : World} {g : Nat} {x : Int} (h : Blk W g 3 #[.int .i64 x]) : Ints W (g + 1) (some ⟨g, 0, none⟩) [x] := fun k y hy => by
  match k, hy with
  | 0, hy =>
    obtain rfl : x = y := by simpa using hy
    exact ⟨_, rfl, by simp, h.cell 0⟩
  | k + 1, hy => simp at hy

end Go.Proofs.Ytnjmkdgglpcfpaa
