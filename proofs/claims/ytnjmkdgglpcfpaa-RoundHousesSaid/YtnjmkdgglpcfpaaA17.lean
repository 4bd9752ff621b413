import Derived.Test.YtnjmkdgglpcfpaaA15
import Derived.Test.YtnjmkdgglpcfpaaA16
import Derived.Sort.OwnSortedInts
import Derived.Lib.OwnBridge
namespace Go.Proofs.Ytnjmkdgglpcfpaa
open Go.RowKit Go.Sort

theorem sort_any : Hid SortSaid := by
  intro base A c zs W hbase hlen hown
  by_cases hn : zs = []
  · subst hn
    refine (Try.slices_Sort_int_none A c W).mono ?_
    rintro e w' ⟨rfl, rfl⟩
    have e0 : srt [] = [] := by simp [srt]
    rw [e0]
    exact ⟨rfl, hown, Below.refl _ _⟩
  · rcases hown.2 with ⟨_, h0⟩ | ⟨g, cap, cur, hv, hb, hg, h1, h2, h3, h4⟩
    · exact absurd (List.eq_nil_of_length_eq_zero h0) hn
    · cases hv
      have hH := holds_of_blockI (ss := zs) hg (by simpa using h4)
      refine (Try.slices_Sort_int g 0 c zs W hH (Array.getElem?_eq_some_iff.1 hg).1 (by omega)).mono ?_
      rintro e w' ⟨rfl, n, os, rfl⟩
      have hl : (srt zs).length = zs.length := srt_len zs
      have := ownsRow_sortedI (n := n) (os := os) (ts := srt zs) hl hb hg h1 h2 h3
      exact ⟨rfl, by rw [hl]; exact this, (Below.refl _ _).grown (grownBy_sortedI _) hbase (fun j hj => by cases hj; exact hb)⟩

end Go.Proofs.Ytnjmkdgglpcfpaa
