/- The draws of words, and the laws Mixing and Xor. -/
import Derived.Test.YtfpcjgolcbjnjaaProg
import Derived.Test.YtfpcjgolcbjnjaaWords
import Derived.Test.YtfpcjgolcbjnjaaB1
namespace Go.Proofs.Ytfpcjgolcbjnjaa
open Go Go.RowKit
theorem l02Word_any (B g : Nat) (w : World) (hc : Cur 95 B w g) :
    Calls Try.prog 80 #[.pointer (some ⟨g, 0, none⟩)] w (Drawn 95 B g isWord w) := by
  go_enter Try.func80, Try.ntmps80
  go_wp2_with fail
  refine (l01Below_any B g 4 w hc).mono ?_
  rintro e w1 ⟨x, rfl, ⟨_, hx⟩, hc1, hg1⟩
  obtain ⟨hx0, hx1⟩ := hx (by omega)
  clear hx
  by_cases h0 : x = 0
  · subst h0
    go_wp2_with fail
    refine (l01PickInt_any B g w1.heap.size 0 5 5 isWord _ (hc1.alloc _) (by omega) (by omega) (by have := hc1.lt; omega) (by simp)
      (cells_new w1 [0, 1, 4294967295, 2147483648, 65536] _ isWord (fun x hx => by simp at hx; unfold isWord; omega))).mono ?_
    rintro e w2 ⟨y, rfl, hy, hc2, hg2⟩
    go_wp2_with fail
    go_ret
    exact ⟨_, rfl, hy, hc2, (hg1.trans (World.grownBy_alloc w1 _ _)).trans hg2⟩
  · have e0 : (x == 0) = false := beq_eq_false_iff_ne.2 h0
    by_cases h1 : x = 1
    · subst h1
      go_wp2_with fail
      refine (l01Below_any B g 200 w1 hc1).mono ?_
      rintro e w2 ⟨y, rfl, ⟨_, hy⟩, hc2, hg2⟩
      obtain ⟨hy0, hy1⟩ := hy (by omega)
      go_wp2_with fail
      go_ret
      exact ⟨_, rfl, by unfold isWord; omega, hc2, hg1.trans hg2⟩
    · have e1 : (x == 1) = false := beq_eq_false_iff_ne.2 h1
      go_wp2_with fail
      refine (l01Below_any B g 65536 w1 hc1).mono ?_
      rintro e w2 ⟨y, rfl, ⟨_, hy⟩, hc2, hg2⟩
      obtain ⟨hy0, hy1⟩ := hy (by omega)
      clear hy
      go_wp2_with fail
      refine (l01Below_any B g 65536 w2 hc2).mono ?_
      rintro e w3 ⟨z, rfl, ⟨_, hz⟩, hc3, hg3⟩
      obtain ⟨hz0, hz1⟩ := hz (by omega)
      clear hz
      go_wp2_with fail
      go_ret
      exact ⟨_, rfl, by unfold isWord; omega, hc3, (hg1.trans hg2).trans hg3⟩
end Go.Proofs.Ytfpcjgolcbjnjaa
