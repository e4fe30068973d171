/- slices.Clone of a slice of ints: a new list, or nil of nil. No condition. -/
import Derived.Test.YtfpcjgolcbjnjaaProg
import Derived.Test.YtfpcjgolcbjnjaaB1
import Derived.WalkSpells
namespace Go.Proofs.Ytfpcjgolcbjnjaa
open Go Go.RowKit
theorem impl_CloneI (A : Option Addr) (n c : Nat) (xs : List Int) (w : World) (hx : Ints w A xs) (lx : xs.length = n) (mx : n ≤ 2000000) :
    Calls Try.prog 50 #[.slice A n c] w (MadeI xs w) := by
  have hnil := Lib.run_eql_slice_nil (P := Try.prog) w 25 3 A n c 0 0 Try.underlying25
  cases A with
  | none =>
    have hn : n = 0 := by
      rcases Nat.eq_zero_or_pos n with h | h
      · exact h
      · obtain ⟨_, _, e, _⟩ := hx (by omega)
        cases e
    subst hn
    obtain rfl : xs = [] := List.eq_nil_of_length_eq_zero lx
    clear hx
    go_enter Try.func50, Try.ntmps50
    go_wp2_with fail
    go_ret
    exact MadeI.nil_ (Below.refl _ _)
  | some a =>
    have g0 := Grow.empty (Below.refl w.heap.size w)
    have i0 := hx.bound.below g0.low
    have i1 := i0.ints g0.size
    have LX := Lib.hid lx
    clear lx i0 hx
    go_enter Try.func50, Try.ntmps50
    go_wp2_with (first | (at_builtin; refine app_ints elemInt rfl _ _ rfl w.heap.size _ 0 [] rfl g0.own (some a) n c xs rfl i1 LX.out (by unfold maxLen; omega) (by omega) g0.size ?_))
    intro v5 w5 ho5 hg5 _
    have Hg := Lib.hid (g0.app ho5 hg5 (ys := xs) rfl)
    clear ho5 hg5 g0 i1
    go_wp2_with fail
    go_ret
    exact Hg.out.done
end Go.Proofs.Ytfpcjgolcbjnjaa
