/- Compilation: the contracts of the exact law on Compile. No condition. -/
import Derived.Test.YtklekabjhehopaaProg
import Derived.Test.YtklekabjhehopaaCmK
namespace Go.Proofs.Ytklekabjhehopaa
open Go Go.RowKit
theorem cmp_len (ss : List St) : (cmpI ss).1.length ≤ 1900000 * 3 ∧ (cmpI ss).2.length ≤ 1900000 := by
  by_cases h : unrI ss
  · obtain ⟨m, h1, h2, _, h4⟩ := cmp_size h
    omega
  · rw [cmp_none h]
    simp
theorem ex_impl_Compile (A : Option Addr) (n c : Nat) (ss : List St) (w : World) (hr : Ints w A (flat ss)) (hl : ss.length = n) (hn : n ≤ 2000000) :
    Calls Try.prog 11 #[.slice A n c] w (Post_Circuit_bool (cmpI ss).1 (cmpI ss).2 (decide (unrI ss)) w) := impl_Compile A n c ss w hr hl hn
theorem ex_spec_Compile (A : Option Addr) (n c : Nat) (ss : List St) (w : World) (hr : Ints w A (flat ss)) (hl : ss.length = n) (hn : n ≤ 2000000) :
    Calls Try.prog 31 #[.slice A n c] w (Post_Circuit_bool (cmpI ss).1 (cmpI ss).2 (decide (unrI ss)) w) := spec_Compile A n c ss w hr hl hn
end Go.Proofs.Ytklekabjhehopaa
