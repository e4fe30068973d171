/- Compilation: the contracts of stage 15's exact laws. No condition. -/
import Derived.Test.YtbbdmgomcpmhpaaProg
import Derived.Test.YtbbdmgomcpmhpaaCQ
namespace Go.Proofs.Ytbbdmgomcpmhpaa
open Go Go.RowKit
theorem wordsI_len (zs : List Int) : (wordsI zs).length ≤ zs.length := by
  unfold wordsI
  split
  · rw [words4_length]
    omega
  · simp
theorem runC_len (z : List Int) (n : Nat) (os : List Int) (I : List (List Int)) : (runC z n os I).length ≤ os.length := by
  unfold runC
  split
  · rename_i h
    rw [words4_length, evC, if_pos h.2.2, outV_length]
    omega
  · simp
theorem ex_impl_RunCircuit (A0 : Option Addr) (n0 c0 : Nat) (z0 : List Int) (A1 : Option Addr) (n1 c1 : Nat) (z1 : List Int) (A : Option Addr) (n c : Nat) (I : List (List Int)) (w : World) (h0 : Ints w A0 z0) (l0 : z0.length = n0 * 3) (m0 : n0 ≤ 2000000) (h1 : Ints w A1 z1) (l1 : z1.length = n1) (m1 : n1 ≤ 2000000) (h2 : Rows w.heap.size w A I) (l2 : I.length = n) (hn : n ≤ 1999999) :
    Calls Try.prog 19 #[.agg #[.slice A0 n0 c0, .slice A1 n1 c1], .slice A n c] w (Post_A_bool (runC z0 n0 z1 I) (decide (runsC z0 n0 z1 I)) w) := impl_RunCircuit A0 n0 c0 z0 A1 n1 c1 z1 A n c I w h0 l0 m0 h1 l1 m1 h2 l2 hn
theorem ex_spec_RunCircuit (A0 : Option Addr) (n0 c0 : Nat) (z0 : List Int) (A1 : Option Addr) (n1 c1 : Nat) (z1 : List Int) (A : Option Addr) (n c : Nat) (I : List (List Int)) (w : World) (h0 : Ints w A0 z0) (l0 : z0.length = n0 * 3) (m0 : n0 ≤ 2000000) (h1 : Ints w A1 z1) (l1 : z1.length = n1) (m1 : n1 ≤ 2000000) (h2 : Rows w.heap.size w A I) (l2 : I.length = n) (hn : n ≤ 1999999) :
    Calls Try.prog 16 #[.agg #[.slice A0 n0 c0, .slice A1 n1 c1], .slice A n c] w (Post_A_bool (runC z0 n0 z1 I) (decide (runsC z0 n0 z1 I)) w) := spec_RunCircuit A0 n0 c0 z0 A1 n1 c1 z1 A n c I w h0 l0 m0 h1 l1 m1 h2 l2 hn
end Go.Proofs.Ytbbdmgomcpmhpaa
