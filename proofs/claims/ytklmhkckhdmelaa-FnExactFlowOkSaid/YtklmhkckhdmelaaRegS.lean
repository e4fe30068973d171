/- What the walks of exact laws share where a region draws its order: worlds below worlds, own slices of statements. No condition. -/
import Derived.Test.YtklmhkckhdmelaaProg
import Derived.Test.YtklmhkckhdmelaaPostA
import Derived.Test.YtklmhkckhdmelaaStepA
import Derived.Test.YtklmhkckhdmelaaStmtR
namespace Go.Proofs.Ytklmhkckhdmelaa
open Go Go.RowKit
section
variable {W w w' w1 : World} {A : Option Addr} {zs : List Int}
theorem below_on (hb : Below w.heap.size w w') (h : Below W.heap.size W w) : Below W.heap.size W w' := h.trans (hb.mono h.size)
theorem below_up (hb : Below w.heap.size w w') (h : Below w1.heap.size w1 w) : Below w1.heap.size w1 w' := h.trans (hb.mono h.size)
theorem ints_on (h : IntsB w1.heap.size W A zs) (low : Below w1.heap.size w1 W) (hL : Below W.heap.size W w) : Ints w A zs := (h.below (hL.mono low.size)).ints (Nat.le_trans low.size hL.size)
theorem ints_drew (h : IntsB w1.heap.size W A zs) (low : Below w1.heap.size w1 W) : Ints W.drew A zs := h.ints low.size
theorem ints_to (h : Ints W A zs) (hL : Below W.heap.size W w) : Ints w A zs := Ints.below h hL
theorem Ints.al (h : Ints w A zs) (o : Obj) : Ints (w.alloc o) A zs := h.below (below_alloc w o)
end
theorem toIntS_ownA (A : Option Addr) (n c : Nat) (zs : List Int) (w : World) (hr : Ints w A zs) (hl : zs.length = n) (hn : n ≤ 2000000) :
    Calls Try.prog 33 #[.slice A n c] w fun e w' => ∃ A', e = .returned (.slice A' n n) ∧ OwnA 1 w.heap.size w'.heap.size w' (.slice A' n n) n zs ∧ Below w.heap.size w w' :=
  (toIntS_own A n c zs w hr hl hn).mono fun _ _ ⟨_, he, ho, hb⟩ => ⟨_, he, ho.any, hb⟩
theorem toStmtS_ownA (A : Option Addr) (n c : Nat) (ss : List St) (w : World) (hr : Ints w A (flat ss)) (hl : ss.length = n) (hn : n ≤ 2000000) :
    Calls Try.prog 26 #[.slice A n c] w fun e w' => ∃ A' : Option Addr, e = .returned (.slice A' n n) ∧ OwnA 6 w.heap.size w'.heap.size w' (.slice A' n n) n (flat ss) ∧ Below w.heap.size w w' :=
  (toStmtS_new A n c ss w hr hl hn).mono fun _ _ ⟨_, he, ho, hb⟩ => ⟨_, he, ⟨⟨_, ho.own⟩, ho.top⟩, hb⟩
theorem markStmtS_ownA (lo hi n k : Nat) (v : Value) (zs : List Int) (w : World) (h : OwnA 6 lo hi w v n zs) (hn : n * 6 + k ≤ 1000000000) :
    Calls Try.prog 29 #[v, .int .i64 (k : Int)] w fun e w' => e = .returned (.int .i64 ((k + n * 6 : Nat) : Int)) ∧ OwnA 6 lo hi w' v n (markInts k (n * 6)) ∧ w.grownBy w' v.ownBlock := by
  obtain ⟨te, ho⟩ := h.own
  exact (markStmtS_own lo n k v zs w ho hn).mono fun _ _ ⟨he, h1, h2⟩ => ⟨he, ⟨⟨te, h1⟩, h.top⟩, h2⟩
end Go.Proofs.Ytklmhkckhdmelaa
