/- What the walks of exact laws share: posts of results, blocks that stay. No condition. -/
import Derived.Test.YtklmhkckhdmelaaProg
import Derived.Test.YtklmhkckhdmelaaGrow
import Derived.Test.YtklmhkckhdmelaaIntsX
namespace Go.Proofs.Ytklmhkckhdmelaa
open Go Go.RowKit
theorem below_alloc (w : World) (o : Obj) : Below w.heap.size w (w.alloc o) := (Below.refl _ _).alloc (Nat.le_refl _) _
theorem low_alloc {w wr : World} (h : Below w.heap.size w wr) (o : Obj) : Below w.heap.size w (wr.alloc o) := h.alloc h.size o
def Post_int (r : Int) (w : World) (e : Ending) (w' : World) : Prop := e = .returned (.int .i64 r) ∧ Below w.heap.size w w'
def Post_bool (r : Bool) (w : World) (e : Ending) (w' : World) : Prop := e = .returned (.bool r) ∧ Below w.heap.size w w'
def Post_I (zs : List Int) (w : World) (e : Ending) (w' : World) : Prop := MadeI zs w e w'
def Post_I_bool (zs : List Int) (r : Bool) (w : World) (e : Ending) (w' : World) : Prop :=
  ∃ (A : Option Addr) (m c : Nat), e = .returned (.tuple #[.slice A m c, .bool r]) ∧ zs.length = m ∧ OwnI w.heap.size w'.heap.size w' (.slice A m c) m zs ∧ Below w.heap.size w w'
def Post_I_Tape (zs : List Int) (s a : Int) (w : World) (e : Ending) (w' : World) : Prop :=
  ∃ (A : Option Addr) (m c : Nat), e = .returned (.tuple #[.slice A m c, .agg #[.int .i64 s, .int .i64 a]]) ∧ zs.length = m ∧ OwnI w.heap.size w'.heap.size w' (.slice A m c) m zs ∧ Below w.heap.size w w'
end Go.Proofs.Ytklmhkckhdmelaa
