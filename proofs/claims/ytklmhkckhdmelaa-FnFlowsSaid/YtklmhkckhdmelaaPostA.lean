/- Posts of results whose lists of numbers lie in a block of whatever type. No condition. -/
import Derived.Test.YtklmhkckhdmelaaProg
import Derived.Test.YtklmhkckhdmelaaSegA
import Derived.Test.YtklmhkckhdmelaaPost
namespace Go.Proofs.Ytklmhkckhdmelaa
open Go Go.RowKit
def Post_A (zs : List Int) (w : World) (e : Ending) (w' : World) : Prop :=
  ∃ (A : Option Addr) (m c : Nat), e = .returned (.slice A m c) ∧ OwnA 1 w.heap.size w'.heap.size w' (.slice A m c) m zs ∧ Below w.heap.size w w'
def Post_A_bool (zs : List Int) (r : Bool) (w : World) (e : Ending) (w' : World) : Prop :=
  ∃ (A : Option Addr) (m c : Nat), e = .returned (.tuple #[.slice A m c, .bool r]) ∧ OwnA 1 w.heap.size w'.heap.size w' (.slice A m c) m zs ∧ Below w.heap.size w w'
theorem Post_A.of {zs : List Int} {w w' : World} {e : Ending} (h : MadeI zs w e w') : Post_A zs w e w' := by
  obtain ⟨A, m, c, he, _, ho, hb⟩ := h
  exact ⟨A, m, c, he, ho.any, hb⟩
theorem Post_A_bool.of {zs : List Int} {r : Bool} {w w' : World} {e : Ending} (h : Post_I_bool zs r w e w') : Post_A_bool zs r w e w' := by
  obtain ⟨A, m, c, he, _, ho, hb⟩ := h
  exact ⟨A, m, c, he, ho.any, hb⟩
end Go.Proofs.Ytklmhkckhdmelaa
