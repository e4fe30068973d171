/- What a walk needs of the library's own variables: the table of powers of ten, the two sentinel errors. -/
import Derived.Test.YtjclhlicginekaaGreatDoorProg
import Derived.Test.YtjclhlicginekaaGreatDoorKit
import Derived.Lib.LaidTab
import Derived.WalkSmall
import Derived.Lib.ItoaNum
namespace Go.Proofs.YtjclhlicginekaaGreatDoor
open Go Go.RowKit
theorem globals_le {P : Program} {n : String} {g m : Nat} {w : World} {cs : Array Value} (hg : P.globalNamed n = some g) (hv : w.var? P n = some cs) (h : m ≤ g + 1) : m ≤ w.heap.size := by
  simp only [World.var?, hg, Option.bind_some] at hv
  have : g < w.heap.size := by
    rcases Nat.lt_or_ge g w.heap.size with hlt | hge
    · exact hlt
    · rw [Array.getElem?_eq_none hge] at hv; cases hv
  omega
/-- The library's table of powers of ten is laid. -/
def TabOk (w : World) : Prop := Lib.TabIs Tryz.prog w "internal/strconv.uint64pow10" .u64 Lib.pow10Tab
theorem TabOk.below {B : Nat} {w w' : World} (h : TabOk w) (hb : Below B w w') (hB : 8 ≤ B) : TabOk w' :=
  var?_below (g := 3) hb (by kernel_rfl) (by omega) h
/-- The library's two sentinel errors are laid. -/
def ErrOk (w : World) : Prop := (∃ tp p, w.var? Tryz.prog "strconv.ErrSyntax" = some #[.iface tp p]) ∧ ∃ tp p, w.var? Tryz.prog "strconv.ErrRange" = some #[.iface tp p]
theorem ErrOk.below {B : Nat} {w w' : World} (h : ErrOk w) (hb : Below B w w') (hB : 8 ≤ B) : ErrOk w' := by
  obtain ⟨⟨t, p, h1⟩, t', p', h2⟩ := h
  exact ⟨⟨t, p, var?_below (g := 4) hb (by kernel_rfl) (by omega) h1⟩, t', p', var?_below (g := 5) hb (by kernel_rfl) (by omega) h2⟩
end Go.Proofs.YtjclhlicginekaaGreatDoor
