/- Multiples of shares, and a constant added: the program and the model return the same lists in new memory. -/
import Derived.Test.YtcjgoonkdjaccaaProg
import Derived.Test.YtcjgoonkdjaccaaShareV
import Derived.WalkSpells
import Derived.Test.YtcjgoonkdjaccaaPost
namespace Go.Proofs.Ytcjgoonkdjaccaa
open Go Go.RowKit
theorem ints_one (w : World) (k : Int) (T : TypeId) : Ints (w.alloc (.cells #[.int .i64 k] T)) (some ⟨w.heap.size, 0, none⟩) [k] := fun _ =>
  ⟨_, _, rfl, by simp, fun j hj => by
    have : j = 0 := by simpa using hj
    subst this
    exact (blk (i := 0) (heap_alloc_new w (.cells #[.int .i64 k] T)) rfl).1⟩
end Go.Proofs.Ytcjgoonkdjaccaa
