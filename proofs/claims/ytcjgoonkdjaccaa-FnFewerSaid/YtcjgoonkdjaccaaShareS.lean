/- Additive shares: the model deals the same shares in new memory. -/
import Derived.Test.YtcjgoonkdjaccaaProg
import Derived.Test.YtcjgoonkdjaccaaShare
namespace Go.Proofs.Ytcjgoonkdjaccaa
open Go Go.RowKit
theorem Listed.made {w wr : World} {T : TypeId} {x y u v : Value} (bx : Boxed w wr T x y 27 u v) (s a : Int) :
    Listed w s a [] (.returned (.tuple #[.slice (some ⟨wr.heap.size, 0, none⟩) 0 0, .agg #[.int .i64 s, .int .i64 a]])) ((((wr.alloc (.cells #[] 3)).setCell ⟨w.heap.size + 1, 0, none⟩ (.int .i64 s)).setCell ⟨w.heap.size + 1, 1, none⟩ (.int .i64 a)).drew) := by
  have hown := World.ownsRow_made (e := 3) (size := 1) (base := w.heap.size + 1 + 1) wr #[] 0 (by have := bx.lt; omega) (by unfold maxLen; omega) rfl
  exact ⟨_, _, _, rfl, rfl, own_mono (ownsRow_setCell_below (ownsRow_setCell_below hown (a := ⟨w.heap.size + 1, 0, none⟩) (by simp) (.int .i64 s)) (a := ⟨w.heap.size + 1, 1, none⟩) (by simp) (.int .i64 a)) (by omega), ((bx.alloc (.cells #[] 3)).set (.int .i64 s) (.int .i64 a)).drew.low⟩
theorem Listed.made' (w : World) (s a : Int) :
    Listed w s a [] (.returned (.tuple #[.slice (some ⟨w.heap.size + 1 + 1, 0, none⟩) 0 0, .agg #[.int .i64 s, .int .i64 a]])) (((w.alloc (.cells #[.int .i64 s, .int .i64 a] 27)).alloc (.cells #[.int .i64 s, .int .i64 a] 27)).alloc (.cells #[] 3)).drew := by
  have hown := World.ownsRow_made (e := 3) (size := 1) (base := w.heap.size) ((w.alloc (.cells #[.int .i64 s, .int .i64 a] 27)).alloc (.cells #[.int .i64 s, .int .i64 a] 27)) #[] 0 (by simp; omega) (by unfold maxLen; omega) rfl
  simp only [World.size_alloc] at hown
  exact ⟨_, _, _, rfl, rfl, hown, ((Boxed.start w 27 (.int .i64 s) (.int .i64 a) 27 (.int .i64 s) (.int .i64 a)).alloc (.cells #[] 3)).drew.low⟩
end Go.Proofs.Ytcjgoonkdjaccaa
