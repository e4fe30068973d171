/- The laws FnExactTapeOk, FnExactTapeWord, FnExactTapeBelow, FnExactTapeFork. -/
import Derived.Test.YtfpcjgolcbjnjaaProg
import Derived.Test.YtfpcjgolcbjnjaaTapeS
namespace Go.Proofs.Ytfpcjgolcbjnjaa
open Go Go.RowKit
theorem toTape_any (s a : Int) (w : World) :
    Calls Try.prog 21 #[.agg #[.int .i64 s, .int .i64 a]] w fun e w' => e = .returned (.agg #[.int .i64 s, .int .i64 a]) ∧ Below w.heap.size w w' := by
  go_enter Try.func21, Try.ntmps21
  go_wp2_with fail
  go_returns
  exact ⟨rfl, (((Below.refl _ _).alloc (Nat.le_refl _) _).alloc (by simp) _).alloc (by simp; omega) _⟩
/-- A box that came in, and what has turned since: new blocks alone. -/
structure Kept (w wr : World) (T : TypeId) (x y : Value) : Prop where
  arg : wr.heap[w.heap.size]? = some (.cells #[x, y] T (0, 0))
  low : Below w.heap.size w wr
theorem Kept.start (w : World) (T : TypeId) (x y : Value) : Kept w (w.alloc (.cells #[x, y] T)) T x y := ⟨heap_alloc_new w _, (Below.refl _ _).alloc (Nat.le_refl _) _⟩
theorem Kept.next {w wr w1 : World} {T : TypeId} {x y : Value} (h : Kept w wr T x y) (hb : Below wr.heap.size wr w1) : Kept w w1 T x y := ⟨box2_below h.arg hb, h.low.trans (hb.mono h.low.size)⟩
theorem Kept.alloc {w wr : World} {T : TypeId} {x y : Value} (h : Kept w wr T x y) (o : Obj) : Kept w (wr.alloc o) T x y := h.next ((Below.refl _ _).alloc (Nat.le_refl _) _)
end Go.Proofs.Ytfpcjgolcbjnjaa
