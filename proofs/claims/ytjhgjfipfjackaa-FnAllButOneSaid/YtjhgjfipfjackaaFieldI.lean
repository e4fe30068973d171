/- FInv: the power with the exponent p - 2 is the inverse; the model's search finds the same. -/
import Derived.Test.YtjhgjfipfjackaaProg
import Derived.Test.YtjhgjfipfjackaaField
import Derived.Test.YtjhgjfipfjackaaBox
namespace Go.Proofs.Ytjhgjfipfjackaa
open Go Go.RowKit
structure PwAt (T : TypeId) (w wr : World) (p a x : Int) : Prop where
  arg : wr.heap[w.heap.size]? = some (.cells #[.int .i64 p, .int .i64 a] T (0, 0))
  res : wr.heap[w.heap.size + 1]? = some (.cells #[.int .i64 0, .int .i64 0] T (0, 0))
  pow : wr.heap[w.heap.size + 1 + 1]? = some (.cells #[.int .i64 p, .int .i64 x] T (0, 0))
  low : Below w.heap.size w wr
theorem PwAt.start (T : TypeId) (w : World) (p a : Int) :
    PwAt T w (((w.alloc (.cells #[.int .i64 p, .int .i64 a] T)).alloc (.cells #[.int .i64 0, .int .i64 0] T)).alloc (.cells #[.int .i64 p, .int .i64 1] T)) p a 1 := by
  refine ⟨?_, ?_, ?_, (((Below.refl _ _).alloc (Nat.le_refl _) _).alloc (by simp) _).alloc (by simp; omega) _⟩
  · rw [Below.heap_alloc _ _ _ (by simp; omega), Below.heap_alloc _ _ _ (by simp)]
    exact heap_alloc_new w _
  · rw [Below.heap_alloc _ _ _ (by simp)]
    have h := heap_alloc_new (w.alloc (.cells #[.int .i64 p, .int .i64 a] T)) (.cells #[.int .i64 0, .int .i64 0] T)
    simpa using h
  · have h := heap_alloc_new ((w.alloc (.cells #[.int .i64 p, .int .i64 a] T)).alloc (.cells #[.int .i64 0, .int .i64 0] T)) (.cells #[.int .i64 p, .int .i64 1] T)
    simpa using h
theorem PwAt.turn {T : TypeId} {w wr w1 : World} {p a x : Int} (h : PwAt T w wr p a x) (hb : Below wr.heap.size wr w1) (y : Int) :
    PwAt T w ((w1.setCell ⟨w.heap.size + 1 + 1, 0, none⟩ (.int .i64 p)).setCell ⟨w.heap.size + 1 + 1, 1, none⟩ (.int .i64 y)) p a y := by
  have h1 := (Array.getElem?_eq_some_iff.1 h.pow).1
  refine ⟨?_, ?_, ?_, ?_⟩
  · rw [box2_other (by omega), hb.block _ (by omega)]; exact h.arg
  · rw [box2_other (by omega), hb.block _ (by omega)]; exact h.res
  · exact box2_set ((hb.block _ h1).trans h.pow) _ _
  · exact ((h.low.trans (hb.mono h.low.size)).setCell (p := ⟨w.heap.size + 1 + 1, 0, none⟩) (by simp; omega) _).setCell (p := ⟨w.heap.size + 1 + 1, 1, none⟩) (by simp; omega) _
theorem run_value (x y : Int) (w : World) : (Instr.field 70 (.agg #[.int .i64 x, .int .i64 y]) 1).run Try.prog w = .ok (.int .i64 y) w := by kernel_rfl
theorem spec_IsElement_at (p a : Int) (b : Bool) (h : decide (isEl p a) = b) (w : World) :
    Calls Try.prog 47 #[.int .i64 p, .int .i64 a] w fun e w' => e = .returned (.bool b) ∧ w = w' := by
  subst h; exact spec_IsElement p a w
end Go.Proofs.Ytjhgjfipfjackaa
