/- Blocks that are known whole: a struct that came in, one that goes out. No condition. -/
import Derived.Test.YtklmhkckhdmelaaProg
import Derived.Test.YtklmhkckhdmelaaSeg
import Derived.Handy
namespace Go.Proofs.Ytklmhkckhdmelaa
open Go Go.RowKit
section
variable {w wr w1 w' : World} {g g' : Nat} {T T' : TypeId} {cs xs rs ts : Array Value}
/-- A cell of a block that is known whole, and that it may be written. -/
theorem blk {i : Nat} {u : Value} (h : w.heap[g]? = some (.cells cs T (0, 0))) (e : cs[i]? = some u) : w.cell? ⟨g, i, none⟩ = some u ∧ w.frozen? ⟨g, i, none⟩ = false :=
  ⟨by simp [World.cell?, h, e], by simp [World.frozen?, h]⟩
theorem new_at (w : World) (o : Obj) (B : Nat) (h : w.heap.size = B) : (w.alloc o).heap[B]? = some o := by subst h; exact heap_alloc_new w o
/-- The struct that came in (block w.heap.size), and the one that goes out (the next). -/
structure Bx2 (w wr : World) (T : TypeId) (xs : Array Value) (T' : TypeId) (rs : Array Value) : Prop where
  arg : wr.heap[w.heap.size]? = some (.cells xs T (0, 0))
  res : wr.heap[w.heap.size + 1]? = some (.cells rs T' (0, 0))
  low : Below w.heap.size w wr
theorem Bx2.start (w : World) (T : TypeId) (xs : Array Value) (T' : TypeId) (rs : Array Value) : Bx2 w ((w.alloc (.cells xs T)).alloc (.cells rs T')) T xs T' rs := by
  refine ⟨?_, ?_, ((Below.refl _ _).alloc (Nat.le_refl _) _).alloc (by simp) _⟩
  · rw [Below.heap_alloc _ _ _ (by simp)]
    exact heap_alloc_new w _
  · have h := heap_alloc_new (w.alloc (.cells xs T)) (.cells rs T')
    simpa using h
theorem Bx2.next (h : Bx2 w wr T xs T' rs) (hb : Below wr.heap.size wr w1) : Bx2 w w1 T xs T' rs :=
  ⟨heap_below h.arg hb, heap_below h.res hb, h.low.trans (hb.mono h.low.size)⟩
theorem Bx2.mid {lo hi : Nat} (h : Bx2 w wr T xs T' rs) (m : Mid lo hi wr w1) (hl : w.heap.size + 1 < lo) : Bx2 w w1 T xs T' rs :=
  ⟨m.heap h.arg (by omega), m.heap h.res (by omega), m.below h.low (by omega) h.low.size⟩
theorem Bx2.far (h : Bx2 w wr T xs T' rs) (hg : w.heap.size + 1 < g) (i : Nat) (z : Value) : Bx2 w (wr.setCell ⟨g, i, none⟩ z) T xs T' rs :=
  ⟨heap_far h.arg (by simp; omega) z, heap_far h.res (by simp; omega) z, h.low.setCell (by simp; omega) _⟩
theorem Bx2.lt (h : Bx2 w wr T xs T' rs) : w.heap.size + 1 < wr.heap.size := heap_lt h.res
/-- One more block behind them. -/
structure Bx3 (w wr : World) (T : TypeId) (xs : Array Value) (T' : TypeId) (rs : Array Value) (T3 : TypeId) (ts : Array Value) : Prop where
  two : Bx2 w wr T xs T' rs
  out : wr.heap[w.heap.size + 1 + 1]? = some (.cells ts T3 (0, 0))
variable {T3 : TypeId}
theorem Bx3.start (w : World) (T : TypeId) (xs : Array Value) (T' : TypeId) (rs : Array Value) (T3 : TypeId) (ts : Array Value) : Bx3 w (((w.alloc (.cells xs T)).alloc (.cells rs T')).alloc (.cells ts T3)) T xs T' rs T3 ts := by
  refine ⟨(Bx2.start w T xs T' rs).next ((Below.refl _ _).alloc (Nat.le_refl _) _), ?_⟩
  have h := heap_alloc_new ((w.alloc (.cells xs T)).alloc (.cells rs T')) (.cells ts T3)
  simpa using h
theorem Bx3.next (h : Bx3 w wr T xs T' rs T3 ts) (hb : Below wr.heap.size wr w1) : Bx3 w w1 T xs T' rs T3 ts := ⟨h.two.next hb, heap_below h.out hb⟩
theorem Bx3.lt (h : Bx3 w wr T xs T' rs T3 ts) : w.heap.size + 1 + 1 < wr.heap.size := heap_lt h.out
theorem Bx3.setOut (h : Bx3 w wr T xs T' rs T3 ts) (i : Nat) (u : Value) : Bx3 w (wr.setCell ⟨w.heap.size + 1 + 1, i, none⟩ u) T xs T' rs T3 (ts.setIfInBounds i u) :=
  ⟨h.two.far (by omega) i u, heap_set h.out u⟩
theorem Bx3.setRes (h : Bx3 w wr T xs T' rs T3 ts) (i : Nat) (u : Value) : Bx3 w (wr.setCell ⟨w.heap.size + 1, i, none⟩ u) T xs T' (rs.setIfInBounds i u) T3 ts :=
  ⟨⟨heap_far h.two.arg (by simp) u, heap_set h.two.res u, h.two.low.setCell (by simp) _⟩, heap_far h.out (by simp) u⟩
theorem Bx3.is {rs' ts' : Array Value} (h : Bx3 w wr T xs T' rs T3 ts) (e : rs' = rs) (e' : ts' = ts) : Bx3 w wr T xs T' rs' T3 ts' := by subst e e'; exact h
theorem Bx2.is {rs' : Array Value} (h : Bx2 w wr T xs T' rs) (e : rs' = rs) : Bx2 w wr T xs T' rs' := by subst e; exact h
theorem Bx2.setArg (h : Bx2 w wr T xs T' rs) (i : Nat) (u : Value) : Bx2 w (wr.setCell ⟨w.heap.size, i, none⟩ u) T (xs.setIfInBounds i u) T' rs :=
  ⟨heap_set h.arg u, heap_far h.res (by simp) u, h.low.setCell (Nat.le_refl _) _⟩
theorem Bx2.setRes (h : Bx2 w wr T xs T' rs) (i : Nat) (u : Value) : Bx2 w (wr.setCell ⟨w.heap.size + 1, i, none⟩ u) T xs T' (rs.setIfInBounds i u) :=
  ⟨heap_far h.arg (by simp) u, heap_set h.res u, h.low.setCell (by simp) _⟩
end
/-- What a size counter leaves: the number that is left, or a number below 0. -/
def szRes (left n : Nat) : Int := if n ≤ left then ((left - n : Nat) : Int) else -1
theorem szRes_yes {left n : Nat} {e : Ending} (h : e = .returned (.int .i64 (szRes left n))) (hn : n ≤ left) : e = .returned (.int .i64 ((left - n : Nat) : Int)) := by rw [h, szRes, if_pos hn]
theorem szRes_no {left n : Nat} {e : Ending} (h : e = .returned (.int .i64 (szRes left n))) (hn : ¬ n ≤ left) : e = .returned (.int .i64 (-1)) := by rw [h, szRes, if_neg hn]
def Sized (left n : Nat) (w : World) (e : Ending) (w' : World) : Prop := e = .returned (.int .i64 (szRes left n)) ∧ Below w.heap.size w w'
theorem Sized.yes {left n r : Nat} {w w' : World} (h : Below w.heap.size w w') (hr : n ≤ left ∧ r = left - n) : Sized left n w (.returned (.int .i64 (r : Int))) w' := ⟨by rw [szRes, if_pos hr.1, hr.2], h⟩
theorem Sized.no {left n : Nat} {w w' : World} (h : Below w.heap.size w w') (hn : ¬ n ≤ left) : Sized left n w (.returned (.int .i64 (-1))) w' := ⟨by rw [szRes, if_neg hn], h⟩
theorem szIntS_any (left : Nat) (A : Option Addr) (n c : Nat) (w : World) (hl : left ≤ 1048576) (hn : n ≤ 9223372036854775807) :
    Calls Try.prog 39 #[.slice A n c, .int .i64 (left : Int)] w fun e w' => e = .returned (.int .i64 (szRes left n)) ∧ w = w' := by
  by_cases h : n ≤ left
  · have e : szRes left n = (left : Int) - (n : Int) := by rw [szRes, if_pos h]; omega
    rw [e]
    clear e
    go_enter Try.func39, Try.ntmps39
    go_wp2_with fail
    go_ret
    exact ⟨rfl, rfl⟩
  · have e : szRes left n = -1 := by rw [szRes, if_neg h]
    rw [e]
    clear e
    go_enter Try.func39, Try.ntmps39
    go_wp2_with fail
    go_ret
    exact ⟨rfl, rfl⟩
end Go.Proofs.Ytklmhkckhdmelaa
