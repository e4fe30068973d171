/- Boxes of two numbers: a struct that came in, and a struct that goes out. No condition. -/
import Derived.Test.YtfpcjgolcbjnjaaProg
import Derived.Test.YtfpcjgolcbjnjaaB1
import Derived.Handy
namespace Go.Proofs.Ytfpcjgolcbjnjaa
open Go Go.RowKit
/-- The cells of a box of two numbers. -/
theorem box2 {w : World} {g : Nat} {T : TypeId} {x y : Value} (h : w.heap[g]? = some (.cells #[x, y] T (0, 0))) :
    w.cell? ⟨g, 0, none⟩ = some x ∧ w.cell? ⟨g, 1, none⟩ = some y ∧ w.frozen? ⟨g, 0, none⟩ = false ∧ w.frozen? ⟨g, 1, none⟩ = false :=
  ⟨by simp [World.cell?, h], by simp [World.cell?, h], by simp [World.frozen?, h], by simp [World.frozen?, h]⟩
theorem box2_set {w : World} {g : Nat} {T : TypeId} {x y : Value} (h : w.heap[g]? = some (.cells #[x, y] T (0, 0))) (u v : Value) :
    ((w.setCell ⟨g, 0, none⟩ u).setCell ⟨g, 1, none⟩ v).heap[g]? = some (.cells #[u, v] T (0, 0)) := heap_set (heap_set h u) v
theorem box2_other {w : World} {g g' : Nat} (hne : g' ≠ g) (u v : Value) : ((w.setCell ⟨g, 0, none⟩ u).setCell ⟨g, 1, none⟩ v).heap[g']? = w.heap[g']? := by
  rw [Below.heap_setCell _ _ _ _ hne, Below.heap_setCell _ _ _ _ hne]
theorem cells2 {w : World} {g : Nat} {T : TypeId} {x y : Value} (o : Obj) (h : w.heap[g]? = some (.cells #[x, y] T)) : (w.alloc o).cell? ⟨g, 0, none⟩ = some x ∧ (w.alloc o).cell? ⟨g, 1, none⟩ = some y := by
  have hl : g < w.heap.size := (Array.getElem?_eq_some_iff.1 h).1
  have h2 : (w.alloc o).heap[g]? = some (.cells #[x, y] T) := (Below.heap_alloc w o g hl).trans h
  exact ⟨by simp [World.cell?, h2], by simp [World.cell?, h2]⟩
theorem box2_below {w w' : World} {g : Nat} {T : TypeId} {x y : Value} (h : w.heap[g]? = some (.cells #[x, y] T (0, 0))) (hb : Below w.heap.size w w') : w'.heap[g]? = some (.cells #[x, y] T (0, 0)) :=
  (hb.block _ (Array.getElem?_eq_some_iff.1 h).1).trans h
/-- Two boxes of the call's own: the struct that came in (block w.heap.size), the one that goes out (the next). -/
structure Boxed (w wr : World) (T : TypeId) (x y : Value) (T' : TypeId) (u v : Value) : Prop where
  arg : wr.heap[w.heap.size]? = some (.cells #[x, y] T (0, 0))
  res : wr.heap[w.heap.size + 1]? = some (.cells #[u, v] T' (0, 0))
  low : Below w.heap.size w wr
theorem Boxed.start (w : World) (T : TypeId) (x y : Value) (T' : TypeId) (u v : Value) : Boxed w ((w.alloc (.cells #[x, y] T)).alloc (.cells #[u, v] T')) T x y T' u v := by
  refine ⟨?_, ?_, ((Below.refl _ _).alloc (Nat.le_refl _) _).alloc (by simp) _⟩
  · rw [Below.heap_alloc _ _ _ (by simp)]
    exact heap_alloc_new w _
  · have h := heap_alloc_new (w.alloc (.cells #[x, y] T)) (.cells #[u, v] T')
    simpa using h
theorem Boxed.next {w wr w1 : World} {T T' : TypeId} {x y u v : Value} (h : Boxed w wr T x y T' u v) (hb : Below wr.heap.size wr w1) : Boxed w w1 T x y T' u v :=
  ⟨box2_below h.arg hb, box2_below h.res hb, h.low.trans (hb.mono h.low.size)⟩
theorem Boxed.set {w wr : World} {T T' : TypeId} {x y u v : Value} (h : Boxed w wr T x y T' u v) (u' v' : Value) :
    Boxed w ((wr.setCell ⟨w.heap.size + 1, 0, none⟩ u').setCell ⟨w.heap.size + 1, 1, none⟩ v') T x y T' u' v' :=
  ⟨by rw [box2_other (by omega)]; exact h.arg, box2_set h.res _ _, (h.low.setCell (p := ⟨w.heap.size + 1, 0, none⟩) (by simp) _).setCell (p := ⟨w.heap.size + 1, 1, none⟩) (by simp) _⟩
theorem Boxed.drew {w wr : World} {T T' : TypeId} {x y u v : Value} (h : Boxed w wr T x y T' u v) : Boxed w wr.drew T x y T' u v := ⟨h.arg, h.res, h.low.drew⟩
theorem Boxed.alloc {w wr : World} {T T' : TypeId} {x y u v : Value} (h : Boxed w wr T x y T' u v) (o : Obj) : Boxed w (wr.alloc o) T x y T' u v :=
  h.next ((Below.refl _ _).alloc (Nat.le_refl _) _)
theorem Boxed.lt {w wr : World} {T T' : TypeId} {x y u v : Value} (h : Boxed w wr T x y T' u v) : w.heap.size + 1 < wr.heap.size := (Array.getElem?_eq_some_iff.1 h.res).1
theorem Boxed.other {w wr : World} {T T' : TypeId} {x y u v : Value} (h : Boxed w wr T x y T' u v) {g : Nat} (hg : w.heap.size + 1 < g) (i : Nat) (z : Value) : Boxed w (wr.setCell ⟨g, i, none⟩ z) T x y T' u v :=
  ⟨by rw [Below.heap_setCell _ _ _ _ (by simp; omega)]; exact h.arg, by rw [Below.heap_setCell _ _ _ _ (by simp; omega)]; exact h.res, h.low.setCell (by simp; omega) _⟩
theorem Boxed.setArg {w wr : World} {T T' : TypeId} {x y u v : Value} (h : Boxed w wr T x y T' u v) (x' y' : Value) :
    Boxed w ((wr.setCell ⟨w.heap.size, 0, none⟩ x').setCell ⟨w.heap.size, 1, none⟩ y') T x' y' T' u v :=
  ⟨box2_set h.arg _ _, by rw [box2_other (by omega)]; exact h.res, (h.low.setCell (p := ⟨w.heap.size, 0, none⟩) (Nat.le_refl _) _).setCell (p := ⟨w.heap.size, 1, none⟩) (Nat.le_refl _) _⟩
theorem keep_own {w1 w2 : World} {base n size g : Nat} {e : TypeId} {v : Value} {xs : List Value} (hown : w1.ownsRow base e size v n xs) (hg : w1.grownBy w2 v.ownBlock) (hb : g < base) (hl : g < w1.heap.size) : w2.heap[g]? = w1.heap[g]? :=
  hg.block g hl (fun e => by have := (hown.lt g e.symm).1; omega)
theorem Boxed.own {w w1 w2 : World} {T T' : TypeId} {x y u v : Value} (h : Boxed w w1 T x y T' u v) {base n size : Nat} {e : TypeId} {z : Value} {xs : List Value} (hown : w1.ownsRow base e size z n xs) (hg : w1.grownBy w2 z.ownBlock) (hb : w.heap.size + 1 < base) : Boxed w w2 T x y T' u v :=
  ⟨(keep_own hown hg (by omega) (by have := h.lt; omega)).trans h.arg, (keep_own hown hg hb h.lt).trans h.res, below_own h.low hown hg (by omega) (by have := h.lt; omega)⟩
/-- Results of a number (or slice) and a struct. -/
theorem results_tmp_cell_row {P : Program} {fn : Func} {t p : Tmp} {ty : TypeId} (h : fn.results = #[.tmp t, .cell p ty]) (tmps : Array Value) (w : World) (x : Value) (g : Nat) (T : TypeId) (cs : Array Value) (fr : Nat × Nat) (d : TypeDesc)
    (hx : tmps.getD t undef = x) (hp : tmps.getD p undef = .pointer (some ⟨g, 0, none⟩)) (hg : w.heap[g]? = some (.cells cs T fr))
    (hu : P.underlying ty = some d) (hd : (match d with | .struct _ | .array _ _ => true | _ => false) = true) (hi : (P.info? ty).map (·.size) = some cs.size) :
    (results fn tmps).run P w = .ok (.tuple #[x, .agg cs]) w := by
  have hp' : tmps[p]?.getD undef = .pointer (some ⟨g, 0, none⟩) := by simpa using hp
  have hx' : tmps[t]?.getD undef = x := by simpa using hx
  simp [results, h, hp', hx', asAddr, run_loadVar_row w g T ty cs fr d hg hu hd hi]
end Go.Proofs.Ytfpcjgolcbjnjaa
