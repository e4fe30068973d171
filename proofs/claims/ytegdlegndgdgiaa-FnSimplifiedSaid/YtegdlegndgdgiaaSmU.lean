/- Simplification: Simplify, the model's. No condition. -/
import Derived.Test.YtegdlegndgdgiaaProg
import Derived.Test.YtegdlegndgdgiaaSmT
import Derived.Test.YtegdlegndgdgiaaW3
import Derived.Test.YtegdlegndgdgiaaCwY
import Derived.Test.YtegdlegndgdgiaaCirB
import Derived.Test.YtegdlegndgdgiaaC1
import Derived.Deep.RegionHeld3
import Derived.Deep.RegionLaw
namespace Go.Proofs.Ytegdlegndgdgiaa
open Go Go.RowKit
/-- A circuit that is being made: its box, its gates, its outputs, and a list of new wires, each in a block of the call's own. -/
structure Mk (B g : Nat) (w0 wr : World) (v u s : Value) (m k i : Nat) (y os ts : List Int) : Prop where
  cir : Cir B g wr v ⟨[u], 31⟩ m y
  outs : Wl g v B wr u k os
  wl : Wl g v B wr s i ts
  ap : apart u s
  low : Below B w0 wr
  size : B ≤ wr.heap.size
  ge : B ≤ g
section
variable {B g m m' k i b c : Nat} {w0 wr w1 w2 : World} {v v' u s u' : Value} {y y' os ts : List Int} {x : Int}
theorem Mk.next (h : Mk B g w0 wr v u s m k i y os ts) (hc : Cir B g w1 v' ⟨[u], 31⟩ m' y') (t : Turn g v wr v' w1) : Mk B g w0 w1 v' u s m' k i y' os ts :=
  ⟨hc, h.outs.turn t, h.wl.turn t, h.ap, h.low.trans (t.low h.ge (fun q e => (h.cir.own.lt q e).1) h.size), Nat.le_trans h.size t.size, h.ge⟩
theorem Mk.below (h : Mk B g w0 wr v u s m k i y os ts) (hb : Below wr.heap.size wr w1) : Mk B g w0 w1 v u s m k i y os ts := h.next (h.cir.below hb) ((Turn.refl _ _ _).below hb)
theorem Mk.alloc (h : Mk B g w0 wr v u s m k i y os ts) (o : Obj) : Mk B g w0 (wr.alloc o) v u s m k i y os ts := h.below (below_alloc _ _)
theorem Mk.drew (h : Mk B g w0 wr v u s m k i y os ts) : Mk B g w0 wr.drew v u s m k i y os ts := h.next h.cir.drew ((Turn.refl _ _ _).drew)
/-- A new wire is noted. -/
theorem Mk.app {o : Obj} (h : Mk B g w0 wr v u s m k i y os ts) (ho : w2.ownsRow B 3 1 (.slice (some ⟨b, 0, none⟩) (i + 1) c) (i + 1) (intVals ts ++ (#[Value.int .i64 x] : Array Value).toList)) (hg : (wr.alloc o).grownBy w2 s.ownBlock) (hat : s.ownBlock = some b ∨ b = wr.heap.size + 1) :
    Mk B g w0 w2 v u (.slice (some ⟨b, 0, none⟩) (i + 1) c) m k (i + 1) y os (ts ++ [x]) := by
  have h1 := h.alloc o
  have sz : (wr.alloc o).heap.size = wr.heap.size + 1 := by simp
  have e0 : (Value.slice (some ⟨b, 0, none⟩) (i + 1) c).ownBlock = some b := rfl
  refine ⟨h1.cir.grown hg h1.wl.ne h1.wl.ap, ⟨h1.outs.own.kept hg ?_, h1.outs.ne, h1.outs.ap⟩, h1.wl.app (H := wr.heap.size + 1) ho (ys := ts ++ [x]) (by simp [intVals]) hat h1.cir (by simp), fun q e e' => ?_, h1.low.grown hg h1.size (fun q e => (h1.wl.own.lt q e).1), Nat.le_trans h1.size hg.size, h1.ge⟩
  · rcases hu : u.ownBlock with _ | q
    · exact .inl rfl
    · exact .inr (fun e => h1.ap q hu e.symm)
  · rw [e0] at e'
    injection e' with e'
    rcases hat with e1 | e1
    · exact h1.ap q e (by rw [e1, e'])
    · have := (h1.outs.own.lt q e).2
      have := (h.outs.own.lt q e).2
      omega
/-- An output is noted. -/
theorem Mk.out {o : Obj} (h : Mk B g w0 wr v u s m k i y os ts) (ho : w2.ownsRow B 3 1 (.slice (some ⟨b, 0, none⟩) (k + 1) c) (k + 1) (intVals os ++ (#[Value.int .i64 x] : Array Value).toList)) (hg : (wr.alloc o).grownBy w2 u.ownBlock) (hat : u.ownBlock = some b ∨ b = wr.heap.size + 1) :
    Mk B g w0 (w2.setCell ⟨g, 1, none⟩ (.slice (some ⟨b, 0, none⟩) (k + 1) c)) v (.slice (some ⟨b, 0, none⟩) (k + 1) c) s m (k + 1) i y (os ++ [x]) ts := by
  have h1 := h.alloc o
  have sz : (wr.alloc o).heap.size = wr.heap.size + 1 := by simp
  have e0 : (Value.slice (some ⟨b, 0, none⟩) (k + 1) c).ownBlock = some b := rfl
  have hw := h1.outs.app (H := wr.heap.size + 1) ho (ys := os ++ [x]) (by simp [intVals]) hat h1.cir (by simp)
  have hs : Wl g v B w2 s i ts := ⟨h1.wl.own.kept hg (by
    rcases hu : s.ownBlock with _ | q
    · exact .inl rfl
    · exact .inr (fun e => h1.ap q e.symm hu)), h1.wl.ne, h1.wl.ap⟩
  refine ⟨(h1.cir.grown hg h1.outs.ne h1.outs.ap).rest 0 _, hw.rest _, hs.rest _, fun q e e' => ?_, (h1.low.grown hg h1.size (fun q e => (h1.outs.own.lt q e).1)).setCell (p := ⟨g, 1, none⟩) h1.ge _, Nat.le_trans (Nat.le_trans h1.size hg.size) (by simp), h1.ge⟩
  rw [e0] at e
  injection e with e
  rcases hat with e1 | e1
  · exact h1.ap q (by rw [e1, e]) e'
  · have := (h.wl.own.lt q e').2
    omega
end
end Go.Proofs.Ytegdlegndgdgiaa
