/- A cursor on its way: what a call that draws has turned, and what it has laid. No condition. -/
import Derived.Test.YtklmhkckhdmelaaProg
import Derived.Test.YtklmhkckhdmelaaSeg
import Derived.Test.YtklmhkckhdmelaaBlk
namespace Go.Proofs.Ytklmhkckhdmelaa
open Go Go.RowKit
/-- The cursor stands; of what there was in w, only the cursor's block has turned. -/
structure RunD (T : TypeId) (B g : Nat) (w wr : World) : Prop where
  cur : Cur T B wr g
  gr : w.grownBy wr (some g)
  lt : g < w.heap.size
section
variable {T : TypeId} {B g : Nat} {w wr w1 : World}
theorem RunD.start (h : Cur T B w g) : RunD T B g w w := ⟨h, World.grownBy.refl w _, h.lt⟩
theorem RunD.alloc (h : RunD T B g w wr) (o : Obj) : RunD T B g w (wr.alloc o) := ⟨h.cur.alloc o, grown_alloc h.gr o, h.lt⟩
theorem RunD.next (h : RunD T B g w wr) (hc : Cur T B w1 g) (hg : wr.grownBy w1 (some g)) : RunD T B g w w1 := ⟨hc, h.gr.trans hg, h.lt⟩
theorem RunD.below (h : RunD T B g w wr) (hb : Below wr.heap.size wr w1) : RunD T B g w w1 := ⟨h.cur.below hb h.cur.lt, grown_below h.gr hb, h.lt⟩
theorem RunD.drew (h : RunD T B g w wr) : RunD T B g w wr.drew := ⟨h.cur.drew, grownBy_drew h.gr, h.lt⟩
theorem RunD.drewN (h : RunD T B g w wr) (k : Nat) : RunD T B g w (wr.drewN k) := ⟨h.cur.drewN k, grownBy_drewN h.gr k, h.lt⟩
theorem grown_far {b i : Nat} {v : Value} (h : w.grownBy wr (some g)) (hb : w.heap.size ≤ b) : w.grownBy (wr.setCell ⟨b, i, none⟩ v) (some g) :=
  ⟨h.os, h.tape, h.output, Nat.le_trans h.size (by simp [World.setCell]), fun k hk hne => (Below.heap_setCell wr _ v k (by simp; omega)).trans (h.block k hk hne)⟩
theorem RunD.set (h : RunD T B g w wr) {b : Nat} (hb : w.heap.size ≤ b) (i : Nat) (v : Value) : RunD T B g w (wr.setCell ⟨b, i, none⟩ v) :=
  ⟨h.cur.grown (grownBy_set wr b i v) (fun k e => by injection e with e; have := h.lt; omega), grown_far h.gr hb, h.lt⟩
theorem RunD.size (h : RunD T B g w wr) : w.heap.size ≤ wr.heap.size := h.gr.size
theorem RunD.own {base n size : Nat} {e : TypeId} {v : Value} {xs : List Value} (h : RunD T B g w wr) (hown : wr.ownsRow base e size v n xs) (hg : wr.grownBy w1 v.ownBlock) (hb : w.heap.size ≤ base) : RunD T B g w w1 :=
  ⟨cur_own h.cur hown hg (by have := h.lt; omega), grown_own h.gr hown hg hb, h.lt⟩
end
/-- A block that was there when a draw began, or was laid since, stays. -/
theorem heap_draw {w w1 : World} {b g : Nat} {o : Obj} (h : w.heap[b]? = some o) (hg : w.grownBy w1 (some g)) (hb : g ≠ b) : w1.heap[b]? = some o :=
  heap_grown h hg (fun e => hb (by injection e))
end Go.Proofs.Ytklmhkckhdmelaa
