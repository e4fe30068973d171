/- A list of ints that a call builds by append. No condition. -/
import Derived.Test.YtklmhkckhdmelaaProg
import Derived.Test.YtklmhkckhdmelaaSeg
import Derived.Test.YtklmhkckhdmelaaBlk
import Derived.Handy
namespace Go.Proofs.Ytklmhkckhdmelaa
open Go Go.RowKit
/-- A list of numbers in new memory. -/
def MadeI (zs : List Int) (w : World) (e : Ending) (w' : World) : Prop :=
  ∃ (A : Option Addr) (m c : Nat), e = .returned (.slice A m c) ∧ zs.length = m ∧ OwnI w.heap.size w'.heap.size w' (.slice A m c) m zs ∧ Below w.heap.size w w'
theorem MadeI.nil_ {w w' : World} (hb : Below w.heap.size w w') : MadeI [] w (.returned (.slice none 0 0)) w' :=
  ⟨none, 0, 0, rfl, rfl, OwnI.nil _ _ _, hb⟩
theorem MadeI.is {zs ys : List Int} {w w' : World} {e : Ending} (h : MadeI zs w e w') (he : zs = ys) : MadeI ys w e w' := by subst he; exact h
/-- A slice that the call builds: its first k elements. -/
structure Grow (w wr : World) (v : Value) (k : Nat) (zs : List Int) : Prop where
  own : wr.ownsRow w.heap.size 3 1 v k (intVals zs)
  low : Below w.heap.size w wr
section
variable {w wr w1 w2 : World} {v v' : Value} {k : Nat} {zs : List Int}
theorem Grow.next (h : Grow w wr v k zs) (hb : Below wr.heap.size wr w1) : Grow w w1 v k zs := ⟨own_below h.own hb, h.low.trans (hb.mono h.low.size)⟩
theorem Grow.alloc (h : Grow w wr v k zs) (o : Obj) : Grow w (wr.alloc o) v k zs := h.next ((Below.refl _ _).alloc (Nat.le_refl _) _)
theorem Grow.drew (h : Grow w wr v k zs) : Grow w wr.drew v k zs := ⟨h.own, h.low.drew⟩
theorem Grow.drewN (h : Grow w wr v k zs) (j : Nat) : Grow w (wr.drewN j) v k zs := ⟨h.own, below_drewN h.low j⟩
theorem Grow.size (h : Grow w wr v k zs) : w.heap.size ≤ wr.heap.size := h.low.size
theorem Grow.app (h : Grow w wr v k zs) {n : Nat} {xs : List Value} {ys : List Int} (ho : w2.ownsRow w.heap.size 3 1 v' n xs) (hg : wr.grownBy w2 v.ownBlock) (he : xs = intVals ys) : Grow w w2 v' n ys :=
  ⟨by rw [← he]; exact ho, below_own h.low h.own hg (Nat.le_refl _) h.low.size⟩
theorem Grow.nil (hb : Below w.heap.size w wr) : Grow w wr (.slice none 0 0) 0 [] := ⟨⟨rfl, .inl ⟨rfl, rfl⟩⟩, hb⟩
/-- make([]int, 0, n) -/
theorem Grow.made (hb : Below w.heap.size w wr) (hg : wr.grownBy w1 none) (ho : w1.ownsRow w.heap.size 3 1 v 0 []) : Grow w w1 v 0 [] :=
  ⟨ho, hb.grown hg hb.size (fun k h => by cases h)⟩
/-- []int{} -/
theorem Grow.empty (hb : Below w.heap.size w wr) : Grow w (wr.alloc (.cells #[] 3)) (.slice (some ⟨wr.heap.size, 0, none⟩) 0 0) 0 [] :=
  ⟨World.ownsRow_made (e := 3) (size := 1) (base := w.heap.size) wr #[] 0 hb.size (by unfold maxLen; omega) rfl, hb.alloc hb.size _⟩
theorem Grow.len (h : Grow w wr v k zs) : zs.length = k := by have := h.own.1; rw [intVals_length] at this; omega
theorem Grow.done (h : Grow w wr v k zs) : MadeI zs w (.returned v) wr := by
  obtain ⟨A, m, c, rfl, rfl⟩ := ownsRow_slice h.own
  exact ⟨A, k, c, rfl, h.len, OwnI.of_own h.own, h.low⟩
theorem MadeI.grow {zs : List Int} {e : Ending} (h : MadeI zs w e wr) : ∃ (A : Option Addr) (m c : Nat), e = .returned (.slice A m c) ∧ zs.length = m ∧ Grow w wr (.slice A m c) m zs := by
  obtain ⟨A, m, c, he, hl, ho, hb⟩ := h
  exact ⟨A, m, c, he, hl, ho.own, hb⟩
theorem Grow.addr {A : Option Addr} {c : Nat} (h : Grow w wr (.slice A k c) k zs) (h0 : 0 < k) : ∃ g, A = some ⟨g, 0, none⟩ ∧ w.heap.size ≤ g ∧ g < wr.heap.size := own_addr h.own h0
theorem Grow.at_ {g c j : Nat} (h : Grow w wr (.slice (some ⟨g, 0, none⟩) k c) k zs) (hj : j < k) : wr.cell? ⟨g, j, none⟩ = some (.int .i64 (zs.getD j 0)) ∧ wr.frozen? ⟨g, j, none⟩ = false := by
  refine ⟨?_, h.own.frozenAt j⟩
  have hl := h.len
  rw [h.own.cellAt j (by omega)]
  simp [intVals, List.getElem?_map, List.getD_eq_getElem?_getD, List.getElem?_eq_getElem (show j < zs.length by omega)]
theorem Grow.set {g c : Nat} (h : Grow w wr (.slice (some ⟨g, 0, none⟩) k c) k zs) (hg : w.heap.size ≤ g) (j : Nat) (x : Int) :
    Grow w (wr.setCell ⟨g, j, none⟩ (.int .i64 x)) (.slice (some ⟨g, 0, none⟩) k c) k (zs.set j x) := by
  refine ⟨?_, h.low.setCell (by simpa using hg) _⟩
  have := (h.own.stored j (.int .i64 x)).1
  simpa [intVals, List.map_set] using this
theorem snoc_vals {zs : List Int} {z : Int} {ys : List Int} (h : ys = zs ++ [z]) : intVals zs ++ (#[Value.int .i64 z] : Array Value).toList = intVals ys := by subst h; simp [intVals]
end
end Go.Proofs.Ytklmhkckhdmelaa
