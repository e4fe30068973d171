/- Circuit builders: the copy to which gates are appended. No condition. -/
import Derived.Test.YtkcknejkldhmaaaProg
import Derived.Test.YtkcknejkldhmaaaCwY
import Derived.Test.YtkcknejkldhmaaaCloneI
import Derived.Test.YtkcknejkldhmaaaB1
import Derived.Test.YtkcknejkldhmaaaC1
namespace Go.Proofs.Ytkcknejkldhmaaa
open Go Go.RowKit
/-- A copy of a circuit in a box, both its slices in memory of the call's own. -/
structure Ext (w wr : World) (g : Nat) (v0 v1 : Value) (n m : Nat) (z os : List Int) : Prop where
  cir : Cir w.heap.size g wr v0 v1 n z
  outs : Wl g v0 w.heap.size wr v1 m os
  ge : w.heap.size ≤ g
  low : Below w.heap.size w wr
section
variable {w w4 : World} {g n m B0 B1 : Nat} {v0 v1 : Value} {z os : List Int}
theorem Ext.of_box {T : TypeId} (hz : w4.heap[g]? = some (.cells #[v0, v1] 27 (0, 0))) (o0 : w4.ownsRow B0 40 3 v0 n (intVals z)) (o1 : w4.ownsRow B1 T 1 v1 m (intVals os)) (hT : T = 3) (ne0 : v0.ownBlock ≠ some g) (ne1 : v1.ownBlock ≠ some g) (ap : apart v1 v0) (h0 : w.heap.size ≤ B0) (h1 : w.heap.size ≤ B1) (ge : w.heap.size ≤ g) (low : Below w.heap.size w w4) :
    Ext w w4 g v0 v1 n m z os := by
  subst hT
  exact ⟨⟨hz, own_mono o0 h0, ne0⟩, ⟨own_mono o1 h1, ne1, ap⟩, ge, low⟩
/-- The box was there: it is written. -/
theorem Ext.early {x y : Value} {T : TypeId} (hz : w4.heap[g]? = some (.cells #[x, y] 27 (0, 0))) (o0 : w4.ownsRow B0 40 3 v0 n (intVals z)) (o1 : w4.ownsRow B1 T 1 v1 m (intVals os)) (hT : T = 3) (ne0 : v0.ownBlock ≠ some g) (ne1 : v1.ownBlock ≠ some g) (ap : apart v1 v0) (h0 : w.heap.size ≤ B0) (h1 : w.heap.size ≤ B1) (ge : w.heap.size ≤ g) (low : Below w.heap.size w w4) :
    Ext w ((w4.setCell ⟨g, 0, none⟩ v0).setCell ⟨g, 1, none⟩ v1) g v0 v1 n m z os := by
  have far : ∀ {B : Nat} {T : TypeId} {s q : Nat} {u : Value} {xs : List Value} (_ : w4.ownsRow B T s u q xs) (_ : u.ownBlock ≠ some g), ((w4.setCell ⟨g, 0, none⟩ v0).setCell ⟨g, 1, none⟩ v1).ownsRow B T s u q xs := fun ho hne => by
    refine ⟨ho.1, ?_⟩
    rcases ho.2 with e | ⟨b, cap, cur, e, hb, hh, r⟩
    · exact .inl e
    · refine .inr ⟨b, cap, cur, e, hb, ?_, r⟩
      have hbg : b ≠ g := fun e1 => hne (by rw [e, ← e1]; rfl)
      rw [Below.heap_setCell _ _ _ _ (by simpa using hbg), Below.heap_setCell _ _ _ _ (by simpa using hbg)]
      exact hh
  exact Ext.of_box (heap_set (i := 1) (heap_set (i := 0) hz v0) v1) (far o0 ne0) (far o1 ne1) hT ne0 ne1 ap h0 h1 ge ((low.setCell (p := ⟨g, 0, none⟩) ge _).setCell (p := ⟨g, 1, none⟩) ge _)
/-- The box is made last. -/
theorem Ext.last {T : TypeId} (o0 : w4.ownsRow B0 40 3 v0 n (intVals z)) (o1 : w4.ownsRow B1 T 1 v1 m (intVals os)) (hT : T = 3) (ap : apart v1 v0) (h0 : w.heap.size ≤ B0) (h1 : w.heap.size ≤ B1) (low : Below w.heap.size w w4) :
    Ext w (w4.alloc (.cells #[v0, v1] 27)) w4.heap.size v0 v1 n m z os :=
  Ext.of_box (heap_alloc_new w4 _) (o0.alloc _) (o1.alloc _) hT (fun e => by have := (o0.lt _ e).2; omega) (fun e => by have := (o1.lt _ e).2; omega) ap h0 h1 low.size (low.alloc low.size _)
end
theorem Bx2.of_low {w wr w1 : World} {T T' : TypeId} {xs rs : Array Value} {B : Nat} (h : Bx2 w wr T xs T' rs) (hb : Below B wr w1) (hB : w.heap.size + 1 < B) : Bx2 w w1 T xs T' rs :=
  ⟨(hb.block _ (by omega)).trans h.arg, (hb.block _ hB).trans h.res, h.low.trans (hb.mono (by omega))⟩
/-- A circuit and a list of wires in new memory, apart from each other. -/
def Post_Circuit_A (z0 z1 us : List Int) (w : World) (e : Ending) (w' : World) : Prop :=
  ∃ (A0 A1 : Option Addr) (n0 n1 c0 c1 : Nat) (A2 : Option Addr) (n2 c2 : Nat), e = .returned (.tuple #[.agg #[.slice A0 n0 c0, .slice A1 n1 c1], .slice A2 n2 c2]) ∧ OwnCircuit w.heap.size w'.heap.size w' (.slice A0 n0 c0) (.slice A1 n1 c1) n0 n1 z0 z1 ∧ OwnA 1 w.heap.size w'.heap.size w' (.slice A2 n2 c2) n2 us ∧
    (apart (.slice A2 n2 c2) (.slice A0 n0 c0) ∧ apart (.slice A2 n2 c2) (.slice A1 n1 c1)) ∧ Below w.heap.size w w'
def Post_Circuit_int (z0 z1 : List Int) (x : Int) (w : World) (e : Ending) (w' : World) : Prop :=
  ∃ (A0 A1 : Option Addr) (n0 n1 c0 c1 : Nat), e = .returned (.tuple #[.agg #[.slice A0 n0 c0, .slice A1 n1 c1], .int .i64 x]) ∧ OwnCircuit w.heap.size w'.heap.size w' (.slice A0 n0 c0) (.slice A1 n1 c1) n0 n1 z0 z1 ∧ Below w.heap.size w w'
section
variable {w wr : World} {T : TypeId} {xs rs : Array Value} {B g n m k c0 c1 c2 : Nat} {A0 A1 A2 : Option Addr} {z os us : List Int}
/-- The circuit is stored into the result's box. -/
theorem done_own (h : Cir B g wr (.slice A0 n c0) (.slice A1 m c1) n z) (ho : Wl g (.slice A0 n c0) B wr (.slice A1 m c1) m os) (hB : w.heap.size + 1 < B) :
    OwnCircuit w.heap.size wr.heap.size ((wr.setCell ⟨w.heap.size + 1, 0, none⟩ (.slice A0 n c0)).setCell ⟨w.heap.size + 1, 1, none⟩ (.slice A1 m c1)) (.slice A0 n c0) (.slice A1 m c1) n m z os :=
  ⟨(((OwnA.of_own h.own).setFar hB _).setFar hB _).wide (by omega) (Nat.le_refl _), (((OwnA.of_own ho.own).setFar hB _).setFar hB _).wide (by omega) (Nat.le_refl _), ho.ap.symm⟩
theorem doneL (q : Bx2 w wr T xs 27 rs) (h : Cir B g wr (.slice A0 n c0) (.slice A1 m c1) n z) (ho : Wl g (.slice A0 n c0) B wr (.slice A1 m c1) m os) (hl : Wl g (.slice A0 n c0) B wr (.slice A2 k c2) k us) (ap : apart (.slice A2 k c2) (.slice A1 m c1)) (hB : w.heap.size + 1 < B) :
    Post_Circuit_A z os us w (.returned (.tuple #[.agg #[.slice A0 n c0, .slice A1 m c1], .slice A2 k c2])) ((wr.setCell ⟨w.heap.size + 1, 0, none⟩ (.slice A0 n c0)).setCell ⟨w.heap.size + 1, 1, none⟩ (.slice A1 m c1)) :=
  ⟨A0, A1, n, m, c0, c1, A2, k, c2, rfl, (done_own h ho hB).wide (Nat.le_refl _) (by simp), ((((OwnA.of_own hl.own).setFar hB _).setFar hB _).wide (by omega) (by simp)), ⟨hl.ap, ap⟩, (q.low.setCell (p := ⟨w.heap.size + 1, 0, none⟩) (by simp) _).setCell (p := ⟨w.heap.size + 1, 1, none⟩) (by simp) _⟩
theorem doneI (x : Int) (q : Bx2 w wr T xs 27 rs) (h : Cir B g wr (.slice A0 n c0) (.slice A1 m c1) n z) (ho : Wl g (.slice A0 n c0) B wr (.slice A1 m c1) m os) (hB : w.heap.size + 1 < B) :
    Post_Circuit_int z os x w (.returned (.tuple #[.agg #[.slice A0 n c0, .slice A1 m c1], .int .i64 x])) ((wr.setCell ⟨w.heap.size + 1, 0, none⟩ (.slice A0 n c0)).setCell ⟨w.heap.size + 1, 1, none⟩ (.slice A1 m c1)) :=
  ⟨A0, A1, n, m, c0, c1, rfl, (done_own h ho hB).wide (Nat.le_refl _) (by simp), (q.low.setCell (p := ⟨w.heap.size + 1, 0, none⟩) (by simp) _).setCell (p := ⟨w.heap.size + 1, 1, none⟩) (by simp) _⟩
end

end Go.Proofs.Ytkcknejkldhmaaa
