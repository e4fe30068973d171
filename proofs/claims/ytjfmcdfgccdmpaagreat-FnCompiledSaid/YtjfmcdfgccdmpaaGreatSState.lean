/- Structs State: copying, comparing, marking. No condition. -/
import Derived.Test.YtjfmcdfgccdmpaaGreatProg
import Derived.Test.YtjfmcdfgccdmpaaGreatB1
namespace Go.Proofs.YtjfmcdfgccdmpaaGreat
open Go Go.RowKit
/-- A struct State of the call's own: its slices lie in blocks from lo on and below hi, each in its own. -/
structure OwnState (lo hi : Nat) (w : World) (v0 v1 : Value) (n0 n1 : Nat) (z0 z1 : List Int) : Prop where
  o0 : OwnA 1 lo hi w v0 n0 z0
  o1 : OwnA 1 lo hi w v1 n1 z1
  a01 : apart v0 v1
section
variable {w w1 : World} {lo hi lo' hi' : Nat} {v0 v1 : Value} {n0 n1 : Nat} {z0 z1 : List Int}
theorem OwnState.mid (h : OwnState lo hi w v0 v1 n0 n1 z0 z1) (k : Mid lo' hi' w w1) (hd : hi ≤ lo' ∨ hi' ≤ lo) : OwnState lo hi w1 v0 v1 n0 n1 z0 z1 := ⟨h.o0.mid k hd, h.o1.mid k hd, h.a01⟩
theorem OwnState.below (h : OwnState lo hi w v0 v1 n0 n1 z0 z1) (hb : Below w.heap.size w w1) : OwnState lo hi w1 v0 v1 n0 n1 z0 z1 := ⟨h.o0.below hb, h.o1.below hb, h.a01⟩
theorem OwnState.alloc (h : OwnState lo hi w v0 v1 n0 n1 z0 z1) (o : Obj) : OwnState lo hi (w.alloc o) v0 v1 n0 n1 z0 z1 := h.below ((Below.refl _ _).alloc (Nat.le_refl _) _)
theorem OwnState.wide (h : OwnState lo hi w v0 v1 n0 n1 z0 z1) (h1 : lo' ≤ lo) (h2 : hi ≤ hi') : OwnState lo' hi' w v0 v1 n0 n1 z0 z1 := ⟨h.o0.wide h1 h2, h.o1.wide h1 h2, h.a01⟩
theorem OwnState.drew (h : OwnState lo hi w v0 v1 n0 n1 z0 z1) : OwnState lo hi w.drew v0 v1 n0 n1 z0 z1 := ⟨h.o0.drew, h.o1.drew, h.a01⟩
theorem OwnState.drewN (h : OwnState lo hi w v0 v1 n0 n1 z0 z1) (k : Nat) : OwnState lo hi (w.drewN k) v0 v1 n0 n1 z0 z1 := ⟨h.o0.drewN k, h.o1.drewN k, h.a01⟩
theorem OwnState.setFar {g i : Nat} (h : OwnState lo hi w v0 v1 n0 n1 z0 z1) (hg : g < lo) (u : Value) : OwnState lo hi (w.setCell ⟨g, i, none⟩ u) v0 v1 n0 n1 z0 z1 := ⟨h.o0.setFar hg u, h.o1.setFar hg u, h.a01⟩
theorem OwnState.setFar' {g i : Nat} (h : OwnState lo hi w v0 v1 n0 n1 z0 z1) (hg : hi ≤ g) (u : Value) : OwnState lo hi (w.setCell ⟨g, i, none⟩ u) v0 v1 n0 n1 z0 z1 := ⟨h.o0.setFar' hg u, h.o1.setFar' hg u, h.a01⟩
theorem OwnState.nil (lo hi : Nat) (w : World) : OwnState lo hi w (.slice none 0 0) (.slice none 0 0) 0 0 [] [] := ⟨OwnA.nil _ _ _ _, OwnA.nil _ _ _ _, apart.nil _ _ _⟩
end
/-- A struct State in new memory. -/
def Post_State (z0 : List Int) (z1 : List Int) (w : World) (e : Ending) (w' : World) : Prop :=
  ∃ (A0 A1 : Option Addr) (n0 n1 c0 c1 : Nat), e = .returned (.agg #[.slice A0 n0 c0, .slice A1 n1 c1]) ∧ OwnState w.heap.size w'.heap.size w' (.slice A0 n0 c0) (.slice A1 n1 c1) n0 n1 z0 z1 ∧ Below w.heap.size w w'
/-- A struct State that a call made, and the box that holds it: all new since W. -/
structure BxdState (W wx : World) (p lo hi : Nat) (A0 A1 : Option Addr) (n0 n1 c0 c1 : Nat) (z0 : List Int) (z1 : List Int) : Prop where
  own : OwnState lo hi wx (.slice A0 n0 c0) (.slice A1 n1 c1) n0 n1 z0 z1
  box : wx.heap[p]? = some (.cells #[.slice A0 n0 c0, .slice A1 n1 c1] 60 (0, 0))
  at_ : W.heap.size ≤ lo ∧ hi ≤ wx.heap.size ∧ W.heap.size ≤ p ∧ p < wx.heap.size ∧ (p < lo ∨ hi ≤ p)
  low : Below W.heap.size W wx
section
variable {W w w' : World} {A0 A1 : Option Addr} {n0 n1 c0 c1 p : Nat} {z0 z1 : List Int} {u : Array Value}
theorem BxdState.last (o : OwnState w.heap.size w'.heap.size w' (.slice A0 n0 c0) (.slice A1 n1 c1) n0 n1 z0 z1) (hl : Below W.heap.size W w') (hw : W.heap.size ≤ w.heap.size) :
    BxdState W (w'.alloc (.cells #[.slice A0 n0 c0, .slice A1 n1 c1] 60)) w'.heap.size w.heap.size w'.heap.size A0 A1 n0 n1 c0 c1 z0 z1 :=
  ⟨o.alloc _, heap_alloc_new w' _, ⟨hw, by simp, hl.size, by simp, .inr (Nat.le_refl _)⟩, hl.alloc hl.size _⟩
theorem BxdState.early (o : OwnState w.heap.size w'.heap.size w' (.slice A0 n0 c0) (.slice A1 n1 c1) n0 n1 z0 z1) (hl : Below W.heap.size W w') (hw : W.heap.size ≤ w.heap.size) (hb : w'.heap[p]? = some (.cells #[.slice none 0 0, .slice none 0 0] 60 (0, 0))) (hp : p < w.heap.size) (hW : W.heap.size ≤ p) :
    BxdState W ((w'.setCell ⟨p, 0, none⟩ (.slice A0 n0 c0)).setCell ⟨p, 1, none⟩ (.slice A1 n1 c1)) p w.heap.size w'.heap.size A0 A1 n0 n1 c0 c1 z0 z1 :=
  ⟨((o.setFar (g := p) (i := 0) hp _).setFar (g := p) (i := 1) hp _), (heap_set (i := 1) (heap_set (i := 0) hb (.slice A0 n0 c0)) (.slice A1 n1 c1)), ⟨hw, by simp, hW, by have := heap_lt hb; simpa using this, .inl hp⟩, ((hl.setCell (p := ⟨p, 0, none⟩) hW _).setCell (p := ⟨p, 1, none⟩) hW _)⟩
end
end Go.Proofs.YtjfmcdfgccdmpaaGreat
