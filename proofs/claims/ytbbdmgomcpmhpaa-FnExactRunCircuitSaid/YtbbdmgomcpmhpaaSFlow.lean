/- Structs Flow: copying, comparing, marking. No condition. -/
import Derived.Test.YtbbdmgomcpmhpaaProg
import Derived.Test.YtbbdmgomcpmhpaaB1
namespace Go.Proofs.Ytbbdmgomcpmhpaa
open Go Go.RowKit
/-- A struct Flow of the call's own: its slices lie in blocks from lo on and below hi, each in its own. -/
structure OwnFlow (lo hi : Nat) (w : World) (v0 v1 : Value) (n0 n1 : Nat) (z0 z1 : List Int) : Prop where
  o0 : OwnA 1 lo hi w v0 n0 z0
  o1 : OwnA 1 lo hi w v1 n1 z1
  a01 : apart v0 v1
section
variable {w w1 : World} {lo hi lo' hi' : Nat} {v0 v1 : Value} {n0 n1 : Nat} {z0 z1 : List Int}
theorem OwnFlow.mid (h : OwnFlow lo hi w v0 v1 n0 n1 z0 z1) (k : Mid lo' hi' w w1) (hd : hi ≤ lo' ∨ hi' ≤ lo) : OwnFlow lo hi w1 v0 v1 n0 n1 z0 z1 := ⟨h.o0.mid k hd, h.o1.mid k hd, h.a01⟩
theorem OwnFlow.below (h : OwnFlow lo hi w v0 v1 n0 n1 z0 z1) (hb : Below w.heap.size w w1) : OwnFlow lo hi w1 v0 v1 n0 n1 z0 z1 := ⟨h.o0.below hb, h.o1.below hb, h.a01⟩
theorem OwnFlow.alloc (h : OwnFlow lo hi w v0 v1 n0 n1 z0 z1) (o : Obj) : OwnFlow lo hi (w.alloc o) v0 v1 n0 n1 z0 z1 := h.below ((Below.refl _ _).alloc (Nat.le_refl _) _)
theorem OwnFlow.wide (h : OwnFlow lo hi w v0 v1 n0 n1 z0 z1) (h1 : lo' ≤ lo) (h2 : hi ≤ hi') : OwnFlow lo' hi' w v0 v1 n0 n1 z0 z1 := ⟨h.o0.wide h1 h2, h.o1.wide h1 h2, h.a01⟩
theorem OwnFlow.drew (h : OwnFlow lo hi w v0 v1 n0 n1 z0 z1) : OwnFlow lo hi w.drew v0 v1 n0 n1 z0 z1 := ⟨h.o0.drew, h.o1.drew, h.a01⟩
theorem OwnFlow.drewN (h : OwnFlow lo hi w v0 v1 n0 n1 z0 z1) (k : Nat) : OwnFlow lo hi (w.drewN k) v0 v1 n0 n1 z0 z1 := ⟨h.o0.drewN k, h.o1.drewN k, h.a01⟩
theorem OwnFlow.setFar {g i : Nat} (h : OwnFlow lo hi w v0 v1 n0 n1 z0 z1) (hg : g < lo) (u : Value) : OwnFlow lo hi (w.setCell ⟨g, i, none⟩ u) v0 v1 n0 n1 z0 z1 := ⟨h.o0.setFar hg u, h.o1.setFar hg u, h.a01⟩
theorem OwnFlow.setFar' {g i : Nat} (h : OwnFlow lo hi w v0 v1 n0 n1 z0 z1) (hg : hi ≤ g) (u : Value) : OwnFlow lo hi (w.setCell ⟨g, i, none⟩ u) v0 v1 n0 n1 z0 z1 := ⟨h.o0.setFar' hg u, h.o1.setFar' hg u, h.a01⟩
theorem OwnFlow.nil (lo hi : Nat) (w : World) : OwnFlow lo hi w (.slice none 0 0) (.slice none 0 0) 0 0 [] [] := ⟨OwnA.nil _ _ _ _, OwnA.nil _ _ _ _, apart.nil _ _ _⟩
end
/-- A struct Flow in new memory. -/
def Post_Flow (z0 : List Int) (z1 : List Int) (w : World) (e : Ending) (w' : World) : Prop :=
  ∃ (A0 A1 : Option Addr) (n0 n1 c0 c1 : Nat), e = .returned (.agg #[.slice A0 n0 c0, .slice A1 n1 c1]) ∧ OwnFlow w.heap.size w'.heap.size w' (.slice A0 n0 c0) (.slice A1 n1 c1) n0 n1 z0 z1 ∧ Below w.heap.size w w'
section
variable {W w w' : World} {A0 A1 : Option Addr} {n0 n1 c0 c1 p : Nat} {z0 z1 : List Int} {u : Array Value}
end
end Go.Proofs.Ytbbdmgomcpmhpaa
