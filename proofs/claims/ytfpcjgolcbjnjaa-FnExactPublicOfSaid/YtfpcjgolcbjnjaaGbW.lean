/- PublicOf, the model's: the public part that is being made. No condition. -/
import Derived.Test.YtfpcjgolcbjnjaaProg
import Derived.Test.YtfpcjgolcbjnjaaGbU
import Derived.Test.YtfpcjgolcbjnjaaGbR
import Derived.Test.YtfpcjgolcbjnjaaSPublic
namespace Go.Proofs.Ytfpcjgolcbjnjaa
open Go Go.RowKit
/-- A struct Public in new memory, and a bool. -/
def Post_Public_bool (z0 z1 z2 : List Int) (r : Bool) (w : World) (e : Ending) (w' : World) : Prop :=
  ∃ (A0 A1 A2 : Option Addr) (n0 n1 n2 c0 c1 c2 : Nat), e = .returned (.tuple #[.agg #[.slice A0 n0 c0, .slice A1 n1 c1, .slice A2 n2 c2], .bool r]) ∧ OwnPublic w.heap.size w'.heap.size w' (.slice A0 n0 c0) (.slice A1 n1 c1) (.slice A2 n2 c2) n0 n1 n2 z0 z1 z2 ∧ Below w.heap.size w w'
/-- The box of the public part, its three lists in blocks of the call's own. -/
structure Pb (B p : Nat) (w0 w : World) (vt vc vd : Value) (nt nc nd : Nat) (ts cs ds : List Int) : Prop where
  box : w.heap[p]? = some (.cells #[vt, vc, vd] 37 (0, 0))
  ot : w.ownsRow B 3 1 vt nt (intVals ts)
  oc : w.ownsRow B 3 1 vc nc (intVals cs)
  od : w.ownsRow B 3 1 vd nd (intVals ds)
  pt : vt.ownBlock ≠ some p
  pc : vc.ownBlock ≠ some p
  pd : vd.ownBlock ≠ some p
  atc : apart vt vc
  atd : apart vt vd
  acd : apart vc vd
  ge : B ≤ p
  low : Below B w0 w
  size : B ≤ w.heap.size
section
variable {B p nt nc nd b c H : Nat} {w0 w w1 w2 : World} {vt vc vd : Value} {ts cs ds : List Int} {x : Int}
theorem Pb.below (h : Pb B p w0 w vt vc vd nt nc nd ts cs ds) (hb : Below w.heap.size w w1) : Pb B p w0 w1 vt vc vd nt nc nd ts cs ds :=
  ⟨heap_below h.box hb, own_below h.ot hb, own_below h.oc hb, own_below h.od hb, h.pt, h.pc, h.pd, h.atc, h.atd, h.acd, h.ge, h.low.trans (hb.mono h.size), Nat.le_trans h.size hb.size⟩
theorem Pb.alloc (h : Pb B p w0 w vt vc vd nt nc nd ts cs ds) (o : Obj) : Pb B p w0 (w.alloc o) vt vc vd nt nc nd ts cs ds := h.below (below_alloc _ _)
theorem Pb.drew (h : Pb B p w0 w vt vc vd nt nc nd ts cs ds) : Pb B p w0 w.drew vt vc vd nt nc nd ts cs ds := ⟨h.box, h.ot, h.oc, h.od, h.pt, h.pc, h.pd, h.atc, h.atd, h.acd, h.ge, h.low.drew, h.size⟩
theorem Pb.clen (h : Pb B p w0 w vt vc vd nt nc nd ts cs ds) : cs.length = nc := by have := h.oc.1; rw [intVals_length] at this; omega
theorem own_apart_kept {T : TypeId} {u v : Value} {n : Nat} {xs : List Value} (h : w.ownsRow B T 1 u n xs) (hg : w.grownBy w2 v.ownBlock) (ha : apart u v) : w2.ownsRow B T 1 u n xs := h.kept hg (by
  rcases hv : u.ownBlock with _ | q
  · exact .inl rfl
  · exact .inr (fun e => ha q hv e.symm))
theorem slice_own (b n c : Nat) : (Value.slice (some ⟨b, 0, none⟩) n c).ownBlock = some b := rfl
theorem Pb.putC (h : Pb B p w0 w vt vc vd nt nc nd ts cs ds) (ho : w2.ownsRow B 3 1 (.slice (some ⟨b, 0, none⟩) (nc + 1) c) (nc + 1) (intVals cs ++ [.int .i64 x])) (hg : w.grownBy w2 vc.ownBlock) (hat : vc.ownBlock = some b ∨ b = H) (hH : w.heap.size ≤ H) :
    Pb B p w0 (w2.setCell ⟨p, 1, none⟩ (.slice (some ⟨b, 0, none⟩) (nc + 1) c)) vt (.slice (some ⟨b, 0, none⟩) (nc + 1) c) vd nt (nc + 1) nd ts (cs ++ [x]) ds := by
  have hpl := heap_lt h.box
  have hbp : b ≠ p := by
    rcases hat with e | e
    · intro e1; subst e1; exact h.pc e
    · omega
  have gb := grown_at w2 p 1 (.slice (some ⟨b, 0, none⟩) (nc + 1) c)
  have a1 : apart vt (.slice (some ⟨b, 0, none⟩) (nc + 1) c) := fun q e e' => by
    rw [slice_own] at e'
    injection e' with e'
    subst e'
    rcases hat with e2 | e2
    · exact h.atc _ e e2
    · have := (h.ot.lt _ e).2; omega
  have a2 : apart (.slice (some ⟨b, 0, none⟩) (nc + 1) c) vd := fun q e e' => by
    rw [slice_own] at e
    injection e with e
    subst e
    rcases hat with e2 | e2
    · exact h.acd _ e2 e'
    · have := (h.od.lt _ e').2; omega
  refine ⟨heap_set (i := 1) (heap_grown h.box hg h.pc) _, (own_apart_kept h.ot hg h.atc).kept gb (.inr h.pt), ?_, (own_apart_kept h.od hg h.acd.symm).kept gb (.inr h.pd), h.pt, ?_, h.pd, a1, h.atd, a2, h.ge, (h.low.grown hg h.size (fun q e => (h.oc.lt q e).1)).setCell h.ge _, by simpa using Nat.le_trans h.size hg.size⟩
  · rw [show intVals (cs ++ [x]) = intVals cs ++ [.int .i64 x] by simp [intVals]]
    exact ho.kept gb (.inr (by rw [slice_own]; intro e; injection e with e; exact hbp e))
  · rw [slice_own]; intro e; injection e with e; exact hbp e
theorem Pb.putD (h : Pb B p w0 w vt vc vd nt nc nd ts cs ds) (ho : w2.ownsRow B 3 1 (.slice (some ⟨b, 0, none⟩) (nd + 1) c) (nd + 1) (intVals ds ++ [.int .i64 x])) (hg : w.grownBy w2 vd.ownBlock) (hat : vd.ownBlock = some b ∨ b = H) (hH : w.heap.size ≤ H) :
    Pb B p w0 (w2.setCell ⟨p, 2, none⟩ (.slice (some ⟨b, 0, none⟩) (nd + 1) c)) vt vc (.slice (some ⟨b, 0, none⟩) (nd + 1) c) nt nc (nd + 1) ts cs (ds ++ [x]) := by
  have hpl := heap_lt h.box
  have hbp : b ≠ p := by
    rcases hat with e | e
    · intro e1; subst e1; exact h.pd e
    · omega
  have gb := grown_at w2 p 2 (.slice (some ⟨b, 0, none⟩) (nd + 1) c)
  have a1 : apart vt (.slice (some ⟨b, 0, none⟩) (nd + 1) c) := fun q e e' => by
    rw [slice_own] at e'
    injection e' with e'
    subst e'
    rcases hat with e2 | e2
    · exact h.atd _ e e2
    · have := (h.ot.lt _ e).2; omega
  have a2 : apart vc (.slice (some ⟨b, 0, none⟩) (nd + 1) c) := fun q e e' => by
    rw [slice_own] at e'
    injection e' with e'
    subst e'
    rcases hat with e2 | e2
    · exact h.acd _ e e2
    · have := (h.oc.lt _ e).2; omega
  refine ⟨heap_set (i := 2) (heap_grown h.box hg h.pd) _, (own_apart_kept h.ot hg h.atd).kept gb (.inr h.pt), (own_apart_kept h.oc hg h.acd).kept gb (.inr h.pc), ?_, h.pt, h.pc, ?_, h.atc, a1, a2, h.ge, (h.low.grown hg h.size (fun q e => (h.od.lt q e).1)).setCell h.ge _, by simpa using Nat.le_trans h.size hg.size⟩
  · rw [show intVals (ds ++ [x]) = intVals ds ++ [.int .i64 x] by simp [intVals]]
    exact ho.kept gb (.inr (by rw [slice_own]; intro e; injection e with e; exact hbp e))
  · rw [slice_own]; intro e; injection e with e; exact hbp e
end
end Go.Proofs.Ytfpcjgolcbjnjaa
