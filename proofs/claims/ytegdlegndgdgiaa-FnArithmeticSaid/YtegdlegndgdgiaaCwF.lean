/- Circuit builders: what the seven words' functions return, in plain numbers; how a circuit is handed back. No condition. -/
import Derived.Test.YtegdlegndgdgiaaProg
import Derived.Test.YtegdlegndgdgiaaCwE
import Derived.Test.YtegdlegndgdgiaaCwX
import Derived.Test.YtegdlegndgdgiaaW1
namespace Go.Proofs.Ytegdlegndgdgiaa
open Go Go.RowKit
def wConst (z : List Int) (n : Nat) (os : List Int) (N : Int) : List Int × List Int := if canC14 z n os ∧ (0 ≤ N ∧ N ≤ 15) then constAt z N 4 else (z, [])
def wAdd (z : List Int) (n : Nat) (os us ws : List Int) : List Int × List Int := if canB14 z n os us ws then sumA z us ws 0 3 else (z, [])
def wSub (z : List Int) (n : Nat) (os us ws : List Int) : List Int × List Int := if canB14 z n os us ws then sumA (notsAt z ws 4).1 us (notsAt z ws 4).2 1 3 else (z, [])
def wMul (z : List Int) (n : Nat) (os us ws : List Int) : List Int × List Int := if canB14 z n os us ws then mulAt z us ws 3 else (z, [])
def wLess (z : List Int) (n : Nat) (os us ws : List Int) : List Int × Int := if canB14 z n os us ws then lessA z us ws else (z, -1)
def wEqual (z : List Int) (n : Nat) (os us ws : List Int) : List Int × Int := if canB14 z n os us ws then equalA z us ws else (z, -1)
def wMux (z : List Int) (n : Nat) (os : List Int) (s : Int) (us ws : List Int) : List Int × List Int := if canB14 z n os us ws ∧ (0 ≤ s ∧ s < (n : Int)) then muxAt z s us ws 4 else (z, [])
section
variable {w w4 w5 : World} {G n0 n1 c0 c1 n2 c2 : Nat} {A0 A1 A2 : Option Addr} {z0 z1 us : List Int}
theorem own_stored (hG' : G < w4.heap.size) (oc : OwnCircuit w4.heap.size w5.heap.size w5 (.slice A0 n0 c0) (.slice A1 n1 c1) n0 n1 z0 z1) (L4 : w.heap.size ≤ w4.heap.size) :
    OwnCircuit w.heap.size ((w5.setCell ⟨G, 0, none⟩ (.slice A0 n0 c0)).setCell ⟨G, 1, none⟩ (.slice A1 n1 c1)).heap.size ((w5.setCell ⟨G, 0, none⟩ (.slice A0 n0 c0)).setCell ⟨G, 1, none⟩ (.slice A1 n1 c1)) (.slice A0 n0 c0) (.slice A1 n1 c1) n0 n1 z0 z1 :=
  ⟨((oc.o0.setFar hG' _).setFar hG' _).wide L4 (by simp), ((oc.o1.setFar hG' _).setFar hG' _).wide L4 (by simp), oc.a01⟩
theorem low_stored (hG : w.heap.size ≤ G) (L4 : Below w.heap.size w w4) (hb5 : Below w4.heap.size w4 w5) (x y : Value) : Below w.heap.size w ((w5.setCell ⟨G, 0, none⟩ x).setCell ⟨G, 1, none⟩ y) :=
  ((L4.trans (hb5.mono L4.size)).setCell (p := ⟨G, 0, none⟩) hG _).setCell (p := ⟨G, 1, none⟩) hG _
theorem stored_A (hG : w.heap.size ≤ G) (hG' : G < w4.heap.size) (L4 : Below w.heap.size w w4) (oc : OwnCircuit w4.heap.size w5.heap.size w5 (.slice A0 n0 c0) (.slice A1 n1 c1) n0 n1 z0 z1) (oa : OwnA 1 w4.heap.size w5.heap.size w5 (.slice A2 n2 c2) n2 us)
    (ap : apart (.slice A2 n2 c2) (.slice A0 n0 c0) ∧ apart (.slice A2 n2 c2) (.slice A1 n1 c1)) (hb5 : Below w4.heap.size w4 w5) :
    Post_Circuit_A z0 z1 us w (.returned (.tuple #[.agg #[.slice A0 n0 c0, .slice A1 n1 c1], .slice A2 n2 c2])) ((w5.setCell ⟨G, 0, none⟩ (.slice A0 n0 c0)).setCell ⟨G, 1, none⟩ (.slice A1 n1 c1)) :=
  ⟨A0, A1, n0, n1, c0, c1, A2, n2, c2, rfl, own_stored hG' oc L4.size, ((oa.setFar hG' _).setFar hG' _).wide L4.size (by simp), ap, low_stored hG L4 hb5 _ _⟩
theorem stored_I (x : Int) (hG : w.heap.size ≤ G) (hG' : G < w4.heap.size) (L4 : Below w.heap.size w w4) (oc : OwnCircuit w4.heap.size w5.heap.size w5 (.slice A0 n0 c0) (.slice A1 n1 c1) n0 n1 z0 z1) (hb5 : Below w4.heap.size w4 w5) :
    Post_Circuit_int z0 z1 x w (.returned (.tuple #[.agg #[.slice A0 n0 c0, .slice A1 n1 c1], .int .i64 x])) ((w5.setCell ⟨G, 0, none⟩ (.slice A0 n0 c0)).setCell ⟨G, 1, none⟩ (.slice A1 n1 c1)) :=
  ⟨A0, A1, n0, n1, c0, c1, rfl, own_stored hG' oc L4.size, low_stored hG L4 hb5 _ _⟩
end
end Go.Proofs.Ytegdlegndgdgiaa
