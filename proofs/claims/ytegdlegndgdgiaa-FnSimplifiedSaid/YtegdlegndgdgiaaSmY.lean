/- Pruning: LiveGates and Optimize, the model's. No condition. -/
import Derived.Test.YtegdlegndgdgiaaProg
import Derived.Test.YtegdlegndgdgiaaSmX
namespace Go.Proofs.Ytegdlegndgdgiaa
open Go Go.RowKit
theorem field_gates (A0 A1 : Option Addr) (n0 n1 c0 c1 : Nat) (w : World) : (Instr.field 31 (.agg #[.slice A0 n0 c0, .slice A1 n1 c1]) 0).run Try.prog w = .ok (.slice A0 n0 c0) w := by kernel_rfl
set_option maxRecDepth 100000 in
set_option maxHeartbeats 1000000 in
theorem spec_Optimize (A0 : Option Addr) (n0 c0 : Nat) (z0 : List Int) (A1 : Option Addr) (n1 c1 : Nat) (z1 : List Int) (w : World) (h0 : Ints w A0 z0) (l0 : z0.length = n0 * 3) (m0 : n0 ≤ 2000000) (h1 : Ints w A1 z1) (l1 : z1.length = n1) (m1 : n1 ≤ 2000000) :
    Calls Try.prog 60 #[.agg #[.slice A0 n0 c0, .slice A1 n1 c1]] w (Post_Circuit (optZ z0 n0 z1) (optO z0 n0 z1) w) := by
  have k0 := Bx2.start w 31 #[.slice A0 n0 c0, .slice A1 n1 c1] 31 #[.slice none 0 0, .slice none 0 0]
  have i0 := h0.bound
  have i1 := h1.bound
  have L0 := Lib.hid (simZ_len (os := z1) l0)
  have L1 := Lib.hid ((simO_len z0 z1 n0).trans l1)
  have cS := fun W j0 j1 => spec_Simplify A0 n0 c0 z0 A1 n1 c1 z1 W j0 l0 m0 j1 l1 m1
  clear h0 h1 l0 l1
  go_enter Try.func60, Try.ntmps60
  go_wp2_with fail
  generalize hw0 : (w.alloc (.cells #[.slice A0 n0 c0, .slice A1 n1 c1] 31)).alloc (.cells #[.slice none 0 0, .slice none 0 0] 31) = w0 at *
  clear hw0
  have x0 := (blk (i := 0) (u := .slice A0 n0 c0) k0.arg rfl).1
  have x1 := (blk (i := 1) (u := .slice A1 n1 c1) k0.arg rfl).1
  replace cS := cS w0 ((i0.below k0.low).ints k0.low.size) ((i1.below k0.low).ints k0.low.size)
  go_wp2_with fail
  refine cS.mono ?_
  rintro e w1 ⟨B0, B1, p0, p1, d0, d1, rfl, o, hb1⟩
  have k1 := k0.next hb1
  have hl0 := o.o0.len
  have hl1 := o.o1.len
  obtain ⟨e0, e1⟩ := L0.out
  have e2 := L1.out
  have hp : p0 = simN z0 n0 z1 := by omega
  have hq : p1 = n1 := by omega
  subst hp
  subst hq
  have cP := spec_Prune B0 (simN z0 n0 z1) d0 (simZ z0 n0 z1) B1 p1 d1 (simO z0 n0 z1) w1 o.o0.ints (by omega) (by omega) o.o1.ints (by omega) (by omega)
  clear cS k0 x0 x1 i0 i1 o hb1 hl0 hl1 e0 e1 e2 L0 L1
  go_wp2_with fail
  refine cP.mono ?_
  rintro e w2 ⟨C0, C1, q0, q1, f0, f1, rfl, o, hb2⟩
  have k2 := k1.next hb2
  have hs := k1.lt
  have hs2 := hb2.size
  obtain ⟨r0, g0⟩ := blk (i := 0) k2.res rfl
  obtain ⟨r1, g1⟩ := blk (i := 1) k2.res rfl
  have R := Lib.hid (heap_set (i := 1) (heap_set (i := 0) k2.res (.slice C0 q0 f0)) (.slice C1 q1 f1))
  have O := Lib.hid (((o.setFar (g := w.heap.size + 1) (i := 0) hs (.slice C0 q0 f0)).setFar (g := w.heap.size + 1) (i := 1) hs (.slice C1 q1 f1)).wide (show w.heap.size ≤ w1.heap.size by omega) (Nat.le_refl _))
  have L := Lib.hid ((k2.low.setCell (p := ⟨w.heap.size + 1, 0, none⟩) (by simp) (.slice C0 q0 f0)).setCell (p := ⟨w.heap.size + 1, 1, none⟩) (by simp) (.slice C1 q1 f1))
  clear o hb2 cP k1 k2
  go_wp2_with fail
  refine bodyPost_ret (results_cell_row (P := Try.prog) rfl _ _ (w.heap.size + 1) 31 _ (0, 0) _ rfl R.out Try.underlying31 rfl (by kernel_rfl)) rfl ?_
  exact ⟨C0, C1, q0, q1, f0, f1, rfl, O.out.wide (Nat.le_refl _) (by simp), L.out⟩
end Go.Proofs.Ytegdlegndgdgiaa
