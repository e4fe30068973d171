/- Pruning, the program's: LiveGates, Optimize. No condition. -/
import Derived.Test.YtegdlegndgdgiaaProg
import Derived.Test.YtegdlegndgdgiaaUsP
import Derived.Test.YtegdlegndgdgiaaSmId
namespace Go.Proofs.Ytegdlegndgdgiaa
open Go Go.RowKit
theorem wpList_um_len (w : World) {ops : Array Oper} {rest : List Oper} {o : Oper} {a : Act} {Q : Exit → Act → World → Prop}
    (hg : o.guard = none) (m : Operand) (hop : o.op = Op.call { callee := Callee.builtin Builtin.len, args := #[m], argTypes := #[99] }) {mb n : Nat} {f : Nat → Bool} {c : Nat → Int} (h : Um mb n w f c)
    (hm : a.eval m = .map (some mb)) (hK : wpList Try.prog ops Q rest (a.put o.dst (.int .i64 ((cntT f n : Nat) : Int))) w) : wpList Try.prog ops Q (o :: rest) a w := by
  refine wpList_plain hg fun K' hK' => ?_
  unfold Oper.wp
  simp [execOp, hop, resolve, invoke, builtin, hm, h.len o.type, Result.andThen]
  exact hK' _ _ hK
set_option maxRecDepth 100000 in
set_option maxHeartbeats 1000000 in
theorem impl_LiveGates : CtoI 52 livI := by
  intro A0 n0 c0 z0 A1 n1 c1 z1 w h0 l0 m0 h1 l1 m1
  have al := below_alloc w (.cells #[.slice A0 n0 c0, .slice A1 n1 c1] 31)
  have b0 := heap_alloc_new w (.cells #[.slice A0 n0 c0, .slice A1 n1 c1] 31)
  have j0 := (h0.bound.below al).ints al.size
  have j1 := (h1.bound.below al).ints al.size
  have i0 := h0.bound
  have i1 := h1.bound
  clear h0 h1
  go_enter Try.func52, Try.ntmps52
  by_cases hc : cirOk z0 n0 z1
  · have hr : livI z0 n0 z1 = (rnk (lv z0 n0 z1) n0 : Nat) := if_pos hc
    have cK := impl_CircuitOk A0 n0 c0 z0 A1 n1 c1 z1 true (decide_eq_true hc) _ j0 l0 (by omega) j1 l1 (by omega)
    rw [hr]
    clear hr
    go_wp2_with fail
    generalize w.alloc (.cells #[.slice A0 n0 c0, .slice A1 n1 c1] 31) = w0 at *
    refine cK.mono ?_
    rintro e w1 ⟨rfl, hb1⟩
    have b1 := heap_below b0 hb1
    have x0 := (blk (i := 0) (u := .slice A0 n0 c0) b1 rfl).1
    have x1 := (blk (i := 1) (u := .slice A1 n1 c1) b1 rfl).1
    have lo1 := al.trans (hb1.mono al.size)
    have cP := impl_usesOfLive A0 n0 c0 z0 A1 n1 c1 z1 w1 ((i0.below lo1).ints lo1.size) l0 ((i1.below lo1).ints lo1.size) l1 m1 hc
    clear cK b0 hb1 j0 j1 hc
    go_wp2_with fail
    refine cP.mono ?_
    rintro e w2 ⟨mb, cf, rfl, -, um, hb2⟩
    have lo2 := Lib.hid (lo1.trans (hb2.mono lo1.size))
    clear cP hb2 lo1
    go_wp2_with (at_len; refine wpList_um_len _ rfl _ rfl um rfl ?_)
    go_ret
    exact ⟨ret_int (by rw [cntT_rnk]), lo2.out⟩
  · have cK := impl_CircuitOk A0 n0 c0 z0 A1 n1 c1 z1 false (decide_eq_false hc) _ j0 l0 (by omega) j1 l1 (by omega)
    rw [(pru_no hc).2.2]
    clear hc
    go_wp2_with fail
    generalize w.alloc (.cells #[.slice A0 n0 c0, .slice A1 n1 c1] 31) = w0 at *
    refine cK.mono ?_
    rintro e w1 ⟨rfl, hb1⟩
    have lo1 := Lib.hid (al.trans (hb1.mono al.size))
    clear cK hb1
    go_wp2_with fail
    go_ret
    exact ⟨rfl, lo1.out⟩
set_option maxRecDepth 100000 in
set_option maxHeartbeats 1000000 in
theorem impl_Optimize : CtoC 47 optZ optO := by
  intro A0 n0 c0 z0 A1 n1 c1 z1 w h0 l0 m0 h1 l1 m1
  have k0 := Bx2.start w 31 #[.slice A0 n0 c0, .slice A1 n1 c1] 31 #[.slice none 0 0, .slice none 0 0]
  have i0 := h0.bound
  have i1 := h1.bound
  have L0 := Lib.hid (simZ_len (os := z1) l0)
  have L1 := Lib.hid ((simO_len z0 z1 n0).trans l1)
  have cS := fun W j0 j1 => impl_Simplify A0 n0 c0 z0 A1 n1 c1 z1 W j0 l0 m0 j1 l1 m1
  clear h0 h1 l0 l1
  go_enter Try.func47, Try.ntmps47
  go_wp2_with fail
  generalize hw0 : (w.alloc (.cells #[.slice A0 n0 c0, .slice A1 n1 c1] 31)).alloc (.cells #[.slice none 0 0, .slice none 0 0] 31) = w0 at *
  clear hw0
  have x0 := (blk (i := 0) (u := .slice A0 n0 c0) k0.arg rfl).1
  have x1 := (blk (i := 1) (u := .slice A1 n1 c1) k0.arg rfl).1
  replace cS := cS w0 ((i0.below k0.low).ints k0.low.size) ((i1.below k0.low).ints k0.low.size)
  go_wp2_with fail
  refine cS.mono ?_
  rintro e w1 ⟨B0, B1, p0, p1, d0, d1, rfl, o, hb1⟩
  have k1 := k0.next hb1
  have hl0 := o.o0.len
  have hl1 := o.o1.len
  obtain ⟨e0, e1⟩ := L0.out
  have e2 := L1.out
  have hp : p0 = simN z0 n0 z1 := by omega
  have hq : p1 = n1 := by omega
  subst hp
  subst hq
  have cP := impl_Prune B0 (simN z0 n0 z1) d0 (simZ z0 n0 z1) B1 p1 d1 (simO z0 n0 z1) w1 o.o0.ints (by omega) (by omega) o.o1.ints (by omega) (by omega)
  clear cS k0 x0 x1 i0 i1 o hb1 hl0 hl1 e0 e1 e2 L0 L1
  go_wp2_with fail
  refine cP.mono ?_
  rintro e w2 ⟨C0, C1, q0, q1, f0, f1, rfl, o, hb2⟩
  have k2 := k1.next hb2
  have hs := k1.lt
  have hs2 := hb2.size
  obtain ⟨r0, g0⟩ := blk (i := 0) k2.res rfl
  obtain ⟨r1, g1⟩ := blk (i := 1) k2.res rfl
  have R := Lib.hid (heap_set (i := 1) (heap_set (i := 0) k2.res (.slice C0 q0 f0)) (.slice C1 q1 f1))
  have O := Lib.hid (((o.setFar (g := w.heap.size + 1) (i := 0) hs (.slice C0 q0 f0)).setFar (g := w.heap.size + 1) (i := 1) hs (.slice C1 q1 f1)).wide (show w.heap.size ≤ w1.heap.size by omega) (Nat.le_refl _))
  have L := Lib.hid ((k2.low.setCell (p := ⟨w.heap.size + 1, 0, none⟩) (by simp) (.slice C0 q0 f0)).setCell (p := ⟨w.heap.size + 1, 1, none⟩) (by simp) (.slice C1 q1 f1))
  clear o hb2 cP k1 k2
  go_wp2_with fail
  refine bodyPost_ret (results_cell_row (P := Try.prog) rfl _ _ (w.heap.size + 1) 31 _ (0, 0) _ rfl R.out Try.underlying31 rfl (by kernel_rfl)) rfl ?_
  exact ⟨C0, C1, q0, q1, f0, f1, rfl, O.out.wide (Nat.le_refl _) (by simp), L.out⟩
end Go.Proofs.Ytegdlegndgdgiaa
