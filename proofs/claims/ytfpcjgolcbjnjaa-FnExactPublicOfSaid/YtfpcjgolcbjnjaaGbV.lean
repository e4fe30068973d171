/- PublicOf, the program's and the model's. No condition. -/
import Derived.Test.YtfpcjgolcbjnjaaProg
import Derived.Test.YtfpcjgolcbjnjaaGbW
import Derived.Test.YtfpcjgolcbjnjaaCloneI
import Derived.Deep.RegionLaw
namespace Go.Proofs.Ytfpcjgolcbjnjaa
open Go Go.RowKit
set_option maxRecDepth 100000 in
set_option maxHeartbeats 4000000 in
theorem impl_PublicOf (A0 : Option Addr) (n0 c0 : Nat) (z0 : List Int) (A1 : Option Addr) (n1 c1 : Nat) (z1 : List Int) (d : Int) (A2 : Option Addr) (n2 c2 : Nat) (zs : List Int) (A3 : Option Addr) (n3 c3 : Nat) (ts : List Int) (w : World) (h0 : Ints w A0 z0) (l0 : z0.length = n0 * 3) (m0 : n0 ≤ 2000000) (h1 : Ints w A1 z1) (l1 : z1.length = n1) (m1 : n1 ≤ 2000000) (h2 : Ints w A2 zs) (l2 : zs.length = n2) (m2 : n2 ≤ 2000000) (h3 : Ints w A3 ts) (l3 : ts.length = n3) (m3 : n3 ≤ 2000000) :
    Calls Try.prog 13 #[.agg #[.slice A0 n0 c0, .slice A1 n1 c1], .agg #[.int .i64 d, .slice A2 n2 c2, .slice A3 n3 c3]] w (Post_Public_bool (pubT z0 n0 z1 d zs ts) (pubC z0 n0 z1 d zs ts) (pubD z0 n0 z1 d zs ts) (decide (gOk z0 n0 z1 d zs ts)) w) := by
  have k0 := Bx3.start w 27 #[.slice A0 n0 c0, .slice A1 n1 c1] 33 #[.int .i64 d, .slice A2 n2 c2, .slice A3 n3 c3] 37 #[.slice none 0 0, .slice none 0 0, .slice none 0 0]
  have i0 := h0.bound
  have i1 := h1.bound
  have i2 := h2.bound
  have i3 := h3.bound
  have L0 := Lib.hid l0
  have L1 := Lib.hid l1
  have L2 := Lib.hid l2
  have L3 := Lib.hid l3
  clear h0 h1 h2 h3
  go_enter Try.func13, Try.ntmps13
  go_upto_region 1 with (fail)
  generalize hw0 : ((w.alloc (.cells #[.slice A0 n0 c0, .slice A1 n1 c1] 27)).alloc (.cells #[.int .i64 d, .slice A2 n2 c2, .slice A3 n3 c3] 33)).alloc (.cells #[.slice none 0 0, .slice none 0 0, .slice none 0 0] 37) = w0 at *
  clear hw0
  have x0 := (blk (i := 0) k0.two.arg rfl).1
  have x1 := (blk (i := 1) k0.two.arg rfl).1
  have y0 := (blk (i := 0) k0.two.res rfl).1
  have y1 := (blk (i := 1) k0.two.res rfl).1
  have y2 := (blk (i := 2) k0.two.res rfl).1
  have s0 := k0.two.low.size
  have cG := impl_GarbledOk A0 n0 c0 z0 A1 n1 c1 z1 d A2 n2 c2 zs A3 n3 c3 ts w0 ((i0.below k0.two.low).ints s0) l0 m0 ((i1.below k0.two.low).ints s0) l1 m1 ((i2.below k0.two.low).ints s0) l2 m2 ((i3.below k0.two.low).ints s0) l3 m3
  clear l0 l1 l2 l3
  by_cases hg : gOk z0 n0 z1 d zs ts
  case neg =>
    have E := Lib.hid (show pubT z0 n0 z1 d zs ts = [] ∧ pubC z0 n0 z1 d zs ts = [] ∧ pubD z0 n0 z1 d zs ts = [] ∧ decide (gOk z0 n0 z1 d zs ts) = false from ⟨if_neg hg, if_neg hg, if_neg hg, decide_eq_false hg⟩)
    rw [decide_eq_false hg] at cG
    clear hg
    go_wp2_with fail
    refine cG.mono ?_
    rintro e w1 ⟨rfl, hb1⟩
    have k1 := k0.next hb1
    obtain ⟨r0, f0⟩ := blk (i := 0) k1.out rfl
    obtain ⟨r1, f1⟩ := blk (i := 1) k1.out rfl
    obtain ⟨r2, f2⟩ := blk (i := 2) k1.out rfl
    have R := Lib.hid (heap_set (i := 2) (heap_set (i := 1) (heap_set (i := 0) k1.out (.slice none 0 0)) (.slice none 0 0)) (.slice none 0 0))
    have L := Lib.hid (((k1.two.low.setCell (p := ⟨w.heap.size + 1 + 1, 0, none⟩) (by simp; omega) (.slice none 0 0)).setCell (p := ⟨w.heap.size + 1 + 1, 1, none⟩) (by simp; omega) (.slice none 0 0)).setCell (p := ⟨w.heap.size + 1 + 1, 2, none⟩) (by simp; omega) (.slice none 0 0))
    clear cG k0 x0 x1 y0 y1 y2 hb1
    go_wp2_with fail
    refine bodyPost_ret (results_cell_tmp_row (P := Try.prog) rfl _ _ _ (w.heap.size + 1 + 1) 37 _ (0, 0) _ rfl rfl R.out Try.underlying37 rfl (by kernel_rfl)) rfl ?_
    rw [E.out.1, E.out.2.1, E.out.2.2.1, E.out.2.2.2]
    exact ⟨none, none, none, 0, 0, 0, 0, 0, 0, rfl, OwnPublic.nil _ _ _, L.out⟩
  have E := Lib.hid (show pubT z0 n0 z1 d zs ts = ts ∧ pubC z0 n0 z1 d zs ts = gbC z0 zs d n0 ∧ pubD z0 n0 z1 d zs ts = low1 (outV zs z1) ∧ decide (gOk z0 n0 z1 d zs ts) = true from ⟨if_pos hg, if_pos hg, if_pos hg, decide_eq_true hg⟩)
  rw [decide_eq_true hg] at cG
  have n6 := hg.1.1
  have hw := hg.1.2.2
  have e2 : n2 = n0 := by rw [← L2.out]; exact hg.2.2.1.2
  subst e2
  clear hg
  go_wp2_with fail
  refine cG.mono ?_
  rintro e w1 ⟨rfl, hb1⟩
  have k1 := k0.next hb1
  clear cG k0 x0 x1 y0 y1 y2 hb1
  have x0 := (blk (i := 0) k1.two.arg rfl).1
  have x1 := (blk (i := 1) k1.two.arg rfl).1
  have y0 := (blk (i := 0) k1.two.res rfl).1
  have y1 := (blk (i := 1) k1.two.res rfl).1
  have y2 := (blk (i := 2) k1.two.res rfl).1
  go_upto_region 4 with (fail)
  have gx := heap_alloc_new w1 (.cells #[.slice A0 n2 c0, .slice A1 n1 c1, .int .i64 d, .slice A2 n2 c2, .slice A3 n3 c3] 77)
  have k2 := k1.next (below_alloc w1 (.cells #[.slice A0 n2 c0, .slice A1 n1 c1, .int .i64 d, .slice A2 n2 c2, .slice A3 n3 c3] 77))
  generalize hgg : w1.heap.size = g at *
  generalize hw2 : w1.alloc (.cells #[.slice A0 n2 c0, .slice A1 n1 c1, .int .i64 d, .slice A2 n2 c2, .slice A3 n3 c3] 77) = w2 at *
  clear hw2 hgg k1 x0 x1 y0 y1 y2
  have y2 := (blk (i := 2) k2.two.res rfl).1
  have s2 := k2.two.low.size
  have lt2 := k2.lt
  have cC := impl_CloneI A3 n3 c3 ts w2 ((i3.below k2.two.low).ints s2) L3.out m3
  go_wp2_with fail
  refine cC.mono ?_
  rintro e w3 ⟨B0, p0, d0', rfl, hl0, o0, hb3⟩
  have k3 := k2.next hb3
  have s3 := k3.two.low.size
  have q3 := hb3.size
  have cK := impl_constLabels g A0 n2 c0 z0 A1 n1 c1 d A2 n2 c2 zs (.slice A3 n3 c3) w3 (heap_below gx hb3) ((i0.below k3.two.low).ints s3) L0.out n6 ((i2.below k3.two.low).ints s3) L2.out rfl
  replace gx := heap_below gx hb3
  clear cC k2 hb3 y2
  go_wp2_with fail
  refine cK.mono ?_
  rintro e w4 ⟨B1, p1, d1', rfl, o1, hb4⟩
  have k4 := k3.next hb4
  have s4 := k4.two.low.size
  have q4 := hb4.size
  replace o0 := o0.any.below hb4
  replace gx := heap_below gx hb4
  have cD := impl_decodeBits g A0 n2 c0 A1 n1 c1 z1 d A2 n2 c2 zs (.slice A3 n3 c3) w4 gx ((i1.below k4.two.low).ints s4) L1.out m1 ((i2.below k4.two.low).ints s4) L2.out hw
  clear cK k3 hb4
  go_wp2_with fail
  refine cD.mono ?_
  rintro e w5 ⟨B2, p2, d2', rfl, o2, hb5⟩
  have k5 := k4.next hb5
  have q5 := hb5.size
  replace o0 := o0.below hb5
  replace o1 := o1.below hb5
  have lt := k4.lt
  obtain ⟨r0, f0⟩ := blk (i := 0) k5.out rfl
  obtain ⟨r1, f1⟩ := blk (i := 1) k5.out rfl
  obtain ⟨r2, f2⟩ := blk (i := 2) k5.out rfl
  have R := Lib.hid (heap_set (i := 2) (heap_set (i := 1) (heap_set (i := 0) k5.out (.slice B0 p0 d0')) (.slice B1 p1 d1')) (.slice B2 p2 d2'))
  have L := Lib.hid (((k5.two.low.setCell (p := ⟨w.heap.size + 1 + 1, 0, none⟩) (by simp; omega) (.slice B0 p0 d0')).setCell (p := ⟨w.heap.size + 1 + 1, 1, none⟩) (by simp; omega) (.slice B1 p1 d1')).setCell (p := ⟨w.heap.size + 1 + 1, 2, none⟩) (by simp; omega) (.slice B2 p2 d2'))
  have OO : OwnPublic w2.heap.size w5.heap.size w5 (.slice B0 p0 d0') (.slice B1 p1 d1') (.slice B2 p2 d2') p0 p1 p2 ts (gbC z0 zs d n2) (low1 (outV zs z1)) :=
    ⟨o0.wide (Nat.le_refl _) (by omega), o1.wide (by omega) (by omega), o2.wide (by omega) (Nat.le_refl _), o0.apart_of o1 (Nat.le_refl _), o0.apart_of o2 (by omega), o1.apart_of o2 (Nat.le_refl _)⟩
  have O := Lib.hid ((((OO.setFar (g := w.heap.size + 1 + 1) (i := 0) lt2 (.slice B0 p0 d0')).setFar (g := w.heap.size + 1 + 1) (i := 1) lt2 (.slice B1 p1 d1')).setFar (g := w.heap.size + 1 + 1) (i := 2) lt2 (.slice B2 p2 d2')).wide (lo' := w.heap.size) (by omega) (Nat.le_refl _))
  clear cD k4 hb5 OO o0 o1 o2 gx
  go_wp2_with fail
  refine bodyPost_ret (results_cell_tmp_row (P := Try.prog) rfl _ _ _ (w.heap.size + 1 + 1) 37 _ (0, 0) _ rfl rfl R.out Try.underlying37 rfl (by kernel_rfl)) rfl ?_
  rw [E.out.1, E.out.2.1, E.out.2.2.1, E.out.2.2.2]
  exact ⟨B0, B1, B2, p0, p1, p2, d0', d1', d2', rfl, O.out.wide (Nat.le_refl _) (by simp), L.out⟩
end Go.Proofs.Ytfpcjgolcbjnjaa
