/- The law FnConstantCircuits: the walk, from the program's contracts. No condition. -/
import Derived.Test.YtegdlegndgdgiaaProg
import Derived.Test.YtegdlegndgdgiaaSmZ
import Derived.Test.YtegdlegndgdgiaaSameC
import Derived.Test.YtegdlegndgdgiaaCwS1
import Derived.Test.YtegdlegndgdgiaaCwS2
import Derived.Test.YtegdlegndgdgiaaCwS4
import Derived.Test.YtegdlegndgdgiaaNumB
import Derived.Test.YtegdlegndgdgiaaFieldW
import Derived.Test.YtegdlegndgdgiaaCirD
import Derived.Deep.RegionLaw
import Derived.Deep.RegionHeld3
namespace Go.Proofs.Ytegdlegndgdgiaa
open Go Go.RowKit
set_option maxHeartbeats 4000000 in
set_option maxRecDepth 100000 in
theorem FnConstantCircuits_from (hO : CtoC 47 optZ optO) (A : Option Addr) (n c : Nat) (w : World) (hb : Bytes w.heap.size w A n) (hm : n ≤ 9223372036854775807) :
    Calls Try.prog 10 #[.slice A n c] w fun e w' => e = .returned (.bool true) ∧ Below w.heap.size w w' := by
  by_cases hn : 1048576 < n
  · go_enter Try.func10, Try.ntmps10
    go_wp2_with fail
    refine (big_any A n c w true (by simpa using hn) hm).mono ?_
    rintro e w1 ⟨rfl, rfl⟩
    go_wp2_with fail
    go_ret
    exact ⟨rfl, Below.refl _ _⟩
  have hn' : n ≤ 1048576 := by omega
  go_enter Try.func10, Try.ntmps10
  go_wp2_with fail
  refine (big_any A n c w false (by simpa using hn') hm).mono ?_
  rintro e w1 ⟨rfl, rfl⟩
  go_wp2_with fail
  refine (DrawPlaces_any A n c w hb (by omega)).mono ?_
  rintro e w1 ⟨g, cap, zs, rfl, hl, hp, hown, low⟩
  have p0 := hp.at_ (j := 0) (by omega)
  have p1 := hp.at_ (j := 1) (by omega)
  have iz := Ints.of_own hown
  obtain ⟨_, _, e1, hg1, d0⟩ := iz.at_ (j := 0) (by omega)
  injection e1 with e1; injection e1 with e2 e3; subst e2 e3
  obtain ⟨_, _, e1, _, d1⟩ := iz.at_ (j := 1) (by omega)
  injection e1 with e1; injection e1 with e2 e3; subst e2 e3
  simp only [Nat.zero_add] at d0 d1
  generalize zs.getD 0 0 = z0 at *
  generalize zs.getD 1 0 = z1 at *
  obtain ⟨p00, p01⟩ := p0
  obtain ⟨p10, p11⟩ := p1
  have ha : 0 ≤ z0 % 16 ∧ z0 % 16 ≤ 15 := by omega
  have hbb : 0 ≤ z1 % 16 ∧ z1 % 16 ≤ 15 := by omega
  have hT := Two.of (z0 % 16) (z1 % 16)
  have hN := noIn_two (z0 % 16) (z1 % 16)
  have e1 := wConst_nil ha
  have e2 := wConst_four (a := z0 % 16) hbb
  have k1 := spec_WordConst none 0 0 [] none 0 0 [] (z0 % 16) w1 (Ints.nil _ _) rfl (by omega) (Ints.nil _ _) rfl (by omega)
  obtain ⟨X, hX⟩ : ∃ y, (constAt [] (z0 % 16) 4).2 = y := ⟨_, rfl⟩
  obtain ⟨Z1, hZ1⟩ : ∃ y, (constAt [] (z0 % 16) 4).1 = y := ⟨_, rfl⟩
  rw [hZ1] at hT e2 hN
  obtain ⟨Y, hY⟩ : ∃ y, (constAt Z1 (z1 % 16) 4).2 = y := ⟨_, rfl⟩
  obtain ⟨Z, hZ⟩ : ∃ y, (constAt Z1 (z1 % 16) 4).1 = y := ⟨_, rfl⟩
  rw [hX, hY, hZ] at hT
  rw [hZ] at hN
  have lZ1 : Z1.length = 4 * 3 := by
    obtain ⟨g1, _, _⟩ := constAt_grw (z := []) (n := 0) (z0 % 16) rfl 4
    rw [← hZ1]; exact g1.len
  rw [e1, hZ1, hX] at k1
  have E2 := Lib.hid (show (wConst Z1 4 [] (z1 % 16)).1 = Z ∧ (wConst Z1 4 [] (z1 % 16)).2 = Y by rw [e2]; exact ⟨hZ, hY⟩)
  obtain ⟨M, hM⟩ : ∃ y, wMul Z 8 [] X Y = y := ⟨_, rfl⟩
  obtain ⟨S, hS⟩ : ∃ y, wAdd M.1 42 [] M.2 X = y := ⟨_, rfl⟩
  obtain ⟨u1, u2, -, -⟩ := hT.mulAdd ha hbb hN
  obtain ⟨u3, u4, u5, u6, u7⟩ := opt_mulAdd hT ha hbb hN (y := S.1) (os := S.2) (by rw [hM, hS])
  rw [hM] at u1 u2
  have HT := Lib.hid hT
  have HM := Lib.hid hM
  have HS := Lib.hid hS
  have HA := Lib.hid ha
  have HB := Lib.hid hbb
  have U := Lib.hid (And.intro u5 (And.intro u6 u7))
  have q0 := low.size
  clear hT hM hS hn hn' hm hb hp hl iz hown e1 hX hZ1 hZ hY e2 hN u5 u6 u7 ha hbb
  go_wp2_with fail
  refine k1.mono ?_
  rintro e w2 ⟨A0, A1, n0, n1, c0, c1, A2, n2, c2, rfl, oc, ox, _, hb⟩
  clear k1
  replace low := low.trans (hb.mono low.size)
  have q1 := hb.size
  have d02 := cell_on d0 hb
  have d12 := cell_on d1 hb
  obtain rfl : n0 = 4 := by have := oc.o0.len; omega
  obtain rfl : n1 = 0 := by have := oc.o1.len1; simpa using this.symm
  obtain rfl : n2 = 4 := by rw [← ox.len1]; exact HT.out.lu
  clear hb d0 d1
  have al := below_alloc w2 (.cells #[.slice A0 4 c0, .slice A1 0 c1] 31)
  replace oc := oc.alloc (.cells #[.slice A0 4 c0, .slice A1 0 c1] 31)
  replace ox := ox.alloc (.cells #[.slice A0 4 c0, .slice A1 0 c1] 31)
  have h6 := heap_alloc_new w2 (.cells #[.slice A0 4 c0, .slice A1 0 c1] 31)
  replace low := low.trans (al.mono low.size)
  have d03 := cell_on d02 al
  have d13 := cell_on d12 al
  go_upto_region 5 with (fail)
  have zg6 : (w2.alloc (.cells #[.slice A0 4 c0, .slice A1 0 c1] 31)).heap.size = w2.heap.size + 1 := by simp
  generalize w2.alloc (.cells #[.slice A0 4 c0, .slice A1 0 c1] 31) = w3 at *
  generalize w2.heap.size = g6 at *
  clear al d02 d12
  have k2 := spec_WordConst A0 4 c0 Z1 A1 0 c1 [] (z1 % 16) w3.drew oc.drew.o0.ints lZ1 (by omega) oc.drew.o1.ints rfl (by omega)
  rw [E2.out.1, E2.out.2] at k2
  have x0 := (blk (i := 0) (u := .slice A0 4 c0) h6 rfl).1
  have x1 := (blk (i := 1) (u := .slice A1 0 c1) h6 rfl).1
  have x0' : w3.drew.cell? ⟨g6, 0, none⟩ = some (.slice A0 4 c0) := x0
  have x1' : w3.drew.cell? ⟨g6, 1, none⟩ = some (.slice A1 0 c1) := x1
  have tm1 : z1.tmod 16 = z1 % 16 := Int.tmod_eq_emod_of_nonneg p10
  have d13' : w3.drew.cell? ⟨g, 1, none⟩ = some (.int .i64 z1) := d13
  go_region_law (go_simp; (try simp only [tm1]); go_at_call 54; (with_reducible refine k2.mono ?_); rintro e w4 ⟨B0, B1, m0, m1, f0, f1, A3, n3, c3, rfl, oz, oy, _, hb⟩; (obtain ⟨c7, f8⟩ := blk (i := 0) (u := .slice A0 4 c0) (heap_below (w := w3.drew) h6 hb) rfl); (obtain ⟨c9, f10⟩ := blk (i := 1) (u := .slice A1 0 c1) (heap_below (w := w3.drew) h6 hb) rfl))
  all_goals
    obtain rfl : m0 = 8 := by have h1 := oz.o0.len; have h2 := HT.out.len; omega
    obtain rfl : m1 = 0 := by have := oz.o1.len1; simpa using this.symm
    obtain rfl : n3 = 4 := by rw [← oy.len1]; exact HT.out.lw
    have qg : g < g6 := by omega
    have q3 : w3.heap.size = g6 + 1 := zg6
    have q4 : g6 + 1 ≤ w4.heap.size := by have := hb.size; simp at this; omega
    have h64 := heap_below (w := w3.drew) h6 hb
    have H65 := Lib.hid (show ((w4.setCell ⟨g6, 0, none⟩ (.slice B0 8 f0)).setCell ⟨g6, 1, none⟩ (.slice B1 0 f1)).heap[g6]? = some (.cells #[.slice B0 8 f0, .slice B1 0 f1] 31 (0, 0)) by simpa using heap_set (i := 1) (heap_set (i := 0) h64 (.slice B0 8 f0)) (.slice B1 0 f1))
    have OX := Lib.hid (((ox.drew.below hb).setFar' (g := g6) (i := 0) (Nat.le_refl _) (.slice B0 8 f0)).setFar' (g := g6) (i := 1) (Nat.le_refl _) (.slice B1 0 f1))
    have OZ := Lib.hid ((oz.setFar (g := g6) (i := 0) (show g6 < w3.heap.size by omega) (.slice B0 8 f0)).setFar (g := g6) (i := 1) (show g6 < w3.heap.size by omega) (.slice B1 0 f1))
    have OY := Lib.hid ((oy.setFar (g := g6) (i := 0) (show g6 < w3.heap.size by omega) (.slice B0 8 f0)).setFar (g := g6) (i := 1) (show g6 < w3.heap.size by omega) (.slice B1 0 f1))
    have D0' := Lib.hid (far_two (i := 0) (j := 1) (cell_on (show w3.drew.cell? ⟨g, 0, none⟩ = some (.int .i64 z0) from d03) hb) (show g ≠ g6 by omega) (.slice B0 8 f0) (.slice B1 0 f1))
    have D1' := Lib.hid (far_two (i := 0) (j := 1) (cell_on d13' hb) (show g ≠ g6 by omega) (.slice B0 8 f0) (.slice B1 0 f1))
    have LO := Lib.hid (((low.drew.trans (hb.mono low.size)).setCell (p := ⟨g6, 0, none⟩) (show w.heap.size ≤ g6 by omega) (.slice B0 8 f0)).setCell (p := ⟨g6, 1, none⟩) (show w.heap.size ≤ g6 by omega) (.slice B1 0 f1))
    clear oz ox oy oc low d03 d13 d13' h6 h64 hb x0 x1 x0' x1' c7 f8 c9 f10 k2
    go_upto_region 6 with (fail)
    have q5 : ((w4.setCell ⟨g6, 0, none⟩ (.slice B0 8 f0)).setCell ⟨g6, 1, none⟩ (.slice B1 0 f1)).heap.size = w4.heap.size := by simp
    generalize (w4.setCell ⟨g6, 0, none⟩ (.slice B0 8 f0)).setCell ⟨g6, 1, none⟩ (.slice B1 0 f1) = w5 at *
    have k3 := spec_WordMul B0 8 f0 Z B1 0 f1 [] A2 4 c2 X A3 4 c3 Y w5 OZ.out.o0.ints HT.out.len (by omega) OZ.out.o1.ints rfl (by omega) OX.out.ints HT.out.lu (by omega) OY.out.ints HT.out.lw (by omega)
    rw [HM.out] at k3
    have x0 := (blk (i := 0) (u := .slice B0 8 f0) H65.out rfl).1
    have x1 := (blk (i := 1) (u := .slice B1 0 f1) H65.out rfl).1
    go_wp2_with fail
    refine k3.mono ?_
    rintro e w6 ⟨E0, E1, n5, n6, r0, r1, A4, n7, c4, rfl, om, oq, _, hb⟩
    obtain rfl : n5 = 42 := by have := om.o0.len; omega
    obtain rfl : n6 = 0 := by have := om.o1.len1; simpa using this.symm
    obtain rfl : n7 = 4 := by rw [← oq.len1]; exact u2
    have q6 := hb.size
    have h64 := heap_below H65.out hb
    obtain ⟨x0, fx0⟩ := blk (i := 0) (u := .slice B0 8 f0) h64 rfl
    obtain ⟨x1, fx1⟩ := blk (i := 1) (u := .slice B1 0 f1) h64 rfl
    have H66 := Lib.hid (show ((w6.setCell ⟨g6, 0, none⟩ (.slice E0 42 r0)).setCell ⟨g6, 1, none⟩ (.slice E1 0 r1)).heap[g6]? = some (.cells #[.slice E0 42 r0, .slice E1 0 r1] 31 (0, 0)) by simpa using heap_set (i := 1) (heap_set (i := 0) h64 (.slice E0 42 r0)) (.slice E1 0 r1))
    have OX2 := Lib.hid (((OX.out.below hb).setFar' (g := g6) (i := 0) (Nat.le_refl _) (.slice E0 42 r0)).setFar' (g := g6) (i := 1) (Nat.le_refl _) (.slice E1 0 r1))
    have OM := Lib.hid ((om.setFar (g := g6) (i := 0) (show g6 < w5.heap.size by omega) (.slice E0 42 r0)).setFar (g := g6) (i := 1) (show g6 < w5.heap.size by omega) (.slice E1 0 r1))
    have OQ := Lib.hid ((oq.setFar (g := g6) (i := 0) (show g6 < w5.heap.size by omega) (.slice E0 42 r0)).setFar (g := g6) (i := 1) (show g6 < w5.heap.size by omega) (.slice E1 0 r1))
    have D02 := Lib.hid (far_two (i := 0) (j := 1) (cell_on D0'.out hb) (show g ≠ g6 by omega) (.slice E0 42 r0) (.slice E1 0 r1))
    have D12 := Lib.hid (far_two (i := 0) (j := 1) (cell_on D1'.out hb) (show g ≠ g6 by omega) (.slice E0 42 r0) (.slice E1 0 r1))
    have LO2 := Lib.hid (((LO.out.trans (hb.mono LO.out.size)).setCell (p := ⟨g6, 0, none⟩) (show w.heap.size ≤ g6 by omega) (.slice E0 42 r0)).setCell (p := ⟨g6, 1, none⟩) (show w.heap.size ≤ g6 by omega) (.slice E1 0 r1))
    clear om oq h64 hb k3 OX OZ OY D0' D1' LO H65
    go_upto_region 7 with (fail)
    have q7 : ((w6.setCell ⟨g6, 0, none⟩ (.slice E0 42 r0)).setCell ⟨g6, 1, none⟩ (.slice E1 0 r1)).heap.size = w6.heap.size := by simp
    clear x0 fx0 x1 fx1
    generalize (w6.setCell ⟨g6, 0, none⟩ (.slice E0 42 r0)).setCell ⟨g6, 1, none⟩ (.slice E1 0 r1) = w7 at *
    have k4 := spec_WordAdd E0 42 r0 M.1 E1 0 r1 [] A4 4 c4 M.2 A2 4 c2 X w7 OM.out.o0.ints u1 (by omega) OM.out.o1.ints rfl (by omega) OQ.out.ints u2 (by omega) OX2.out.ints HT.out.lu (by omega)
    rw [HS.out] at k4
    have x0 := (blk (i := 0) (u := .slice E0 42 r0) H66.out rfl).1
    have x1 := (blk (i := 1) (u := .slice E1 0 r1) H66.out rfl).1
    go_wp2_with fail
    refine k4.mono ?_
    rintro e w8 ⟨F0, F1, n8, n9, s0, s1, A5, n10, c5, rfl, om, oq, _, hb⟩
    obtain rfl : n8 = 60 := by have := om.o0.len; omega
    obtain rfl : n9 = 0 := by have := om.o1.len1; simpa using this.symm
    obtain rfl : n10 = 4 := by rw [← oq.len1]; exact u4
    have q8 := hb.size
    have h64 := heap_below H66.out hb
    obtain ⟨x0, fx0⟩ := blk (i := 0) (u := .slice E0 42 r0) h64 rfl
    obtain ⟨x1, fx1⟩ := blk (i := 1) (u := .slice E1 0 r1) h64 rfl
    have H67 := Lib.hid (show ((w8.setCell ⟨g6, 0, none⟩ (.slice F0 60 s0)).setCell ⟨g6, 1, none⟩ (.slice F1 0 s1)).heap[g6]? = some (.cells #[.slice F0 60 s0, .slice F1 0 s1] 31 (0, 0)) by simpa using heap_set (i := 1) (heap_set (i := 0) h64 (.slice F0 60 s0)) (.slice F1 0 s1))
    have OM3 := Lib.hid ((om.setFar (g := g6) (i := 0) (show g6 < w7.heap.size by omega) (.slice F0 60 s0)).setFar (g := g6) (i := 1) (show g6 < w7.heap.size by omega) (.slice F1 0 s1))
    have OQ3 := Lib.hid ((oq.setFar (g := g6) (i := 0) (show g6 < w7.heap.size by omega) (.slice F0 60 s0)).setFar (g := g6) (i := 1) (show g6 < w7.heap.size by omega) (.slice F1 0 s1))
    have D03 := Lib.hid (far_two (i := 0) (j := 1) (cell_on D02.out hb) (show g ≠ g6 by omega) (.slice F0 60 s0) (.slice F1 0 s1))
    have D13 := Lib.hid (far_two (i := 0) (j := 1) (cell_on D12.out hb) (show g ≠ g6 by omega) (.slice F0 60 s0) (.slice F1 0 s1))
    have LO3 := Lib.hid (((LO2.out.trans (hb.mono LO2.out.size)).setCell (p := ⟨g6, 0, none⟩) (show w.heap.size ≤ g6 by omega) (.slice F0 60 s0)).setCell (p := ⟨g6, 1, none⟩) (show w.heap.size ≤ g6 by omega) (.slice F1 0 s1))
    clear om oq h64 hb k4 OX2 OM OQ D02 D12 LO2 H66
    go_upto_region 8 with (fail)
    have q9 : ((w8.setCell ⟨g6, 0, none⟩ (.slice F0 60 s0)).setCell ⟨g6, 1, none⟩ (.slice F1 0 s1)).heap.size = w8.heap.size := by simp
    clear x0 fx0 x1 fx1
    generalize (w8.setCell ⟨g6, 0, none⟩ (.slice F0 60 s0)).setCell ⟨g6, 1, none⟩ (.slice F1 0 s1) = w9 at *
    obtain ⟨x1, fx1⟩ := blk (i := 1) (u := .slice F1 0 s1) H67.out rfl
    have H68 := Lib.hid (show (w9.setCell ⟨g6, 1, none⟩ (.slice A5 4 c5)).heap[g6]? = some (.cells #[.slice F0 60 s0, .slice A5 4 c5] 31 (0, 0)) by simpa using heap_set (i := 1) H67.out (.slice A5 4 c5))
    have OM4 := Lib.hid (OM3.out.setFar (g := g6) (i := 1) (show g6 < w7.heap.size by omega) (.slice A5 4 c5))
    have OQ4 := Lib.hid (OQ3.out.setFar (g := g6) (i := 1) (show g6 < w7.heap.size by omega) (.slice A5 4 c5))
    have D04 := Lib.hid (far_one (i := 1) D03.out (show g ≠ g6 by omega) (.slice A5 4 c5))
    have D14 := Lib.hid (far_one (i := 1) D13.out (show g ≠ g6 by omega) (.slice A5 4 c5))
    have LO4 := Lib.hid (LO3.out.setCell (p := ⟨g6, 1, none⟩) (show w.heap.size ≤ g6 by omega) (.slice A5 4 c5))
    clear OM3 OQ3 D03 D13 LO3 H67
    go_upto_region 9 with (fail)
    clear x1 fx1
    generalize w9.setCell ⟨g6, 1, none⟩ (.slice A5 4 c5) = wa at *
    have kO := hO F0 60 s0 S.1 A5 4 c5 S.2 wa OM4.out.o0.ints u3 (by omega) OQ4.out.ints u4 (by omega)
    have x0 := (blk (i := 0) (u := .slice F0 60 s0) H68.out rfl).1
    have x1 := (blk (i := 1) (u := .slice A5 4 c5) H68.out rfl).1
    obtain ⟨v1, v2, xs, v3, v4, v5, v6, v7⟩ := U.out
    have lz := (optZ_len (os := S.2) u3).1
    have lo := (optO_len S.1 S.2 60).trans u4
    generalize optZ S.1 60 S.2 = zy at *
    generalize optO S.1 60 S.2 = oy at *
    generalize optN S.1 60 S.2 = K at *
    go_wp2_with fail
    refine kO.mono ?_
    rintro e wb ⟨G0, G1, n11, n12, t0, t1, rfl, oo, hb⟩
    obtain rfl : n11 = K := by have := oo.o0.len; omega
    obtain rfl : n12 = 4 := by have := oo.o1.len; omega
    have D05 := cell_on D04.out hb
    have D15 := cell_on D14.out hb
    have LO5 := LO4.out.trans (hb.mono LO4.out.size)
    have al := below_alloc wb (.cells #[.slice G0 n11 t0, .slice G1 4 t1] 31)
    have h9 := heap_alloc_new wb (.cells #[.slice G0 n11 t0, .slice G1 4 t1] 31)
    have oo1 := oo.alloc (.cells #[.slice G0 n11 t0, .slice G1 4 t1] 31)
    have D06 := cell_on D05 al
    have D16 := cell_on D15 al
    have LO6 := LO5.trans (al.mono LO5.size)
    clear kO oo hb OM4 OQ4 D04 D14 LO4 H68 D05 D15 LO5 al x0 x1 U
    go_upto_region 10 with (fail)
    generalize wb.alloc (.cells #[.slice G0 n11 t0, .slice G1 4 t1] 31) = wc at *
    generalize wb.heap.size = g9 at *
    obtain ⟨i, hi, hz, hs1, hs2⟩ := infoInt
    obtain ⟨wd, hr, hown, hg⟩ := run_make_full (P := Try.prog) wc.drew wc.drew.heap.size 23 3 i (.int .i64 0) 1 Try.underlying23 hi hz hs1 .i64 .i64 80 (by rw [hs2]; omega) (by unfold maxLen; omega) (Nat.le_refl _)
    replace hr : (Instr.makeSlice 23 (.int .i64 80) (.int .i64 80)).run Try.prog wc.drew = .ok (.slice (some ⟨wc.heap.size, 0, none⟩) 80 80) wd := hr
    replace hown : wd.ownsRow wc.drew.heap.size 3 1 (.slice (some ⟨wc.heap.size, 0, none⟩) 80 80) 80 (intVals (List.replicate 80 0)) := by
      rw [show (Value.int .i64 0).cells = #[.int .i64 0] from rfl, Nat.mul_one, toList_madeCells_one] at hown
      rw [show intVals (List.replicate 80 0) = List.replicate 80 (Value.int .i64 0) by simp [intVals]]
      exact hown
    have hd8 : Below wc.drew.heap.size wc.drew wd := (Below.refl _ _).grown hg (Nat.le_refl _) (fun k h => by cases h)
    have g0 : Ints wd G0 zy := (oo1.drew.below hd8).o0.ints
    have g1' : Ints wd G1 oy := (oo1.drew.below hd8).o1.ints
    have kE := spec_EvalCircuit G0 n11 t0 zy G1 4 t1 oy (some ⟨wc.heap.size, 0, none⟩) 80 80 (List.replicate 80 0) wd g0 lz (by omega) g1' lo (by omega) (Ints.of_own hown) (by simp) (by omega)
    rw [v4, decide_eq_true v3] at kE
    have y0 : wc.drew.cell? ⟨g9, 0, none⟩ = some (.slice G0 n11 t0) := (blk (i := 0) h9 rfl).1
    have y1 : wc.drew.cell? ⟨g9, 1, none⟩ = some (.slice G1 4 t1) := (blk (i := 1) h9 rfl).1
    have z0' := cell_on y0 hd8
    have z1' := cell_on y1 hd8
    have h9d := heap_below (w := wc.drew) h9 hd8
    have D07 := cell_on (show wc.drew.cell? ⟨g, 0, none⟩ = some (.int .i64 z0) from D06) hd8
    have D17 := cell_on (show wc.drew.cell? ⟨g, 1, none⟩ = some (.int .i64 z1) from D16) hd8
    have LO7 := LO6.drew.trans (hd8.mono LO6.size)
    have hgl9 := heap_lt h9
    have oo2 := (oo1.drew.below hd8).o0.intsB.more (show g9 ≤ wd.heap.size by have h1 := hd8.size; have h2 : wc.drew.heap.size = wc.heap.size := rfl; omega)
    have V := Lib.hid (And.intro v1 (And.intro v2 (And.intro v5 (And.intro v6 v7))))
    have LZ := Lib.hid lz
    clear hown hg oo1 g0 g1' h9 D06 D16 LO6 v1 v2 v3 v4 v5 v6 v7 lz lo hi hz hs1 hs2 hd8
    go_region_law (go_simp; go_at_call 15; (with_reducible refine kE.mono ?_); rintro e we ⟨A6, n13, c6, rfl, oV, hb⟩)
    all_goals
      obtain rfl : n13 = 4 := by have := oV.len1; have := V.out.2.2.1; omega
      have h9e := heap_below h9d hb
      have D08 := cell_on D07 hb
      have D18 := cell_on D17 hb
      have LO8 := LO7.trans (hb.mono LO7.size)
      have iV := oV.intsB
      have oo3 := (oo2.below hb).more hb.size
      have y0 := (blk (i := 0) (u := .slice G0 n11 t0) h9e rfl).1
      clear hb oV h9d D07 D17 LO7 oo2 kE z0' z1' hr
      go_wp2_with fail
      go_loopw [12] (fun i wr => ∃ t : Nat, t ≤ n11 ∧ i = .int .i64 t ∧ Below we.heap.size we wr) (fun i _ => n11 - (intOf i).toNat)
      case atStart => exact ⟨0, Nat.zero_le _, rfl, Below.refl _ _⟩
      case round =>
        obtain ⟨t, ht, rfl, hbr⟩ := hrel
        have a0 := cell_on y0 hbr
        by_cases hlt : t < n11
        · have hn2 := V.out.1
          have t0' : (0 : Int) ≤ t := by omega
          have t1' : (t : Int) < n11 := by omega
          obtain ⟨q, o, rfl, hq, e0, -, -⟩ := gate_cells (oo3.below hbr) LZ.out hlt
          rw [V.out.2.1 t hlt] at e0
          have HB8 := Lib.hid hbr
          clear hbr
          go_wp2_with fail
          go_roundw
          case rel => exact ⟨t + 1, by omega, by go_num, HB8.out⟩
          case measure => simp [intOf]; omega
        · obtain rfl : t = n11 := by omega
          have D09 := cell_on D08 hbr
          have D19 := cell_on D18 hbr
          have LO9 := Lib.hid (LO8.trans (hbr.mono LO8.size))
          have iV9 : Ints wr A6 xs := (iV.below hbr).ints hbr.size
          have hx : numB xs = (z0 % 16 * (z1 % 16) + z0) % 16 := by
            rw [V.out.2.2.2.2]
            omega
          have kN := fun W (h : Ints W A6 xs) => spec_NumberOf A6 4 c6 xs W h V.out.2.2.1 (by omega) V.out.2.2.2.1
          rw [hx] at kN
          have hp0 : 0 ≤ z0 % 16 * (z1 % 16) := Int.mul_nonneg HA.out.1 HB.out.1
          have hp1 : z0 % 16 * (z1 % 16) ≤ 225 := by
            have h1 := Int.mul_le_mul HA.out.2 HB.out.2 HB.out.1 (by omega : (0 : Int) ≤ 15)
            omega
          have tm0 : z0.tmod 16 = z0 % 16 := Int.tmod_eq_emod_of_nonneg p00
          have wp : IntKind.i64.wrap (z0 % 16 * (z1 % 16)) = z0 % 16 * (z1 % 16) := by rw [IntKind.wrap_i64]; omega
          have ws' : IntKind.i64.wrap (z0 % 16 * (z1 % 16) + z0) = z0 % 16 * (z1 % 16) + z0 := by rw [IntKind.wrap_i64]; omega
          have tm2 : (z0 % 16 * (z1 % 16) + z0).tmod 16 = (z0 % 16 * (z1 % 16) + z0) % 16 := Int.tmod_eq_emod_of_nonneg (by omega)
          have hk2 : decide ((t : Int) ≤ 2) = true := decide_eq_true (by have := V.out.1; omega)
          have hk3 : decide (t ≤ 2) = true := decide_eq_true V.out.1
          clear hbr hx D08 D18 LO8 iV y0 h9e oo3
          go_wp2_with fail
          go_quiet (first | (go_at_call 36; refine Calls.quiet_of_same ((kN _ (Ints.below iV9 (below_drewN (Below.refl _ _) _))).mono fun _ _ ⟨he, hw⟩ => ⟨he, hw.symm⟩)))
          go_wp2_with fail
          go_ret
          exact ⟨by first | rfl | simp, below_drewN LO9.out _⟩
end Go.Proofs.Ytegdlegndgdgiaa
