/- The law FnComparisons: the walk. No condition. -/
import Derived.Test.YtegdlegndgdgiaaProg
import Derived.Test.YtegdlegndgdgiaaCwAr
import Derived.Test.YtegdlegndgdgiaaCwM2
import Derived.Deep.OwnRows
namespace Go.Proofs.Ytegdlegndgdgiaa
open Go Go.RowKit
theorem Ints.skip2 {w : World} {b : Nat} {x y : Int} {zs : List Int} (h : Ints w (some ⟨b, 0, none⟩) (x :: y :: zs)) : Ints w (some ⟨b, 2, none⟩) zs := fun h0 => by
  obtain ⟨b', o', e, hl, hc⟩ := h (by simp)
  injection e with e
  injection e with e1 e2
  subst e1 e2
  refine ⟨b, 2, rfl, hl, fun j hj => ?_⟩
  have := hc (2 + j) (by simp; omega)
  rw [Nat.zero_add] at this
  rw [this, Nat.add_comm 2 j]
  rfl
set_option maxHeartbeats 4000000 in
set_option maxRecDepth 100000 in
theorem FnComparisons_walk (A : Option Addr) (n c : Nat) (w : World) (hb : Bytes w.heap.size w A n) (hm : n ≤ 9223372036854775807) :
    Calls Try.prog 6 #[.slice A n c] w fun e w' => e = .returned (.bool true) ∧ Below w.heap.size w w' := by
  by_cases hn : 1048576 < n
  · go_enter Try.func6, Try.ntmps6
    go_wp2_with fail
    refine (big_any A n c w true (by simpa using hn) hm).mono ?_
    rintro e w1 ⟨rfl, rfl⟩
    go_wp2_with fail
    go_ret
    exact ⟨rfl, Below.refl _ _⟩
  · have hn' : n ≤ 1048576 := by omega
    go_enter Try.func6, Try.ntmps6
    go_wp2_with fail
    refine (big_any A n c w false (by simpa using hn') hm).mono ?_
    rintro e w1 ⟨rfl, rfl⟩
    go_wp2_with fail
    refine (DrawPlaces_any A n c w hb (by omega)).mono ?_
    rintro e w1 ⟨g, cap, zs, rfl, hl, hp, hown, low⟩
    have p0 := hp.at_ (j := 0) (by omega)
    have p1 := hp.at_ (j := 1) (by omega)
    have iz := Ints.of_own hown
    obtain ⟨_, _, e1, _, c0⟩ := iz.at_ (j := 0) (by omega)
    injection e1 with e1; injection e1 with e2 e3; subst e2 e3
    obtain ⟨_, _, e1, _, c1⟩ := iz.at_ (j := 1) (by omega)
    injection e1 with e1; injection e1 with e2 e3; subst e2 e3
    simp only [Nat.zero_add] at c0 c1
    generalize zs.getD 0 0 = z0 at *
    generalize zs.getD 1 0 = z1 at *
    obtain ⟨p00, p01⟩ := p0
    obtain ⟨p10, p11⟩ := p1
    have ha : 0 ≤ z0 % 16 ∧ z0 % 16 ≤ 15 := by omega
    have hbb : 0 ≤ z1 % 16 ∧ z1 % 16 ≤ 15 := by omega
    clear hn hn' hm hb hp hl iz hown
    go_upto_region 6 with (fail)
    generalize z0 % 16 = a at *
    generalize z1 % 16 = b at *
    clear c0 c1 p00 p01 p10 p11
    have q0 := low.size
    have hT := Two.of a b
    have e1 := wConst_nil ha
    have e2 := wConst_four (a := a) hbb
    obtain ⟨X, hX⟩ : ∃ y, (constAt [] a 4).2 = y := ⟨_, rfl⟩
    obtain ⟨Z1, hZ1⟩ : ∃ y, (constAt [] a 4).1 = y := ⟨_, rfl⟩
    rw [hZ1] at hT e2
    obtain ⟨Y, hY⟩ : ∃ y, (constAt Z1 b 4).2 = y := ⟨_, rfl⟩
    obtain ⟨Z, hZ⟩ : ∃ y, (constAt Z1 b 4).1 = y := ⟨_, rfl⟩
    rw [hX, hY, hZ] at hT
    have lZ1 : Z1.length = 4 * 3 := by
      obtain ⟨g1, _, _⟩ := constAt_grw (z := []) (n := 0) a rfl 4
      rw [← hZ1]; exact g1.len
    have k1 := impl_WordConst none 0 0 [] none 0 0 [] a w1 (Ints.nil _ _) rfl (by omega) (Ints.nil _ _) rfl (by omega)
    rw [e1, hZ1, hX] at k1
    clear e1 hZ1 hX
    go_wp2_with fail
    refine k1.mono ?_
    rintro e w2 ⟨A0, A1, n0, n1, c0, c1, A2, n2, c2, rfl, oc, ox, _, hb⟩
    clear k1
    replace low := low.trans (hb.mono low.size)
    have q1 := hb.size
    clear hb
    obtain rfl : n0 = 4 := by have := oc.o0.len; omega
    obtain rfl : n1 = 0 := by have := oc.o1.len1; simpa using this.symm
    obtain rfl : n2 = 4 := by rw [← ox.len1]; exact hT.lu
    replace oc := oc.alloc (.cells #[.slice A0 4 c0, .slice A1 0 c1] 31)
    replace ox := ox.alloc (.cells #[.slice A0 4 c0, .slice A1 0 c1] 31)
    have h6 := heap_alloc_new w2 (.cells #[.slice A0 4 c0, .slice A1 0 c1] 31)
    replace low := low.alloc low.size (.cells #[.slice A0 4 c0, .slice A1 0 c1] 31)
    obtain ⟨g6, hgg6⟩ : ∃ g, w2.heap.size = g := ⟨_, rfl⟩
    go_upto_region 7 with (fail)
    rw [hgg6] at h6
    have zg6 : (w2.alloc (.cells #[.slice A0 4 c0, .slice A1 0 c1] 31)).heap.size = g6 + 1 := by simp [hgg6]
    try simp only [hgg6]
    generalize hh : w2.alloc (.cells #[.slice A0 4 c0, .slice A1 0 c1] 31) = w3 at *
    clear hh
    have k2 := impl_WordConst A0 4 c0 Z1 A1 0 c1 [] b w3 oc.o0.ints lZ1 (by omega) oc.o1.ints rfl (by omega)
    rw [e2, hZ, hY] at k2
    clear e2 hZ hY
    obtain ⟨c2, f3⟩ := blk (i := 0) h6 rfl
    obtain ⟨c4, f5⟩ := blk (i := 1) h6 rfl
    go_wp2_with fail
    clear c2 f3 c4 f5
    refine k2.mono ?_
    rintro e w4 ⟨B0, B1, m0, m1, d0, d1, A3, n3, c3, rfl, oz, oy, _, hb⟩
    clear k2
    replace oc := oc.below hb
    replace ox := ox.below hb
    replace h6 := heap_below h6 hb
    replace low := low.trans (hb.mono low.size)
    have q6 := hb.size
    clear hb oc lZ1
    obtain rfl : m0 = 8 := by have h1 := oz.o0.len; have h2 := hT.len; omega
    obtain rfl : m1 = 0 := by have := oz.o1.len1; simpa using this.symm
    obtain rfl : n3 = 4 := by rw [← oy.len1]; exact hT.lw
    obtain ⟨c7, f8⟩ := blk (i := 0) h6 rfl
    obtain ⟨c9, f10⟩ := blk (i := 1) h6 rfl
    go_upto_region 8 with (fail)
    clear c7 f8 c9 f10
    replace ox := ox.far (g := g6) (i := 0) (by omega) (.slice B0 8 d0)
    replace h6 := heap_set (i := 0) h6 (.slice B0 8 d0)
    replace oz := oz.far (g := g6) (i := 0) (by omega) (.slice B0 8 d0)
    replace oy := oy.far (g := g6) (i := 0) (by omega) (.slice B0 8 d0)
    replace low := low.setCell (p := ⟨g6, 0, none⟩) (by show w.heap.size ≤ g6; omega) (.slice B0 8 d0)
    replace ox := ox.far (g := g6) (i := 1) (by omega) (.slice B1 0 d1)
    replace h6 := heap_set (i := 1) h6 (.slice B1 0 d1)
    replace oz := oz.far (g := g6) (i := 1) (by omega) (.slice B1 0 d1)
    replace oy := oy.far (g := g6) (i := 1) (by omega) (.slice B1 0 d1)
    replace low := low.setCell (p := ⟨g6, 1, none⟩) (by show w.heap.size ≤ g6; omega) (.slice B1 0 d1)
    have q11 : ((w4.setCell ⟨g6, 0, none⟩ (.slice B0 8 d0)).setCell ⟨g6, 1, none⟩ (.slice B1 0 d1)).heap.size ≤ w4.heap.size := by simp
    have q11b : w4.heap.size ≤ ((w4.setCell ⟨g6, 0, none⟩ (.slice B0 8 d0)).setCell ⟨g6, 1, none⟩ (.slice B1 0 d1)).heap.size := by simp
    generalize hh : (w4.setCell ⟨g6, 0, none⟩ (.slice B0 8 d0)).setCell ⟨g6, 1, none⟩ (.slice B1 0 d1) = w5 at *
    clear hh
    replace h6 : w5.heap[g6]? = some (.cells #[.slice B0 8 d0, .slice B1 0 d1] 31 (0, 0)) := h6
    have cx := ox.cap
    have cy := oy.cap
    obtain ⟨ZL, l, ZE, e9, ZM, ms, hC⟩ := hT.cmp ha hbb
    have l0 := hC.l0
    have e0 := hC.e0
    have kLess := impl_WordLess B0 8 d0 Z B1 0 d1 [] A2 4 c2 X A3 4 c3 Y w5 oz.o0.ints hT.len (by omega) oz.o1.ints rfl (by omega) ox.ints hT.lu (by omega) cx oy.ints hT.lw (by omega) cy
    rw [hC.less] at kLess
    obtain ⟨c12, f13⟩ := blk (i := 0) h6 rfl
    obtain ⟨c14, f15⟩ := blk (i := 1) h6 rfl
    go_wp2_with fail
    clear c12 f13 c14 f15
    refine kLess.mono ?_
    rintro e vLess ⟨C0Less, C1Less, p0Less, p1Less, q0Less, q1Less, rfl, oLess, hb⟩
    clear kLess
    replace ox := ox.below hb
    replace h6 := heap_below h6 hb
    replace oz := oz.below hb
    replace oy := oy.below hb
    replace low := low.trans (hb.mono low.size)
    have q16 := hb.size
    clear hb oz
    obtain rfl : p0Less = 34 := by have h1 := oLess.o0.len; have h2 := hC.ll; omega
    obtain rfl : p1Less = 0 := by have := oLess.o1.len1; simpa using this.symm
    obtain ⟨c17, f18⟩ := blk (i := 0) h6 rfl
    obtain ⟨c19, f20⟩ := blk (i := 1) h6 rfl
    go_upto_region 9 with (fail)
    clear c17 f18 c19 f20
    replace ox := ox.far (g := g6) (i := 0) (by omega) (.slice C0Less 34 q0Less)
    replace h6 := heap_set (i := 0) h6 (.slice C0Less 34 q0Less)
    replace oy := oy.far (g := g6) (i := 0) (by omega) (.slice C0Less 34 q0Less)
    replace oLess := oLess.far (g := g6) (i := 0) (by omega) (.slice C0Less 34 q0Less)
    replace low := low.setCell (p := ⟨g6, 0, none⟩) (by show w.heap.size ≤ g6; omega) (.slice C0Less 34 q0Less)
    replace ox := ox.far (g := g6) (i := 1) (by omega) (.slice C1Less 0 q1Less)
    replace h6 := heap_set (i := 1) h6 (.slice C1Less 0 q1Less)
    replace oy := oy.far (g := g6) (i := 1) (by omega) (.slice C1Less 0 q1Less)
    replace oLess := oLess.far (g := g6) (i := 1) (by omega) (.slice C1Less 0 q1Less)
    replace low := low.setCell (p := ⟨g6, 1, none⟩) (by show w.heap.size ≤ g6; omega) (.slice C1Less 0 q1Less)
    have q21 : ((vLess.setCell ⟨g6, 0, none⟩ (.slice C0Less 34 q0Less)).setCell ⟨g6, 1, none⟩ (.slice C1Less 0 q1Less)).heap.size ≤ vLess.heap.size := by simp
    have q21b : vLess.heap.size ≤ ((vLess.setCell ⟨g6, 0, none⟩ (.slice C0Less 34 q0Less)).setCell ⟨g6, 1, none⟩ (.slice C1Less 0 q1Less)).heap.size := by simp
    generalize hh : (vLess.setCell ⟨g6, 0, none⟩ (.slice C0Less 34 q0Less)).setCell ⟨g6, 1, none⟩ (.slice C1Less 0 q1Less) = yLess at *
    clear hh
    replace h6 : yLess.heap[g6]? = some (.cells #[.slice C0Less 34 q0Less, .slice C1Less 0 q1Less] 31 (0, 0)) := h6
    have kEqual := impl_WordEqual C0Less 34 q0Less ZL C1Less 0 q1Less [] A2 4 c2 X A3 4 c3 Y yLess oLess.o0.ints hC.ll (by omega) oLess.o1.ints rfl (by omega) ox.ints hT.lu (by omega) cx oy.ints hT.lw (by omega) cy
    rw [hC.equal] at kEqual
    obtain ⟨c22, f23⟩ := blk (i := 0) h6 rfl
    obtain ⟨c24, f25⟩ := blk (i := 1) h6 rfl
    go_wp2_with fail
    clear c22 f23 c24 f25
    refine kEqual.mono ?_
    rintro e vEqual ⟨C0Equal, C1Equal, p0Equal, p1Equal, q0Equal, q1Equal, rfl, oEqual, hb⟩
    clear kEqual
    replace ox := ox.below hb
    replace h6 := heap_below h6 hb
    replace oy := oy.below hb
    replace oLess := oLess.below hb
    replace low := low.trans (hb.mono low.size)
    have q26 := hb.size
    clear hb oLess
    obtain rfl : p0Equal = 45 := by have h1 := oEqual.o0.len; have h2 := hC.le_; omega
    obtain rfl : p1Equal = 0 := by have := oEqual.o1.len1; simpa using this.symm
    obtain ⟨c27, f28⟩ := blk (i := 0) h6 rfl
    obtain ⟨c29, f30⟩ := blk (i := 1) h6 rfl
    go_upto_region 10 with (fail)
    clear c27 f28 c29 f30
    replace ox := ox.far (g := g6) (i := 0) (by omega) (.slice C0Equal 45 q0Equal)
    replace h6 := heap_set (i := 0) h6 (.slice C0Equal 45 q0Equal)
    replace oy := oy.far (g := g6) (i := 0) (by omega) (.slice C0Equal 45 q0Equal)
    replace oEqual := oEqual.far (g := g6) (i := 0) (by omega) (.slice C0Equal 45 q0Equal)
    replace low := low.setCell (p := ⟨g6, 0, none⟩) (by show w.heap.size ≤ g6; omega) (.slice C0Equal 45 q0Equal)
    replace ox := ox.far (g := g6) (i := 1) (by omega) (.slice C1Equal 0 q1Equal)
    replace h6 := heap_set (i := 1) h6 (.slice C1Equal 0 q1Equal)
    replace oy := oy.far (g := g6) (i := 1) (by omega) (.slice C1Equal 0 q1Equal)
    replace oEqual := oEqual.far (g := g6) (i := 1) (by omega) (.slice C1Equal 0 q1Equal)
    replace low := low.setCell (p := ⟨g6, 1, none⟩) (by show w.heap.size ≤ g6; omega) (.slice C1Equal 0 q1Equal)
    have q31 : ((vEqual.setCell ⟨g6, 0, none⟩ (.slice C0Equal 45 q0Equal)).setCell ⟨g6, 1, none⟩ (.slice C1Equal 0 q1Equal)).heap.size ≤ vEqual.heap.size := by simp
    have q31b : vEqual.heap.size ≤ ((vEqual.setCell ⟨g6, 0, none⟩ (.slice C0Equal 45 q0Equal)).setCell ⟨g6, 1, none⟩ (.slice C1Equal 0 q1Equal)).heap.size := by simp
    generalize hh : (vEqual.setCell ⟨g6, 0, none⟩ (.slice C0Equal 45 q0Equal)).setCell ⟨g6, 1, none⟩ (.slice C1Equal 0 q1Equal) = yEqual at *
    clear hh
    replace h6 : yEqual.heap[g6]? = some (.cells #[.slice C0Equal 45 q0Equal, .slice C1Equal 0 q1Equal] 31 (0, 0)) := h6
    have kMux := impl_WordMux C0Equal 45 q0Equal ZE C1Equal 0 q1Equal [] l A2 4 c2 X A3 4 c3 Y yEqual oEqual.o0.ints hC.le_ (by omega) oEqual.o1.ints rfl (by omega) ox.ints hT.lu (by omega) oy.ints hT.lw (by omega)
    rw [hC.mux] at kMux
    obtain ⟨c32, f33⟩ := blk (i := 0) h6 rfl
    obtain ⟨c34, f35⟩ := blk (i := 1) h6 rfl
    go_wp2_with fail
    clear c32 f33 c34 f35
    refine kMux.mono ?_
    rintro e vMux ⟨C0Mux, C1Mux, p0Mux, p1Mux, q0Mux, q1Mux, EM, rM, sM, rfl, oMux, uM, _, hb⟩
    clear kMux
    replace ox := ox.below hb
    replace h6 := heap_below h6 hb
    replace oy := oy.below hb
    replace oEqual := oEqual.below hb
    replace low := low.trans (hb.mono low.size)
    have q36 := hb.size
    clear hb oEqual
    obtain rfl : p0Mux = 57 := by have h1 := oMux.o0.len; have h2 := hC.lm; omega
    obtain rfl : p1Mux = 0 := by have := oMux.o1.len1; simpa using this.symm
    obtain rfl : rM = 4 := by rw [← uM.len1]; exact hC.lms
    obtain ⟨c37, f38⟩ := blk (i := 0) h6 rfl
    obtain ⟨c39, f40⟩ := blk (i := 1) h6 rfl
    go_upto_region 11 with (fail)
    clear c37 f38 c39 f40
    replace ox := ox.far (g := g6) (i := 0) (by omega) (.slice C0Mux 57 q0Mux)
    replace h6 := heap_set (i := 0) h6 (.slice C0Mux 57 q0Mux)
    replace oy := oy.far (g := g6) (i := 0) (by omega) (.slice C0Mux 57 q0Mux)
    replace oMux := oMux.far (g := g6) (i := 0) (by omega) (.slice C0Mux 57 q0Mux)
    replace uM := uM.far (g := g6) (i := 0) (by omega) (.slice C0Mux 57 q0Mux)
    replace low := low.setCell (p := ⟨g6, 0, none⟩) (by show w.heap.size ≤ g6; omega) (.slice C0Mux 57 q0Mux)
    replace ox := ox.far (g := g6) (i := 1) (by omega) (.slice C1Mux 0 q1Mux)
    replace h6 := heap_set (i := 1) h6 (.slice C1Mux 0 q1Mux)
    replace oy := oy.far (g := g6) (i := 1) (by omega) (.slice C1Mux 0 q1Mux)
    replace oMux := oMux.far (g := g6) (i := 1) (by omega) (.slice C1Mux 0 q1Mux)
    replace uM := uM.far (g := g6) (i := 1) (by omega) (.slice C1Mux 0 q1Mux)
    replace low := low.setCell (p := ⟨g6, 1, none⟩) (by show w.heap.size ≤ g6; omega) (.slice C1Mux 0 q1Mux)
    have q41 : ((vMux.setCell ⟨g6, 0, none⟩ (.slice C0Mux 57 q0Mux)).setCell ⟨g6, 1, none⟩ (.slice C1Mux 0 q1Mux)).heap.size ≤ vMux.heap.size := by simp
    have q41b : vMux.heap.size ≤ ((vMux.setCell ⟨g6, 0, none⟩ (.slice C0Mux 57 q0Mux)).setCell ⟨g6, 1, none⟩ (.slice C1Mux 0 q1Mux)).heap.size := by simp
    generalize hh : (vMux.setCell ⟨g6, 0, none⟩ (.slice C0Mux 57 q0Mux)).setCell ⟨g6, 1, none⟩ (.slice C1Mux 0 q1Mux) = yMux at *
    clear hh
    replace h6 : yMux.heap[g6]? = some (.cells #[.slice C0Mux 57 q0Mux, .slice C1Mux 0 q1Mux] 31 (0, 0)) := h6
    go_upto_region 13 with (fail)
    have hf := heap_alloc_new yMux (.cells #[.int .i64 l, .int .i64 e9] 3)
    have ho := full_own (e := 3) (xs := [.int .i64 l, .int .i64 e9]) (n := 2) (base := yMux.heap.size) hf (Nat.le_refl _) rfl (by unfold maxLen; omega)
    have iM := Ints.below uM.ints (below_alloc yMux (.cells #[.int .i64 l, .int .i64 e9] 3))
    have lms := hC.lms
    obtain ⟨c42, f43⟩ := blk (i := 0) h6 rfl
    obtain ⟨c44, f45⟩ := blk (i := 1) h6 rfl
    go_wp2_with (first | (at_builtin; refine app_ints elemInt rfl _ _ rfl yMux.heap.size _ 2 [.int .i64 l, .int .i64 e9] rfl ho EM 4 sM ms rfl iM lms (by unfold maxLen; omega) (by omega) (by simp) ?_))
    intro v9 w9 ho9 hg9 _
    have hb : Below yMux.heap.size yMux w9 := (below_alloc yMux (.cells #[.int .i64 l, .int .i64 e9] 3)).grown hg9 (by simp) (fun k e => Nat.le_of_eq (by simpa [Value.ownBlock] using e))
    have o9 := OwnA.of_own (show w9.ownsRow yMux.heap.size 3 1 v9 6 (intVals (l :: e9 :: ms)) from by simpa [intVals] using ho9)
    obtain ⟨A9, c9, rfl⟩ := o9.form
    clear ho hf iM lms ho9 hg9
    clear c42 f43 c44 f45
    replace ox := ox.below hb
    replace h6 := heap_below h6 hb
    replace oy := oy.below hb
    replace oMux := oMux.below hb
    replace uM := uM.below hb
    replace low := low.trans (hb.mono low.size)
    have q46 := hb.size
    clear hb
    obtain ⟨c47, f48⟩ := blk (i := 0) h6 rfl
    obtain ⟨c49, f50⟩ := blk (i := 1) h6 rfl
    go_upto_region 14 with (fail)
    clear c47 f48 c49 f50
    replace ox := ox.far (g := g6) (i := 1) (by omega) (.slice A9 6 c9)
    replace h6 := heap_set (i := 1) h6 (.slice A9 6 c9)
    replace oy := oy.far (g := g6) (i := 1) (by omega) (.slice A9 6 c9)
    replace oMux := oMux.far (g := g6) (i := 1) (by omega) (.slice A9 6 c9)
    replace uM := uM.far (g := g6) (i := 1) (by omega) (.slice A9 6 c9)
    replace o9 := o9.far (g := g6) (i := 1) (by omega) (.slice A9 6 c9)
    replace low := low.setCell (p := ⟨g6, 1, none⟩) (by show w.heap.size ≤ g6; omega) (.slice A9 6 c9)
    have q51 : (w9.setCell ⟨g6, 1, none⟩ (.slice A9 6 c9)).heap.size ≤ w9.heap.size := by simp
    have q51b : w9.heap.size ≤ (w9.setCell ⟨g6, 1, none⟩ (.slice A9 6 c9)).heap.size := by simp
    generalize hh : w9.setCell ⟨g6, 1, none⟩ (.slice A9 6 c9) = w10 at *
    clear hh
    replace h6 : w10.heap[g6]? = some (.cells #[.slice C0Mux 57 q0Mux, .slice A9 6 c9] 31 (0, 0)) := h6
    obtain ⟨xs, ev, ec, lx, bx, nb⟩ := hC.ev
    have kE := fun W (h : Below w10.heap.size w10 W) (g : Nat) (oz : W.ownsRow w10.heap.size 3 1 (.slice (some ⟨g, 0, none⟩) 80 80) 80 (intVals (List.replicate 80 0))) => impl_EvalCircuit C0Mux 57 q0Mux ZM A9 6 c9 (l :: e9 :: ms) (some ⟨g, 0, none⟩) 80 80 (List.replicate 80 0) W (Ints.below oMux.o0.ints h) hC.lm (by omega) (Ints.below o9.ints h) (by simp [hC.lms]) (by omega) (Ints.of_own oz) (by simp) (by omega)
    rw [ec, decide_eq_true ev] at kE
    have r0 : Below w10.heap.size w10 w10.drew := (Below.refl _ _).drew
    have x0 := (blk (i := 0) h6 rfl).1
    have x1 := (blk (i := 1) h6 rfl).1
    obtain ⟨M, hM⟩ : ∃ M, M = (intVals (List.replicate 80 0)).toArray := ⟨_, rfl⟩
    have hmk : ∀ w, (Instr.makeSlice 23 (.int .i64 80) (.int .i64 80)).run Try.prog w = .ok (.slice (some ⟨w.heap.size, 0, none⟩) 80 80) (w.alloc (.cells M 3)) := fun w => by
      have h := run_make_row' (P := Try.prog) 23 3 (.int .i64 0) 8 Try.underlying23 (by kernel_rfl) rfl .i64 .i64 80 (by omega) (by omega) w
      rw [show (madeCells #[Value.int .i64 0] 80 : Array Value) = M from by rw [hM]; apply Array.toList_inj.1; rw [toList_madeCells_one]; simp [intVals]] at h
      exact h
    have b11 : Below w10.heap.size w10 (w10.alloc (.cells M 3)).drew := (below_alloc _ _).drew
    have ho11 : (w10.alloc (.cells M 3)).drew.ownsRow w10.heap.size 3 1 (.slice (some ⟨w10.heap.size, 0, none⟩) 80 80) 80 (intVals (List.replicate 80 0)) := full_own (by rw [← hM]; exact heap_alloc_new w10 _) (Nat.le_refl _) (by simp [intVals]) (by unfold maxLen; omega)
    have y0 := cell_on x0 b11
    have y1 := cell_on x1 b11
    clear hM
    go_region_law (first
      | (go_simp; go_at_call 18; (with_reducible refine (kE _ b11 _ ho11).mono ?_); rintro e w12 ⟨F9, f9, i9, rfl, v12, hb12⟩; (have b12 := below_up hb12 b11)))
    all_goals
      have low12 := low.trans (b12.mono low.size)
      have hnum := v12
      obtain rfl : f9 = 6 := by rw [← v12.len1]; simp [lx]
      have hv := v12.ints
      obtain ⟨b9, rfl, _⟩ : ∃ b, F9 = some ⟨b, 0, none⟩ ∧ True := by
        obtain ⟨te, ho⟩ := v12.own
        obtain ⟨b, e, _⟩ := own_addr ho (by omega)
        exact ⟨b, e, trivial⟩
      obtain ⟨_, _, q1, _, d0⟩ := hv.at_ (j := 0) (by simp)
      injection q1 with q1; injection q1 with q2 q3; subst q2 q3
      obtain ⟨_, _, q1, _, d1⟩ := hv.at_ (j := 1) (by simp)
      injection q1 with q1; injection q1 with q2 q3; subst q2 q3
      have hcap := v12.cap
      have iN : Ints w12 (some ⟨b9, 2, none⟩) xs := by
        have h := Ints.skip2 hv
        exact h
      have mN := spec_NumberOf (some ⟨b9, 2, none⟩) 4 (i9 - 2) xs w12 iN lx (by omega) bx
      clear kE r0 x0 x1 y0 y1 hv hnum v12 hb12 b11 b12 ho11 hmk
      simp only [List.getD_cons_zero, List.getD_cons_succ, Nat.add_zero, Nat.zero_add] at d0 d1
      have x2 : (2 : Int) ≤ (i9 : Int) := by omega
      have x3 : ¬ i9 - 2 = 0 := by omega
      have x4 : ¬ i9 = 2 := by omega
      have L12 := Lib.hid low12
      clear low low12
      rcases (show a < b ∨ a = b ∨ b < a by omega) with hab | hab | hab
      · rw [if_pos hab] at d0
        rw [if_neg (by omega)] at d1
        rw [show min a b = a by omega] at nb
        rw [nb] at mN
        have h1 : ¬ b < a := by omega
        have h2 : ¬ a = b := by omega
        have h3 : a ≤ b := by omega
        have h4 : (a == b) = false := beq_eq_false_iff_ne.2 h2
        go_wp2_with fail
        refine mN.mono ?_
        rintro e w13 ⟨rfl, rfl⟩
        go_wp2_with fail
        go_ret
        exact ⟨by first | rfl | simp, L12.out⟩
      · subst hab
        rw [if_neg (by omega)] at d0
        rw [if_pos rfl] at d1
        rw [show min a a = a by omega] at nb
        rw [nb] at mN
        go_wp2_with fail
        refine mN.mono ?_
        rintro e w13 ⟨rfl, rfl⟩
        go_wp2_with fail
        go_ret
        exact ⟨by first | rfl | simp, L12.out⟩
      · rw [if_neg (by omega)] at d0
        rw [if_neg (by omega)] at d1
        rw [show min a b = b by omega] at nb
        rw [nb] at mN
        have h1 : ¬ a < b := by omega
        have h2 : ¬ a = b := by omega
        have h3 : b ≤ a := by omega
        have h4 : (a == b) = false := beq_eq_false_iff_ne.2 h2
        go_wp2_with fail
        refine mN.mono ?_
        rintro e w13 ⟨rfl, rfl⟩
        go_wp2_with fail
        go_ret
        exact ⟨by first | rfl | simp, L12.out⟩
end Go.Proofs.Ytegdlegndgdgiaa
