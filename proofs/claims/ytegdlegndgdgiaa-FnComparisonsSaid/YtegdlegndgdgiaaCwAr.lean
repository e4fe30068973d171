/- The law FnArithmetic: the walk. No condition. -/
import Derived.Test.YtegdlegndgdgiaaProg
import Derived.Test.YtegdlegndgdgiaaCwZ
import Derived.Test.YtegdlegndgdgiaaCwL
import Derived.Test.YtegdlegndgdgiaaNumB
import Derived.Test.YtegdlegndgdgiaaFieldW
import Derived.Test.YtegdlegndgdgiaaCirE
namespace Go.Proofs.Ytegdlegndgdgiaa
open Go Go.RowKit
theorem OwnA.cap {m lo hi n c : Nat} {w : World} {A : Option Addr} {zs : List Int} (h : OwnA m lo hi w (.slice A n c) n zs) : n ≤ c := by
  obtain ⟨e, h⟩ := h.own
  rcases h.2 with ⟨_, h1⟩ | ⟨g, cap, cur, e, _, _, h2, _⟩
  · omega
  · injection e with _ _ e3
    omega
theorem OwnCircuit.far {lo hi g i n0 n1 : Nat} {w : World} {v0 v1 : Value} {z0 z1 : List Int} (h : OwnCircuit lo hi w v0 v1 n0 n1 z0 z1) (hg : g < lo ∨ hi ≤ g) (u : Value) : OwnCircuit lo hi (w.setCell ⟨g, i, none⟩ u) v0 v1 n0 n1 z0 z1 := ⟨h.o0.far hg u, h.o1.far hg u, h.a01⟩
set_option maxHeartbeats 4000000 in
set_option maxRecDepth 100000 in
theorem FnArithmetic_walk (A : Option Addr) (n c : Nat) (w : World) (hb : Bytes w.heap.size w A n) (hm : n ≤ 9223372036854775807) :
    Calls Try.prog 5 #[.slice A n c] w fun e w' => e = .returned (.bool true) ∧ Below w.heap.size w w' := by
  by_cases hn : 1048576 < n
  · go_enter Try.func5, Try.ntmps5
    go_wp2_with fail
    refine (big_any A n c w true (by simpa using hn) hm).mono ?_
    rintro e w1 ⟨rfl, rfl⟩
    go_wp2_with fail
    go_ret
    exact ⟨rfl, Below.refl _ _⟩
  · have hn' : n ≤ 1048576 := by omega
    go_enter Try.func5, Try.ntmps5
    go_wp2_with fail
    refine (big_any A n c w false (by simpa using hn') hm).mono ?_
    rintro e w1 ⟨rfl, rfl⟩
    go_wp2_with fail
    refine (DrawPlaces_any A n c w hb (by omega)).mono ?_
    rintro e w1 ⟨g, cap, zs, rfl, hl, hp, hown, low⟩
    have p0 := hp.at_ (j := 0) (by omega)
    have p1 := hp.at_ (j := 1) (by omega)
    have iz := Ints.of_own hown
    obtain ⟨_, _, e1, _, c0⟩ := iz.at_ (j := 0) (by omega)
    injection e1 with e1; injection e1 with e2 e3; subst e2 e3
    obtain ⟨_, _, e1, _, c1⟩ := iz.at_ (j := 1) (by omega)
    injection e1 with e1; injection e1 with e2 e3; subst e2 e3
    simp only [Nat.zero_add] at c0 c1
    generalize zs.getD 0 0 = z0 at *
    generalize zs.getD 1 0 = z1 at *
    obtain ⟨p00, p01⟩ := p0
    obtain ⟨p10, p11⟩ := p1
    have ha : 0 ≤ z0 % 16 ∧ z0 % 16 ≤ 15 := by omega
    have hbb : 0 ≤ z1 % 16 ∧ z1 % 16 ≤ 15 := by omega
    clear hn hn' hm hb hp hl iz hown
    go_upto_region 6 with (fail)
    generalize z0 % 16 = a at *
    generalize z1 % 16 = b at *
    clear c0 c1 p00 p01 p10 p11
    have q0 := low.size
    have hT := Two.of a b
    have e1 := wConst_nil ha
    have e2 := wConst_four (a := a) hbb
    obtain ⟨X, hX⟩ : ∃ y, (constAt [] a 4).2 = y := ⟨_, rfl⟩
    obtain ⟨Z1, hZ1⟩ : ∃ y, (constAt [] a 4).1 = y := ⟨_, rfl⟩
    rw [hZ1] at hT e2
    obtain ⟨Y, hY⟩ : ∃ y, (constAt Z1 b 4).2 = y := ⟨_, rfl⟩
    obtain ⟨Z, hZ⟩ : ∃ y, (constAt Z1 b 4).1 = y := ⟨_, rfl⟩
    rw [hX, hY, hZ] at hT
    have lZ1 : Z1.length = 4 * 3 := by
      obtain ⟨g1, _, _⟩ := constAt_grw (z := []) (n := 0) a rfl 4
      rw [← hZ1]; exact g1.len
    have k1 := impl_WordConst none 0 0 [] none 0 0 [] a w1 (Ints.nil _ _) rfl (by omega) (Ints.nil _ _) rfl (by omega)
    rw [e1, hZ1, hX] at k1
    clear e1 hZ1 hX
    go_wp2_with fail
    refine k1.mono ?_
    rintro e w2 ⟨A0, A1, n0, n1, c0, c1, A2, n2, c2, rfl, oc, ox, _, hb⟩
    clear k1
    replace low := low.trans (hb.mono low.size)
    have q1 := hb.size
    clear hb
    obtain rfl : n0 = 4 := by have := oc.o0.len; omega
    obtain rfl : n1 = 0 := by have := oc.o1.len1; simpa using this.symm
    obtain rfl : n2 = 4 := by rw [← ox.len1]; exact hT.lu
    replace oc := oc.alloc (.cells #[.slice A0 4 c0, .slice A1 0 c1] 31)
    replace ox := ox.alloc (.cells #[.slice A0 4 c0, .slice A1 0 c1] 31)
    have h6 := heap_alloc_new w2 (.cells #[.slice A0 4 c0, .slice A1 0 c1] 31)
    replace low := low.alloc low.size (.cells #[.slice A0 4 c0, .slice A1 0 c1] 31)
    obtain ⟨g6, hgg6⟩ : ∃ g, w2.heap.size = g := ⟨_, rfl⟩
    go_upto_region 7 with (fail)
    rw [hgg6] at h6
    have zg6 : (w2.alloc (.cells #[.slice A0 4 c0, .slice A1 0 c1] 31)).heap.size = g6 + 1 := by simp [hgg6]
    try simp only [hgg6]
    generalize hh : w2.alloc (.cells #[.slice A0 4 c0, .slice A1 0 c1] 31) = w3 at *
    clear hh
    have k2 := impl_WordConst A0 4 c0 Z1 A1 0 c1 [] b w3 oc.o0.ints lZ1 (by omega) oc.o1.ints rfl (by omega)
    rw [e2, hZ, hY] at k2
    clear e2 hZ hY
    obtain ⟨c2, f3⟩ := blk (i := 0) h6 rfl
    obtain ⟨c4, f5⟩ := blk (i := 1) h6 rfl
    go_wp2_with fail
    clear c2 f3 c4 f5
    refine k2.mono ?_
    rintro e w4 ⟨B0, B1, m0, m1, d0, d1, A3, n3, c3, rfl, oz, oy, _, hb⟩
    clear k2
    replace oc := oc.below hb
    replace ox := ox.below hb
    replace h6 := heap_below h6 hb
    replace low := low.trans (hb.mono low.size)
    have q6 := hb.size
    clear hb oc lZ1
    obtain rfl : m0 = 8 := by have h1 := oz.o0.len; have h2 := hT.len; omega
    obtain rfl : m1 = 0 := by have := oz.o1.len1; simpa using this.symm
    obtain rfl : n3 = 4 := by rw [← oy.len1]; exact hT.lw
    obtain ⟨c7, f8⟩ := blk (i := 0) h6 rfl
    obtain ⟨c9, f10⟩ := blk (i := 1) h6 rfl
    go_upto_region 8 with (fail)
    clear c7 f8 c9 f10
    replace ox := ox.far (g := g6) (i := 0) (by omega) (.slice B0 8 d0)
    replace h6 := heap_set (i := 0) h6 (.slice B0 8 d0)
    replace oz := oz.far (g := g6) (i := 0) (by omega) (.slice B0 8 d0)
    replace oy := oy.far (g := g6) (i := 0) (by omega) (.slice B0 8 d0)
    replace low := low.setCell (p := ⟨g6, 0, none⟩) (by show w.heap.size ≤ g6; omega) (.slice B0 8 d0)
    replace ox := ox.far (g := g6) (i := 1) (by omega) (.slice B1 0 d1)
    replace h6 := heap_set (i := 1) h6 (.slice B1 0 d1)
    replace oz := oz.far (g := g6) (i := 1) (by omega) (.slice B1 0 d1)
    replace oy := oy.far (g := g6) (i := 1) (by omega) (.slice B1 0 d1)
    replace low := low.setCell (p := ⟨g6, 1, none⟩) (by show w.heap.size ≤ g6; omega) (.slice B1 0 d1)
    have q11 : ((w4.setCell ⟨g6, 0, none⟩ (.slice B0 8 d0)).setCell ⟨g6, 1, none⟩ (.slice B1 0 d1)).heap.size ≤ w4.heap.size := by simp
    have q11b : w4.heap.size ≤ ((w4.setCell ⟨g6, 0, none⟩ (.slice B0 8 d0)).setCell ⟨g6, 1, none⟩ (.slice B1 0 d1)).heap.size := by simp
    generalize hh : (w4.setCell ⟨g6, 0, none⟩ (.slice B0 8 d0)).setCell ⟨g6, 1, none⟩ (.slice B1 0 d1) = w5 at *
    clear hh
    replace h6 : w5.heap[g6]? = some (.cells #[.slice B0 8 d0, .slice B1 0 d1] 31 (0, 0)) := h6
    have cx := ox.cap
    have cy := oy.cap
    have GAdd := hT.add ha hbb
    have kAdd := impl_WordAdd B0 8 d0 Z B1 0 d1 [] A2 4 c2 X A3 4 c3 Y w5 oz.o0.ints hT.len (by omega) oz.o1.ints rfl (by omega) ox.ints hT.lu (by omega) cx oy.ints hT.lw (by omega) cy
    generalize wAdd Z 8 [] X Y = RAdd at GAdd kAdd
    obtain ⟨c12, f13⟩ := blk (i := 0) h6 rfl
    obtain ⟨c14, f15⟩ := blk (i := 1) h6 rfl
    go_wp2_with fail
    clear c12 f13 c14 f15
    refine kAdd.mono ?_
    rintro e vAdd ⟨C0Add, C1Add, p0Add, p1Add, q0Add, q1Add, EAdd, rAdd, sAdd, rfl, oAdd, uAdd, _, hb⟩
    clear kAdd
    replace ox := ox.below hb
    replace h6 := heap_below h6 hb
    replace oz := oz.below hb
    replace oy := oy.below hb
    replace low := low.trans (hb.mono low.size)
    have q16 := hb.size
    clear hb
    obtain rfl : p0Add = 26 := by have h1 := oAdd.o0.len; have h2 := GAdd.len; omega
    obtain rfl : p1Add = 0 := by have := oAdd.o1.len1; simpa using this.symm
    obtain rfl : rAdd = 4 := by rw [← uAdd.len1]; exact GAdd.lu
    replace ox := ox.alloc (.cells #[.slice C0Add 26 q0Add, .slice C1Add 0 q1Add] 31)
    replace h6 := heap_alloc h6 (.cells #[.slice C0Add 26 q0Add, .slice C1Add 0 q1Add] 31)
    replace oz := oz.alloc (.cells #[.slice C0Add 26 q0Add, .slice C1Add 0 q1Add] 31)
    replace oy := oy.alloc (.cells #[.slice C0Add 26 q0Add, .slice C1Add 0 q1Add] 31)
    replace oAdd := oAdd.alloc (.cells #[.slice C0Add 26 q0Add, .slice C1Add 0 q1Add] 31)
    replace uAdd := uAdd.alloc (.cells #[.slice C0Add 26 q0Add, .slice C1Add 0 q1Add] 31)
    have h9 := heap_alloc_new vAdd (.cells #[.slice C0Add 26 q0Add, .slice C1Add 0 q1Add] 31)
    replace low := low.alloc low.size (.cells #[.slice C0Add 26 q0Add, .slice C1Add 0 q1Add] 31)
    obtain ⟨g9, hgg9⟩ : ∃ g, vAdd.heap.size = g := ⟨_, rfl⟩
    go_upto_region 9 with (fail)
    rw [hgg9] at h9
    have zg9 : (vAdd.alloc (.cells #[.slice C0Add 26 q0Add, .slice C1Add 0 q1Add] 31)).heap.size = g9 + 1 := by simp [hgg9]
    try simp only [hgg9]
    generalize hh : vAdd.alloc (.cells #[.slice C0Add 26 q0Add, .slice C1Add 0 q1Add] 31) = xAdd at *
    clear hh
    have GSub := hT.sub ha hbb
    have kSub := impl_WordSub B0 8 d0 Z B1 0 d1 [] A2 4 c2 X A3 4 c3 Y xAdd oz.o0.ints hT.len (by omega) oz.o1.ints rfl (by omega) ox.ints hT.lu (by omega) cx oy.ints hT.lw (by omega) cy
    generalize wSub Z 8 [] X Y = RSub at GSub kSub
    obtain ⟨c17, f18⟩ := blk (i := 0) h6 rfl
    obtain ⟨c19, f20⟩ := blk (i := 1) h6 rfl
    obtain ⟨c21, f22⟩ := blk (i := 0) h9 rfl
    obtain ⟨c23, f24⟩ := blk (i := 1) h9 rfl
    go_wp2_with fail
    clear c17 f18 c19 f20 c21 f22 c23 f24
    refine kSub.mono ?_
    rintro e vSub ⟨C0Sub, C1Sub, p0Sub, p1Sub, q0Sub, q1Sub, ESub, rSub, sSub, rfl, oSub, uSub, _, hb⟩
    clear kSub
    replace ox := ox.below hb
    replace h6 := heap_below h6 hb
    replace oz := oz.below hb
    replace oy := oy.below hb
    replace oAdd := oAdd.below hb
    replace uAdd := uAdd.below hb
    replace h9 := heap_below h9 hb
    replace low := low.trans (hb.mono low.size)
    have q25 := hb.size
    clear hb
    obtain rfl : p0Sub = 30 := by have h1 := oSub.o0.len; have h2 := GSub.len; omega
    obtain rfl : p1Sub = 0 := by have := oSub.o1.len1; simpa using this.symm
    obtain rfl : rSub = 4 := by rw [← uSub.len1]; exact GSub.lu
    replace ox := ox.alloc (.cells #[.slice C0Sub 30 q0Sub, .slice C1Sub 0 q1Sub] 31)
    replace h6 := heap_alloc h6 (.cells #[.slice C0Sub 30 q0Sub, .slice C1Sub 0 q1Sub] 31)
    replace oz := oz.alloc (.cells #[.slice C0Sub 30 q0Sub, .slice C1Sub 0 q1Sub] 31)
    replace oy := oy.alloc (.cells #[.slice C0Sub 30 q0Sub, .slice C1Sub 0 q1Sub] 31)
    replace oAdd := oAdd.alloc (.cells #[.slice C0Sub 30 q0Sub, .slice C1Sub 0 q1Sub] 31)
    replace uAdd := uAdd.alloc (.cells #[.slice C0Sub 30 q0Sub, .slice C1Sub 0 q1Sub] 31)
    replace h9 := heap_alloc h9 (.cells #[.slice C0Sub 30 q0Sub, .slice C1Sub 0 q1Sub] 31)
    replace oSub := oSub.alloc (.cells #[.slice C0Sub 30 q0Sub, .slice C1Sub 0 q1Sub] 31)
    replace uSub := uSub.alloc (.cells #[.slice C0Sub 30 q0Sub, .slice C1Sub 0 q1Sub] 31)
    have h11 := heap_alloc_new vSub (.cells #[.slice C0Sub 30 q0Sub, .slice C1Sub 0 q1Sub] 31)
    replace low := low.alloc low.size (.cells #[.slice C0Sub 30 q0Sub, .slice C1Sub 0 q1Sub] 31)
    obtain ⟨g11, hgg11⟩ : ∃ g, vSub.heap.size = g := ⟨_, rfl⟩
    go_upto_region 10 with (fail)
    rw [hgg11] at h11
    have zg11 : (vSub.alloc (.cells #[.slice C0Sub 30 q0Sub, .slice C1Sub 0 q1Sub] 31)).heap.size = g11 + 1 := by simp [hgg11]
    try simp only [hgg11]
    generalize hh : vSub.alloc (.cells #[.slice C0Sub 30 q0Sub, .slice C1Sub 0 q1Sub] 31) = xSub at *
    clear hh
    have GMul := hT.mul ha hbb
    have kMul := impl_WordMul B0 8 d0 Z B1 0 d1 [] A2 4 c2 X A3 4 c3 Y xSub oz.o0.ints hT.len (by omega) oz.o1.ints rfl (by omega) ox.ints hT.lu (by omega) cx oy.ints hT.lw (by omega) cy
    generalize wMul Z 8 [] X Y = RMul at GMul kMul
    obtain ⟨c26, f27⟩ := blk (i := 0) h6 rfl
    obtain ⟨c28, f29⟩ := blk (i := 1) h6 rfl
    obtain ⟨c30, f31⟩ := blk (i := 0) h9 rfl
    obtain ⟨c32, f33⟩ := blk (i := 1) h9 rfl
    obtain ⟨c34, f35⟩ := blk (i := 0) h11 rfl
    obtain ⟨c36, f37⟩ := blk (i := 1) h11 rfl
    go_wp2_with fail
    clear c26 f27 c28 f29 c30 f31 c32 f33 c34 f35 c36 f37
    refine kMul.mono ?_
    rintro e vMul ⟨C0Mul, C1Mul, p0Mul, p1Mul, q0Mul, q1Mul, EMul, rMul, sMul, rfl, oMul, uMul, _, hb⟩
    clear kMul
    replace ox := ox.below hb
    replace h6 := heap_below h6 hb
    replace oz := oz.below hb
    replace oy := oy.below hb
    replace oAdd := oAdd.below hb
    replace uAdd := uAdd.below hb
    replace h9 := heap_below h9 hb
    replace oSub := oSub.below hb
    replace uSub := uSub.below hb
    replace h11 := heap_below h11 hb
    replace low := low.trans (hb.mono low.size)
    have q38 := hb.size
    clear hb
    obtain rfl : p0Mul = 42 := by have h1 := oMul.o0.len; have h2 := GMul.len; omega
    obtain rfl : p1Mul = 0 := by have := oMul.o1.len1; simpa using this.symm
    obtain rfl : rMul = 4 := by rw [← uMul.len1]; exact GMul.lu
    replace ox := ox.alloc (.cells #[.slice C0Mul 42 q0Mul, .slice C1Mul 0 q1Mul] 31)
    replace h6 := heap_alloc h6 (.cells #[.slice C0Mul 42 q0Mul, .slice C1Mul 0 q1Mul] 31)
    replace oz := oz.alloc (.cells #[.slice C0Mul 42 q0Mul, .slice C1Mul 0 q1Mul] 31)
    replace oy := oy.alloc (.cells #[.slice C0Mul 42 q0Mul, .slice C1Mul 0 q1Mul] 31)
    replace oAdd := oAdd.alloc (.cells #[.slice C0Mul 42 q0Mul, .slice C1Mul 0 q1Mul] 31)
    replace uAdd := uAdd.alloc (.cells #[.slice C0Mul 42 q0Mul, .slice C1Mul 0 q1Mul] 31)
    replace h9 := heap_alloc h9 (.cells #[.slice C0Mul 42 q0Mul, .slice C1Mul 0 q1Mul] 31)
    replace oSub := oSub.alloc (.cells #[.slice C0Mul 42 q0Mul, .slice C1Mul 0 q1Mul] 31)
    replace uSub := uSub.alloc (.cells #[.slice C0Mul 42 q0Mul, .slice C1Mul 0 q1Mul] 31)
    replace h11 := heap_alloc h11 (.cells #[.slice C0Mul 42 q0Mul, .slice C1Mul 0 q1Mul] 31)
    replace oMul := oMul.alloc (.cells #[.slice C0Mul 42 q0Mul, .slice C1Mul 0 q1Mul] 31)
    replace uMul := uMul.alloc (.cells #[.slice C0Mul 42 q0Mul, .slice C1Mul 0 q1Mul] 31)
    have h13 := heap_alloc_new vMul (.cells #[.slice C0Mul 42 q0Mul, .slice C1Mul 0 q1Mul] 31)
    replace low := low.alloc low.size (.cells #[.slice C0Mul 42 q0Mul, .slice C1Mul 0 q1Mul] 31)
    obtain ⟨g13, hgg13⟩ : ∃ g, vMul.heap.size = g := ⟨_, rfl⟩
    go_upto_region 11 with (fail)
    rw [hgg13] at h13
    have zg13 : (vMul.alloc (.cells #[.slice C0Mul 42 q0Mul, .slice C1Mul 0 q1Mul] 31)).heap.size = g13 + 1 := by simp [hgg13]
    try simp only [hgg13]
    generalize hh : vMul.alloc (.cells #[.slice C0Mul 42 q0Mul, .slice C1Mul 0 q1Mul] 31) = xMul at *
    clear hh
    obtain ⟨c39, f40⟩ := blk (i := 0) h9 rfl
    obtain ⟨c41, f42⟩ := blk (i := 1) h9 rfl
    go_upto_region 12 with (fail)
    clear c39 f40 c41 f42
    replace ox := ox.far (g := g9) (i := 1) (by omega) (.slice EAdd 4 sAdd)
    replace h6 := heap_far h6 (p := ⟨g9, 1, none⟩) (by simp; omega) (.slice EAdd 4 sAdd)
    replace oz := oz.far (g := g9) (i := 1) (by omega) (.slice EAdd 4 sAdd)
    replace oy := oy.far (g := g9) (i := 1) (by omega) (.slice EAdd 4 sAdd)
    replace oAdd := oAdd.far (g := g9) (i := 1) (by omega) (.slice EAdd 4 sAdd)
    replace uAdd := uAdd.far (g := g9) (i := 1) (by omega) (.slice EAdd 4 sAdd)
    replace h9 := heap_set (i := 1) h9 (.slice EAdd 4 sAdd)
    replace oSub := oSub.far (g := g9) (i := 1) (by omega) (.slice EAdd 4 sAdd)
    replace uSub := uSub.far (g := g9) (i := 1) (by omega) (.slice EAdd 4 sAdd)
    replace h11 := heap_far h11 (p := ⟨g9, 1, none⟩) (by simp; omega) (.slice EAdd 4 sAdd)
    replace oMul := oMul.far (g := g9) (i := 1) (by omega) (.slice EAdd 4 sAdd)
    replace uMul := uMul.far (g := g9) (i := 1) (by omega) (.slice EAdd 4 sAdd)
    replace h13 := heap_far h13 (p := ⟨g9, 1, none⟩) (by simp; omega) (.slice EAdd 4 sAdd)
    replace low := low.setCell (p := ⟨g9, 1, none⟩) (by show w.heap.size ≤ g9; omega) (.slice EAdd 4 sAdd)
    have q43 : (xMul.setCell ⟨g9, 1, none⟩ (.slice EAdd 4 sAdd)).heap.size ≤ xMul.heap.size := by simp
    have q43b : xMul.heap.size ≤ (xMul.setCell ⟨g9, 1, none⟩ (.slice EAdd 4 sAdd)).heap.size := by simp
    generalize hh : xMul.setCell ⟨g9, 1, none⟩ (.slice EAdd 4 sAdd) = yAdd at *
    clear hh
    replace h9 : yAdd.heap[g9]? = some (.cells #[.slice C0Add 26 q0Add, .slice EAdd 4 sAdd] 31 (0, 0)) := h9
    obtain ⟨c44, f45⟩ := blk (i := 0) h11 rfl
    obtain ⟨c46, f47⟩ := blk (i := 1) h11 rfl
    go_upto_region 13 with (fail)
    clear c44 f45 c46 f47
    replace ox := ox.far (g := g11) (i := 1) (by omega) (.slice ESub 4 sSub)
    replace h6 := heap_far h6 (p := ⟨g11, 1, none⟩) (by simp; omega) (.slice ESub 4 sSub)
    replace oz := oz.far (g := g11) (i := 1) (by omega) (.slice ESub 4 sSub)
    replace oy := oy.far (g := g11) (i := 1) (by omega) (.slice ESub 4 sSub)
    replace oAdd := oAdd.far (g := g11) (i := 1) (by omega) (.slice ESub 4 sSub)
    replace uAdd := uAdd.far (g := g11) (i := 1) (by omega) (.slice ESub 4 sSub)
    replace h9 := heap_far h9 (p := ⟨g11, 1, none⟩) (by simp; omega) (.slice ESub 4 sSub)
    replace oSub := oSub.far (g := g11) (i := 1) (by omega) (.slice ESub 4 sSub)
    replace uSub := uSub.far (g := g11) (i := 1) (by omega) (.slice ESub 4 sSub)
    replace h11 := heap_set (i := 1) h11 (.slice ESub 4 sSub)
    replace oMul := oMul.far (g := g11) (i := 1) (by omega) (.slice ESub 4 sSub)
    replace uMul := uMul.far (g := g11) (i := 1) (by omega) (.slice ESub 4 sSub)
    replace h13 := heap_far h13 (p := ⟨g11, 1, none⟩) (by simp; omega) (.slice ESub 4 sSub)
    replace low := low.setCell (p := ⟨g11, 1, none⟩) (by show w.heap.size ≤ g11; omega) (.slice ESub 4 sSub)
    have q48 : (yAdd.setCell ⟨g11, 1, none⟩ (.slice ESub 4 sSub)).heap.size ≤ yAdd.heap.size := by simp
    have q48b : yAdd.heap.size ≤ (yAdd.setCell ⟨g11, 1, none⟩ (.slice ESub 4 sSub)).heap.size := by simp
    generalize hh : yAdd.setCell ⟨g11, 1, none⟩ (.slice ESub 4 sSub) = ySub at *
    clear hh
    replace h11 : ySub.heap[g11]? = some (.cells #[.slice C0Sub 30 q0Sub, .slice ESub 4 sSub] 31 (0, 0)) := h11
    obtain ⟨c49, f50⟩ := blk (i := 0) h13 rfl
    obtain ⟨c51, f52⟩ := blk (i := 1) h13 rfl
    go_upto_region 14 with (fail)
    clear c49 f50 c51 f52
    replace ox := ox.far (g := g13) (i := 1) (by omega) (.slice EMul 4 sMul)
    replace h6 := heap_far h6 (p := ⟨g13, 1, none⟩) (by simp; omega) (.slice EMul 4 sMul)
    replace oz := oz.far (g := g13) (i := 1) (by omega) (.slice EMul 4 sMul)
    replace oy := oy.far (g := g13) (i := 1) (by omega) (.slice EMul 4 sMul)
    replace oAdd := oAdd.far (g := g13) (i := 1) (by omega) (.slice EMul 4 sMul)
    replace uAdd := uAdd.far (g := g13) (i := 1) (by omega) (.slice EMul 4 sMul)
    replace h9 := heap_far h9 (p := ⟨g13, 1, none⟩) (by simp; omega) (.slice EMul 4 sMul)
    replace oSub := oSub.far (g := g13) (i := 1) (by omega) (.slice EMul 4 sMul)
    replace uSub := uSub.far (g := g13) (i := 1) (by omega) (.slice EMul 4 sMul)
    replace h11 := heap_far h11 (p := ⟨g13, 1, none⟩) (by simp; omega) (.slice EMul 4 sMul)
    replace oMul := oMul.far (g := g13) (i := 1) (by omega) (.slice EMul 4 sMul)
    replace uMul := uMul.far (g := g13) (i := 1) (by omega) (.slice EMul 4 sMul)
    replace h13 := heap_set (i := 1) h13 (.slice EMul 4 sMul)
    replace low := low.setCell (p := ⟨g13, 1, none⟩) (by show w.heap.size ≤ g13; omega) (.slice EMul 4 sMul)
    have q53 : (ySub.setCell ⟨g13, 1, none⟩ (.slice EMul 4 sMul)).heap.size ≤ ySub.heap.size := by simp
    have q53b : ySub.heap.size ≤ (ySub.setCell ⟨g13, 1, none⟩ (.slice EMul 4 sMul)).heap.size := by simp
    generalize hh : ySub.setCell ⟨g13, 1, none⟩ (.slice EMul 4 sMul) = yMul at *
    clear hh
    replace h13 : yMul.heap[g13]? = some (.cells #[.slice C0Mul 42 q0Mul, .slice EMul 4 sMul] 31 (0, 0)) := h13
    go_wp2_with (first | (refine make_fullI Try.underlying23 infoInt rfl rfl _ _ rfl yMul.heap.size _ _ _ _ 80 rfl rfl rfl rfl (by omega) (by unfold maxLen; omega) (Nat.le_refl _) ?_))
    intro w8 hown8 hg8
    have hb : Below yMul.heap.size yMul w8 := (Below.refl _ _).grown hg8 (Nat.le_refl _) (fun k h => by cases h)
    have ob := OwnA.of_own (show w8.ownsRow _ _ 1 _ 80 (intVals (List.replicate 80 0)) from hown8)
    clear hown8 hg8
    replace ox := ox.below hb
    replace h6 := heap_below h6 hb
    replace oz := oz.below hb
    replace oy := oy.below hb
    replace oAdd := oAdd.below hb
    replace uAdd := uAdd.below hb
    replace h9 := heap_below h9 hb
    replace oSub := oSub.below hb
    replace uSub := uSub.below hb
    replace h11 := heap_below h11 hb
    replace oMul := oMul.below hb
    replace uMul := uMul.below hb
    replace h13 := heap_below h13 hb
    replace low := low.trans (hb.mono low.size)
    have q54 := hb.size
    clear hb
    obtain ⟨xsAdd, evAdd, ecAdd, lxAdd, bxAdd, nbAdd⟩ := GAdd.ev
    have kAdd := impl_EvalCircuit C0Add 26 q0Add RAdd.1 EAdd 4 sAdd RAdd.2 _ 80 80 (List.replicate 80 0) w8 oAdd.o0.ints GAdd.len (by omega) uAdd.ints GAdd.lu (by omega) ob.ints (by simp) (by omega)
    rw [ecAdd, decide_eq_true evAdd] at kAdd
    obtain ⟨c55, f56⟩ := blk (i := 0) h9 rfl
    obtain ⟨c57, f58⟩ := blk (i := 1) h9 rfl
    go_wp2_with fail
    clear c55 f56 c57 f58
    refine kAdd.mono ?_
    rintro e tAdd ⟨FAdd, fAdd, iAdd, rfl, vAdd, hb⟩
    clear kAdd evAdd ecAdd
    replace ox := ox.below hb
    replace h6 := heap_below h6 hb
    replace oz := oz.below hb
    replace oy := oy.below hb
    replace oAdd := oAdd.below hb
    replace uAdd := uAdd.below hb
    replace h9 := heap_below h9 hb
    replace oSub := oSub.below hb
    replace uSub := uSub.below hb
    replace h11 := heap_below h11 hb
    replace oMul := oMul.below hb
    replace uMul := uMul.below hb
    replace h13 := heap_below h13 hb
    replace ob := ob.below hb
    replace low := low.trans (hb.mono low.size)
    have q59 := hb.size
    clear hb
    obtain rfl : fAdd = 4 := by rw [← vAdd.len1]; exact lxAdd
    obtain ⟨xsSub, evSub, ecSub, lxSub, bxSub, nbSub⟩ := GSub.ev
    have kSub := impl_EvalCircuit C0Sub 30 q0Sub RSub.1 ESub 4 sSub RSub.2 _ 80 80 (List.replicate 80 0) tAdd oSub.o0.ints GSub.len (by omega) uSub.ints GSub.lu (by omega) ob.ints (by simp) (by omega)
    rw [ecSub, decide_eq_true evSub] at kSub
    obtain ⟨c60, f61⟩ := blk (i := 0) h11 rfl
    obtain ⟨c62, f63⟩ := blk (i := 1) h11 rfl
    go_wp2_with fail
    clear c60 f61 c62 f63
    refine kSub.mono ?_
    rintro e tSub ⟨FSub, fSub, iSub, rfl, vSub, hb⟩
    clear kSub evSub ecSub
    replace ox := ox.below hb
    replace h6 := heap_below h6 hb
    replace oz := oz.below hb
    replace oy := oy.below hb
    replace oAdd := oAdd.below hb
    replace uAdd := uAdd.below hb
    replace h9 := heap_below h9 hb
    replace oSub := oSub.below hb
    replace uSub := uSub.below hb
    replace h11 := heap_below h11 hb
    replace oMul := oMul.below hb
    replace uMul := uMul.below hb
    replace h13 := heap_below h13 hb
    replace ob := ob.below hb
    replace vAdd := vAdd.below hb
    replace low := low.trans (hb.mono low.size)
    have q64 := hb.size
    clear hb
    obtain rfl : fSub = 4 := by rw [← vSub.len1]; exact lxSub
    obtain ⟨xsMul, evMul, ecMul, lxMul, bxMul, nbMul⟩ := GMul.ev
    have kMul := impl_EvalCircuit C0Mul 42 q0Mul RMul.1 EMul 4 sMul RMul.2 _ 80 80 (List.replicate 80 0) tSub oMul.o0.ints GMul.len (by omega) uMul.ints GMul.lu (by omega) ob.ints (by simp) (by omega)
    rw [ecMul, decide_eq_true evMul] at kMul
    obtain ⟨c65, f66⟩ := blk (i := 0) h13 rfl
    obtain ⟨c67, f68⟩ := blk (i := 1) h13 rfl
    go_wp2_with fail
    clear c65 f66 c67 f68
    refine kMul.mono ?_
    rintro e tMul ⟨FMul, fMul, iMul, rfl, vMul, hb⟩
    clear kMul evMul ecMul
    replace ox := ox.below hb
    replace h6 := heap_below h6 hb
    replace oz := oz.below hb
    replace oy := oy.below hb
    replace oAdd := oAdd.below hb
    replace uAdd := uAdd.below hb
    replace h9 := heap_below h9 hb
    replace oSub := oSub.below hb
    replace uSub := uSub.below hb
    replace h11 := heap_below h11 hb
    replace oMul := oMul.below hb
    replace uMul := uMul.below hb
    replace h13 := heap_below h13 hb
    replace ob := ob.below hb
    replace vAdd := vAdd.below hb
    replace vSub := vSub.below hb
    replace low := low.trans (hb.mono low.size)
    have q69 := hb.size
    clear hb
    obtain rfl : fMul = 4 := by rw [← vMul.len1]; exact lxMul
    have a15 := and15 (x := a - b) (by omega)
    have ab0 : 0 ≤ a * b := Int.mul_nonneg ha.1 hbb.1
    have ab1 : a * b ≤ 225 := by
      have h1 := Int.mul_le_mul ha.2 hbb.2 hbb.1 (by omega : (0 : Int) ≤ 15)
      omega
    obtain ⟨ha0, ha1⟩ := ha
    obtain ⟨hb0, hb1⟩ := hbb
    have mAdd := spec_NumberOf FAdd 4 iAdd xsAdd tMul vAdd.ints lxAdd (by omega) bxAdd
    rw [nbAdd] at mAdd
    have mSub := spec_NumberOf FSub 4 iSub xsSub tMul vSub.ints lxSub (by omega) bxSub
    rw [nbSub] at mSub
    have mMul := spec_NumberOf FMul 4 iMul xsMul tMul vMul.ints lxMul (by omega) bxMul
    rw [nbMul] at mMul
    clear hT
    have nAdd := fun W (h : Below tMul.heap.size tMul W) => impl_CountGates C0Add 26 q0Add RAdd.1 EAdd 4 sAdd 4 W (Ints.below oAdd.o0.ints h) GAdd.len (by omega)
    rw [GAdd.and_] at nAdd
    have lAdd := GAdd
    clear GAdd lAdd
    have nSub := fun W (h : Below tMul.heap.size tMul W) => impl_CountGates C0Sub 30 q0Sub RSub.1 ESub 4 sSub 4 W (Ints.below oSub.o0.ints h) GSub.len (by omega)
    rw [GSub.and_] at nSub
    have lSub := GSub
    clear GSub lSub
    have nMul := fun W (h : Below tMul.heap.size tMul W) => impl_CountGates C0Mul 42 q0Mul RMul.1 EMul 4 sMul 4 W (Ints.below oMul.o0.ints h) GMul.len (by omega)
    rw [GMul.and_] at nMul
    have lMul := GMul
    clear GMul lMul
    obtain ⟨c70, f71⟩ := blk (i := 0) h9 rfl
    obtain ⟨c72, f73⟩ := blk (i := 1) h9 rfl
    obtain ⟨c74, f75⟩ := blk (i := 0) h11 rfl
    obtain ⟨c76, f77⟩ := blk (i := 1) h11 rfl
    obtain ⟨c78, f79⟩ := blk (i := 0) h13 rfl
    obtain ⟨c80, f81⟩ := blk (i := 1) h13 rfl
    go_wp2_with fail
    refine mAdd.mono ?_
    rintro e w9 ⟨rfl, rfl⟩
    clear mAdd
    go_wp2_with fail
    refine mSub.mono ?_
    rintro e w9 ⟨rfl, rfl⟩
    clear mSub
    go_wp2_with fail
    refine mMul.mono ?_
    rintro e w9 ⟨rfl, rfl⟩
    clear mMul
    go_wp2_with fail
    have R0 := Below.refl tMul.heap.size tMul
    refine (nAdd tMul R0).mono ?_
    rintro e zAdd ⟨rfl, hb⟩
    clear nAdd
    clear c70 f71 c72 f73 c74 f75 c76 f77 c78 f79 c80 f81
    replace ox := ox.below hb
    replace h6 := heap_below h6 hb
    replace oz := oz.below hb
    replace oy := oy.below hb
    replace oAdd := oAdd.below hb
    replace uAdd := uAdd.below hb
    replace h9 := heap_below h9 hb
    replace oSub := oSub.below hb
    replace uSub := uSub.below hb
    replace h11 := heap_below h11 hb
    replace oMul := oMul.below hb
    replace uMul := uMul.below hb
    replace h13 := heap_below h13 hb
    replace ob := ob.below hb
    replace vAdd := vAdd.below hb
    replace vSub := vSub.below hb
    replace vMul := vMul.below hb
    replace low := low.trans (hb.mono low.size)
    have q82 := hb.size
    have R1 := R0.trans (hb.mono R0.size)
    clear hb
    obtain ⟨c83, f84⟩ := blk (i := 0) h9 rfl
    obtain ⟨c85, f86⟩ := blk (i := 1) h9 rfl
    obtain ⟨c87, f88⟩ := blk (i := 0) h11 rfl
    obtain ⟨c89, f90⟩ := blk (i := 1) h11 rfl
    obtain ⟨c91, f92⟩ := blk (i := 0) h13 rfl
    obtain ⟨c93, f94⟩ := blk (i := 1) h13 rfl
    go_wp2_with fail
    refine (nSub zAdd R1).mono ?_
    rintro e zSub ⟨rfl, hb⟩
    clear nSub
    clear c83 f84 c85 f86 c87 f88 c89 f90 c91 f92 c93 f94
    replace ox := ox.below hb
    replace h6 := heap_below h6 hb
    replace oz := oz.below hb
    replace oy := oy.below hb
    replace oAdd := oAdd.below hb
    replace uAdd := uAdd.below hb
    replace h9 := heap_below h9 hb
    replace oSub := oSub.below hb
    replace uSub := uSub.below hb
    replace h11 := heap_below h11 hb
    replace oMul := oMul.below hb
    replace uMul := uMul.below hb
    replace h13 := heap_below h13 hb
    replace ob := ob.below hb
    replace vAdd := vAdd.below hb
    replace vSub := vSub.below hb
    replace vMul := vMul.below hb
    replace low := low.trans (hb.mono low.size)
    have q95 := hb.size
    have R2 := R1.trans (hb.mono R1.size)
    clear hb
    obtain ⟨c96, f97⟩ := blk (i := 0) h9 rfl
    obtain ⟨c98, f99⟩ := blk (i := 1) h9 rfl
    obtain ⟨c100, f101⟩ := blk (i := 0) h11 rfl
    obtain ⟨c102, f103⟩ := blk (i := 1) h11 rfl
    obtain ⟨c104, f105⟩ := blk (i := 0) h13 rfl
    obtain ⟨c106, f107⟩ := blk (i := 1) h13 rfl
    go_wp2_with fail
    refine (nMul zSub R2).mono ?_
    rintro e zMul ⟨rfl, hb⟩
    clear nMul
    clear c96 f97 c98 f99 c100 f101 c102 f103 c104 f105 c106 f107
    replace ox := ox.below hb
    replace h6 := heap_below h6 hb
    replace oz := oz.below hb
    replace oy := oy.below hb
    replace oAdd := oAdd.below hb
    replace uAdd := uAdd.below hb
    replace h9 := heap_below h9 hb
    replace oSub := oSub.below hb
    replace uSub := uSub.below hb
    replace h11 := heap_below h11 hb
    replace oMul := oMul.below hb
    replace uMul := uMul.below hb
    replace h13 := heap_below h13 hb
    replace ob := ob.below hb
    replace vAdd := vAdd.below hb
    replace vSub := vSub.below hb
    replace vMul := vMul.below hb
    replace low := low.trans (hb.mono low.size)
    have q108 := hb.size
    have R3 := R2.trans (hb.mono R2.size)
    clear hb
    obtain ⟨c109, f110⟩ := blk (i := 0) h9 rfl
    obtain ⟨c111, f112⟩ := blk (i := 1) h9 rfl
    obtain ⟨c113, f114⟩ := blk (i := 0) h11 rfl
    obtain ⟨c115, f116⟩ := blk (i := 1) h11 rfl
    obtain ⟨c117, f118⟩ := blk (i := 0) h13 rfl
    obtain ⟨c119, f120⟩ := blk (i := 1) h13 rfl
    go_wp2_with fail
    go_ret
    exact ⟨by first | rfl | simp, low⟩
end Go.Proofs.Ytegdlegndgdgiaa
