/- The law FnSimplified: the walk, from the program's contracts. No condition. -/
import Derived.Test.YtegdlegndgdgiaaProg
import Derived.Test.YtegdlegndgdgiaaSameC
import Derived.Test.YtegdlegndgdgiaaCirI
import Derived.Test.YtegdlegndgdgiaaCirC
import Derived.Test.YtegdlegndgdgiaaCirD
import Derived.Test.YtegdlegndgdgiaaCirE
import Derived.Deep.RegionHeld3
namespace Go.Proofs.Ytegdlegndgdgiaa
open Go Go.RowKit
set_option maxHeartbeats 8000000 in
set_option maxRecDepth 100000 in
theorem FnSimplified_from (hS : CtoC 46 simZ simO) (hO : CtoC 47 optZ optO) (hP : CtoC 51 pruZ pruO) (A : Option Addr) (n c : Nat) (w : World) (hb : Bytes w.heap.size w A n) (hm : n ≤ 9223372036854775807) :
    Calls Try.prog 8 #[.slice A n c] w fun e w' => e = .returned (.bool true) ∧ Below w.heap.size w w' := by
  by_cases hn : 1048576 < n
  · go_enter Try.func8, Try.ntmps8
    go_wp2_with fail
    refine (big_any A n c w true (by simpa using hn) hm).mono ?_
    rintro e w1 ⟨rfl, rfl⟩
    go_wp2_with fail
    go_ret
    exact ⟨rfl, Below.refl _ _⟩
  have hn' : n ≤ 1048576 := by omega
  go_enter Try.func8, Try.ntmps8
  go_wp2_with fail
  refine (big_any A n c w false (by simpa using hn') hm).mono ?_
  rintro e w1 ⟨rfl, rfl⟩
  go_wp2_with fail
  refine (DrawCircuit_any A n c w hb (by omega)).mono ?_
  intro e w1 h
  obtain ⟨A0, N, c0, z0, A1, m, c1, z1, A2, c2, bs, rfl, ⟨n1, n24⟩, hm4, hg, hw, hbs, l0, l1, i0, i1, i2, low⟩ := h
  have hcir : cirOk z0 N z1 := ⟨by omega, hg, hw⟩
  have hev : evOk z0 N z1 bs := ⟨hcir, hbs⟩
  obtain ⟨s1, s2, s3, s4⟩ := sim_all hcir
  obtain ⟨t1, t2, t3, t4, t5⟩ := opt_all hcir
  have e1 := s4 bs
  have e2 := t2 bs
  obtain ⟨s5, s6⟩ := simZ_len (os := z1) l0
  obtain ⟨t6, t7⟩ := optZ_len (os := z1) l0
  have s7 := simO_len z0 z1 N
  have t8 := optO_len z0 z1 N
  have el : (evC z0 N z1 bs).length = m := by rw [show evC z0 N z1 bs = outV (wv z0 bs N) z1 from if_pos hev, outV_length, l1]
  have bx := heap_alloc_new w1 (.cells #[.slice A0 N c0, .slice A1 m c1] 31)
  have low1 := low_alloc low (.cells #[.slice A0 N c0, .slice A1 m c1] 31)
  have j0 := (i0.al (.cells #[.slice A0 N c0, .slice A1 m c1] 31)).bound
  have j1 := (i1.al (.cells #[.slice A0 N c0, .slice A1 m c1] 31)).bound
  have j2 := (i2.al (.cells #[.slice A0 N c0, .slice A1 m c1] 31)).bound
  have cS := fun W k0 k1 => hS A0 N c0 z0 A1 m c1 z1 W k0 l0 (by omega) k1 l1 (by omega)
  have cO := fun W k0 k1 => hO A0 N c0 z0 A1 m c1 z1 W k0 l0 (by omega) k1 l1 (by omega)
  have cE := fun W k0 k1 k2 => spec_EvalCircuit A0 N c0 z0 A1 m c1 z1 A2 80 c2 bs W k0 l0 (by omega) k1 l1 (by omega) k2 hbs.1 (by omega)
  have cN := fun W k0 => spec_CountGates A0 N c0 z0 A1 m c1 4 W k0 l0 (by omega)
  simp only [decide_eq_true hev] at cE
  generalize simZ z0 N z1 = zx at *
  generalize simO z0 N z1 = ox at *
  generalize simN z0 N z1 = K at *
  generalize optZ z0 N z1 = zy at *
  generalize optO z0 N z1 = oy at *
  generalize optN z0 N z1 = M at *
  generalize evC z0 N z1 bs = E at *
  have lox : ox.length = m := by omega
  have loy : oy.length = m := by omega
  have hevx : evOk zx K ox bs := ⟨s1, hbs⟩
  have hevy : evOk zy M oy bs := ⟨t1, hbs⟩
  have cF := fun B0 d0 B1 d1 W k0 k1 k2 => impl_EvalCircuit B0 K d0 zx B1 m d1 ox A2 80 c2 bs W k0 s5 (by omega) k1 lox (by omega) k2 hbs.1 (by omega)
  have cG := fun B0 d0 B1 d1 W k0 k1 k2 => impl_EvalCircuit B0 M d0 zy B1 m d1 oy A2 80 c2 bs W k0 t6 (by omega) k1 loy (by omega) k2 hbs.1 (by omega)
  have cM := fun B0 d0 B1 d1 W k0 => impl_CountGates B0 K d0 zx B1 m d1 4 W k0 s5 (by omega)
  have cP := fun B0 d0 B1 d1 W k0 k1 => hP B0 M d0 zy B1 m d1 oy W k0 t6 (by omega) k1 loy (by omega)
  simp only [decide_eq_true hevx, e1] at cF
  simp only [decide_eq_true hevy, e2] at cG
  simp only [t3, t4] at cP
  have LX := Lib.hid s5
  have LY := Lib.hid t6
  have LO := Lib.hid lox
  have LP := Lib.hid loy
  have EL := Lib.hid el
  have C1 := Lib.hid s2
  have C2 := Lib.hid t7
  have C3 := Lib.hid (show M ≤ 24 by omega)
  clear hcir hev hg hw hbs l0 l1 i0 i1 i2 low hb hm hn hn' s1 s2 s3 s4 s5 s6 s7 t1 t2 t3 t4 t5 t6 t7 t8 e1 e2 el lox loy hevx hevy hS hO hP
  go_wp2_with fail
  generalize w1.alloc (.cells #[.slice A0 N c0, .slice A1 m c1] 31) = w0 at *
  refine (cS w0 (j0.ints (Nat.le_refl _)) (j1.ints (Nat.le_refl _))).mono ?_
  rintro e w2 ⟨B0, B1, q0, q1, d0, d1, rfl, o, hb2⟩
  obtain rfl : q0 = K := by have := o.o0.len; have := LX.out; omega
  obtain rfl : q1 = m := by have := o.o1.len; have := LO.out; omega
  have bx2 := heap_below bx hb2
  have al := below_alloc w2 (.cells #[.slice B0 q0 d0, .slice B1 q1 d1] 31)
  have bX3 := heap_alloc_new w2 (.cells #[.slice B0 q0 d0, .slice B1 q1 d1] 31)
  have bx3 := heap_below bx2 al
  have hb3 := hb2.trans (al.mono hb2.size)
  have k0 := (o.alloc (.cells #[.slice B0 q0 d0, .slice B1 q1 d1] 31)).o0.intsB.more al.size
  have k1 := (o.alloc (.cells #[.slice B0 q0 d0, .slice B1 q1 d1] 31)).o1.intsB.more al.size
  have a0 := (blk (i := 0) (u := .slice A0 N c0) bx3 rfl).1
  have a1 := (blk (i := 1) (u := .slice A1 q1 c1) bx3 rfl).1
  have x0 := (blk (i := 0) (u := .slice A0 N c0) bx2 rfl).1
  have x1 := (blk (i := 1) (u := .slice A1 q1 c1) bx2 rfl).1
  have lw3 := low1.trans (hb3.mono low1.size)
  clear o al hb2 bx2 cS bx low1
  go_wp2_with fail
  generalize w2.alloc (.cells #[.slice B0 q0 d0, .slice B1 q1 d1] 31) = w3 at *
  refine (cO w3 ((j0.below hb3).ints hb3.size) ((j1.below hb3).ints hb3.size)).mono ?_
  rintro e w4 ⟨D0, D1, p0, p1, f0, f1, rfl, o, hb4⟩
  obtain rfl : p0 = M := by have := o.o0.len; have := LY.out; omega
  obtain rfl : p1 = q1 := by have := o.o1.len; have := LP.out; omega
  have bx4 := heap_below bx3 hb4
  have bX4 := heap_below bX3 hb4
  have al := below_alloc w4 (.cells #[.slice D0 p0 f0, .slice D1 p1 f1] 31)
  have bY5 := heap_alloc_new w4 (.cells #[.slice D0 p0 f0, .slice D1 p1 f1] 31)
  have hb45 := hb4.trans (al.mono hb4.size)
  have bx5 := heap_below bx4 al
  have bX5 := heap_below bX4 al
  have b05 := hb3.trans (hb45.mono hb3.size)
  have lw5 := lw3.trans (hb45.mono lw3.size)
  replace k0 := (k0.below hb45).more hb45.size
  replace k1 := (k1.below hb45).more hb45.size
  have h0 := (o.alloc (.cells #[.slice D0 p0 f0, .slice D1 p1 f1] 31)).o0.intsB.more al.size
  have h1 := (o.alloc (.cells #[.slice D0 p0 f0, .slice D1 p1 f1] 31)).o1.intsB.more al.size
  have a0 := (blk (i := 0) (u := .slice A0 N c0) bx5 rfl).1
  have a1 := (blk (i := 1) (u := .slice A1 p1 c1) bx5 rfl).1
  clear o al hb4 hb45 bx3 bX3 bx4 bX4 cO x0 x1 lw3 hb3
  go_wp2_with fail
  generalize w4.alloc (.cells #[.slice D0 p0 f0, .slice D1 p1 f1] 31) = w5 at *
  replace j0 := (j0.below b05).more b05.size
  replace j1 := (j1.below b05).more b05.size
  replace j2 := (j2.below b05).more b05.size
  generalize w1.heap.size = gC at *
  generalize w2.heap.size = gX at *
  generalize w4.heap.size = gY at *
  clear b05
  refine (cE w5 (j0.ints (Nat.le_refl _)) (j1.ints (Nat.le_refl _)) (j2.ints (Nat.le_refl _))).mono ?_
  rintro e w6 ⟨A4, q4, c4, rfl, oE, hb6⟩
  obtain rfl : q4 = p1 := by have := oE.len1; have := EL.out; omega
  have bx6 := heap_below bx5 hb6
  have bX6 := heap_below bX5 hb6
  have bY6 := heap_below bY5 hb6
  have lw6 := lw5.trans (hb6.mono lw5.size)
  have iE := oE.intsB
  have a0 := (blk (i := 0) (u := .slice B0 q0 d0) bX6 rfl).1
  have a1 := (blk (i := 1) (u := .slice B1 q4 d1) bX6 rfl).1
  clear oE cE bx5 bX5 bY5 lw5
  go_wp2_with fail
  refine (cF B0 d0 B1 d1 w6 ((k0.below hb6).ints hb6.size) ((k1.below hb6).ints hb6.size) ((j2.below hb6).ints hb6.size)).mono ?_
  rintro e w7 ⟨A5, q5, c5, rfl, oF, hb7⟩
  obtain rfl : q5 = q4 := by have := oF.len1; have := EL.out; omega
  have bx7 := heap_below bx6 hb7
  have bX7 := heap_below bX6 hb7
  have bY7 := heap_below bY6 hb7
  have lw7 := lw6.trans (hb7.mono lw6.size)
  have b57 := hb6.trans (hb7.mono hb6.size)
  have iF := oF.intsB
  replace iE := (iE.below hb7).more hb7.size
  have a0 := (blk (i := 0) (u := .slice D0 p0 f0) bY7 rfl).1
  have a1 := (blk (i := 1) (u := .slice D1 q5 f1) bY7 rfl).1
  clear oF cF bx6 bX6 bY6 lw6 hb6 hb7
  go_wp2_with fail
  refine (cG D0 f0 D1 f1 w7 ((h0.below b57).ints b57.size) ((h1.below b57).ints b57.size) ((j2.below b57).ints b57.size)).mono ?_
  rintro e w8 ⟨A6, q6, c6, rfl, oG, hb8⟩
  obtain rfl : q6 = q5 := by have := oG.len1; have := EL.out; omega
  have bx8 := heap_below (heap_below bx7 hb8) (Below.refl _ _).drew
  have bX8 := heap_below (heap_below bX7 hb8) (Below.refl _ _).drew
  have bY8 := heap_below (heap_below bY7 hb8) (Below.refl _ _).drew
  have lw8 := (lw7.trans (hb8.mono lw7.size)).drew
  have b58 := (b57.trans (hb8.mono b57.size)).drew
  have d8 := hb8.drew
  have iG : IntsB w8.drew.heap.size w8.drew A6 E := oG.drew.intsB
  replace iE := (iE.below d8).more d8.size
  replace iF := (iF.below d8).more d8.size
  replace j0 := (j0.below b58).more b58.size
  replace k0 := (k0.below b58).more b58.size
  replace h0 := (h0.below b58).more b58.size
  replace h1 := (h1.below b58).more b58.size
  have y0 := (blk (i := 0) (u := .slice A0 N c0) bx8 rfl).1
  have y1 := (blk (i := 1) (u := .slice A1 q6 c1) bx8 rfl).1
  have y2 := (blk (i := 0) (u := .slice B0 q0 d0) bX8 rfl).1
  have y3 := (blk (i := 1) (u := .slice B1 q6 d1) bX8 rfl).1
  have y4 := (blk (i := 0) (u := .slice D0 p0 f0) bY8 rfl).1
  have y5 := (blk (i := 1) (u := .slice D1 q6 f1) bY8 rfl).1
  have hc1 : decide (((cnt zx 4 q0 : Nat) : Int) ≤ ((cnt z0 4 N : Nat) : Int)) = true := decide_eq_true (by have := C1.out; omega)
  have hc2 : decide ((p0 : Int) ≤ (q0 : Int)) = true := decide_eq_true (by have := C2.out; omega)
  have hc3 : decide (p0 ≤ q0) = true := decide_eq_true C2.out
  generalize ((cnt zx 4 q0 : Nat) : Int) = u at *
  generalize ((cnt z0 4 N : Nat) : Int) = v at *
  clear oG cG bx7 bX7 bY7 lw7 hb8 b57 b58 d8 bx8 bX8 bY8 j2 j1 k1 a0 a1
  go_wp2_with fail
  go_region_held3 (fun w' => w'.cell? ⟨gC, 0, none⟩ = some (.slice A0 N c0) ∧ w'.cell? ⟨gC, 1, none⟩ = some (.slice A1 q6 c1) ∧ w'.cell? ⟨gX, 0, none⟩ = some (.slice B0 q0 d0) ∧ w'.cell? ⟨gX, 1, none⟩ = some (.slice B1 q6 d1) ∧ w'.cell? ⟨gY, 0, none⟩ = some (.slice D0 p0 f0) ∧ w'.cell? ⟨gY, 1, none⟩ = some (.slice D1 q6 f1)) (first | exact ⟨y0, y1, y2, y3, y4, y5⟩ | exact ⟨z10, z11, z12, z13, z14, z15⟩ | exact ⟨z20, z21, z22, z23, z24, z25⟩ | exact ⟨z30, z31, z32, z33, z34, z35⟩ | exact ⟨z40, z41, z42, z43, z44, z45⟩ | exact ⟨z50, z51, z52, z53, z54, z55⟩ | exact ⟨z60, z61, z62, z63, z64, z65⟩) (first
    | (go_at_call 48; (with_reducible refine (sameInts_same q6 c4 c5 A4 A5 E _ (iE.ints (Nat.le_refl _)) (iF.ints (Nat.le_refl _)) EL.out (by omega)).mono ?_); rintro e w9 ⟨rfl, hb⟩; (have z10 := cell_on y0 hb); (have z11 := cell_on y1 hb); (have z12 := cell_on y2 hb); (have z13 := cell_on y3 hb); (have z14 := cell_on y4 hb); (have z15 := cell_on y5 hb); (have t1 := hb))
    | (go_at_call 48; (with_reducible refine (sameInts_same q6 c4 c6 A4 A6 E _ ((iE.below t1).ints t1.size) ((iG.below t1).ints t1.size) EL.out (by omega)).mono ?_); rintro e w10 ⟨rfl, hb⟩; (have z20 := cell_on z10 hb); (have z21 := cell_on z11 hb); (have z22 := cell_on z12 hb); (have z23 := cell_on z13 hb); (have z24 := cell_on z14 hb); (have z25 := cell_on z15 hb); (have t2 := t1.trans (hb.mono t1.size)))
    | (go_at_call 30; (with_reducible refine (cM B0 d0 B1 d1 _ ((k0.below t2).ints t2.size)).mono ?_); rintro e w11 ⟨rfl, hb⟩; (have z30 := cell_on z20 hb); (have z31 := cell_on z21 hb); (have z32 := cell_on z22 hb); (have z33 := cell_on z23 hb); (have z34 := cell_on z24 hb); (have z35 := cell_on z25 hb); (have t3 := t2.trans (hb.mono t2.size)))
    | (go_at_call 49; (with_reducible refine (cN _ ((j0.below t3).ints t3.size)).mono ?_); rintro e w12 ⟨rfl, hb⟩; (have z40 := cell_on z30 hb); (have z41 := cell_on z31 hb); (have z42 := cell_on z32 hb); (have z43 := cell_on z33 hb); (have z44 := cell_on z34 hb); (have z45 := cell_on z35 hb); (have t4 := t3.trans (hb.mono t3.size)))
    | (go_at_call 51; (with_reducible refine (cP D0 f0 D1 f1 _ ((h0.below t4).ints t4.size) ((h1.below t4).ints t4.size)).mono ?_); rintro e w13 ⟨G0, G1, r0, r1, g0, g1, rfl, o, hb⟩; (obtain rfl : r0 = p0 := by have := o.o0.len; have := LY.out; omega); (obtain rfl : r1 = q6 := by have := o.o1.len; have := LP.out; omega); (have z50 := cell_on z40 hb); (have z51 := cell_on z41 hb); (have z52 := cell_on z42 hb); (have z53 := cell_on z43 hb); (have z54 := cell_on z44 hb); (have z55 := cell_on z45 hb); (have t5 := t4.trans (hb.mono t4.size)))
    | (go_at_call 50; (with_reducible refine (sameCircuit_same r0 r1 g0 f0 g1 f1 G0 D0 G1 D1 zy oy _ o.o0.ints ((h0.below t5).ints t5.size) LY.out (by have := C3.out; omega) o.o1.ints ((h1.below t5).ints t5.size) LP.out (by omega)).mono ?_); rintro e w14 ⟨rfl, hb⟩; (have z60 := cell_on z50 hb); (have z61 := cell_on z51 hb); (have z62 := cell_on z52 hb); (have z63 := cell_on z53 hb); (have z64 := cell_on z54 hb); (have z65 := cell_on z55 hb); (have t6 := t5.trans (hb.mono t5.size))))
  all_goals
    have L9 := Lib.hid (lw8.trans (t6.mono lw8.size))
    go_wp2_with fail
    go_ret
    exact ⟨by first | rfl | simp, L9.out⟩
end Go.Proofs.Ytegdlegndgdgiaa
