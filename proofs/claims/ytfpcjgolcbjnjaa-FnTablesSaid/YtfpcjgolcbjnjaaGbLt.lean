/- The law FnTables: the walk. -/
import Derived.Test.YtfpcjgolcbjnjaaProg
import Derived.Test.YtfpcjgolcbjnjaaGbD
import Derived.Test.YtfpcjgolcbjnjaaGbL
import Derived.Test.YtfpcjgolcbjnjaaGbH
import Derived.Test.YtfpcjgolcbjnjaaGbV
import Derived.Test.YtfpcjgolcbjnjaaSameI
import Derived.Lib.QuietBelow
import Derived.BigQuiet
namespace Go.Proofs.Ytfpcjgolcbjnjaa
open Go Go.RowKit
set_option maxRecDepth 100000 in
set_option maxHeartbeats 8000000 in
theorem FnTables_walk (A : Option Addr) (n c : Nat) (w : World) (hb : Bytes w.heap.size w A n) (hm : n ≤ 9223372036854775807) :
    Calls Try.prog 3 #[.slice A n c] w fun e w' => e = .returned (.bool true) ∧ Below w.heap.size w w' := by
  by_cases hn : 1048576 < n
  · go_enter Try.func3, Try.ntmps3
    go_wp2_with fail
    refine (big_any A n c w true (by simpa using hn) hm).mono ?_
    rintro e w1 ⟨rfl, rfl⟩
    go_wp2_with fail
    go_ret
    exact ⟨rfl, Below.refl _ _⟩
  have hn' : n ≤ 1048576 := by omega
  go_enter Try.func3, Try.ntmps3
  go_wp2_with fail
  refine (big_any A n c w false (by simpa using hn') hm).mono ?_
  rintro e w1 ⟨rfl, rfl⟩
  go_wp2_with fail
  refine (DrawGarbling_any A n c w hb (by omega)).mono ?_
  intro e w1 h
  obtain ⟨A0, N, c0, z0, A1, m, c1, z1, A2, c2, bs, s, a, rfl, ⟨n1, n24⟩, hm4, hg, hw, hbs, ⟨hs, ha0, ha1⟩, l0, l1, i0, i1, i2, low⟩ := h
  have hd : dOk s a := ⟨⟨hs, by omega, by omega⟩, by omega⟩
  have hgar : garOk z0 N z1 s a := ⟨⟨by omega, hg, hw⟩, hd⟩
  have hin : inOk s a bs := ⟨hd, by rw [hbs.1]; omega, hbs.2⟩
  have hgok := gar_ok hgar
  obtain ⟨d0, d1⟩ := dlt_lbl hd
  have dn := d0.1
  have cG := fun W j0 j1 => impl_Garble A0 N c0 z0 A1 m c1 z1 s a W j0 l0 (by omega) j1 l1 (by omega)
  simp only [show garD z0 N z1 s a = dltI s a from if_pos hgar, show garZ z0 N z1 s a = gbZ z0 s a (dltI s a) N from if_pos hgar, show garT z0 N z1 s a = gbT z0 s a (dltI s a) N from if_pos hgar, decide_eq_true hgar] at cG
  have cP := fun W B1 m1 d1 B2 m2 d2 j0 j1 k1 lk1 mk1 k2 lk2 mk2 => impl_PublicOf A0 N c0 z0 A1 m c1 z1 (dltI s a) B1 m1 d1 (gbZ z0 s a (dltI s a) N) B2 m2 d2 (gbT z0 s a (dltI s a) N) W j0 l0 (by omega) j1 l1 (by omega) k1 lk1 mk1 k2 lk2 mk2
  simp only [show pubT z0 N z1 (dltI s a) (gbZ z0 s a (dltI s a) N) (gbT z0 s a (dltI s a) N) = gbT z0 s a (dltI s a) N from if_pos hgok, show pubC z0 N z1 (dltI s a) (gbZ z0 s a (dltI s a) N) (gbT z0 s a (dltI s a) N) = gbC z0 (gbZ z0 s a (dltI s a) N) (dltI s a) N from if_pos hgok, decide_eq_true hgok] at cP
  have lZ := gbZ_length z0 s a (dltI s a) N
  have lT := gbT_length z0 s a (dltI s a) N
  have lC := gbC_length z0 (gbZ z0 s a (dltI s a) N) (dltI s a) N
  have c4 := cnt_le z0 4 N
  have c2' := cnt_le z0 2 N
  have cN4 := fun W j0 => spec_CountGates A0 N c0 z0 A1 m c1 4 W j0 l0 (by omega)
  have cN2 := fun W j0 => spec_CountGates A0 N c0 z0 A1 m c1 2 W j0 l0 (by omega)
  have HX : Hid (∀ k : Nat, k < 80 → (inL s a (dltI s a) bs 80).getD k 0 = lblI (izI s a k) (dltI s a) (bs.getD k 0)) := Lib.hid (fun k hk => inL_at _ _ _ _ hk)
  have la := inL_length s a (dltI s a) bs 80
  have cI := fun W h => impl_InputLabels s a A2 80 c2 bs W h hbs.1 (by omega)
  rw [show inI s a bs = inL s a (dltI s a) bs 80 from (if_pos hin).trans (by rw [hbs.1])] at cI
  generalize inL s a (dltI s a) bs 80 = LL at *
  generalize gbC z0 (gbZ z0 s a (dltI s a) N) (dltI s a) N = CS at *
  generalize pubD z0 N z1 (dltI s a) (gbZ z0 s a (dltI s a) N) (gbT z0 s a (dltI s a) N) = DS at *
  generalize gbZ z0 s a (dltI s a) N = ZS at *
  generalize gbT z0 s a (dltI s a) N = TS at *
  generalize cnt z0 4 N = C4 at *
  generalize cnt z0 2 N = C2 at *
  generalize dltI s a = D at *
  have HA := Lib.hid la
  have HZ := Lib.hid lZ
  have HT := Lib.hid lT
  have HC := Lib.hid lC
  have HBL := Lib.hid hbs.1
  have HP := Lib.hid cP
  have bc := heap_alloc (heap_alloc_new w1 (.cells #[.slice A0 N c0, .slice A1 m c1] 27)) (.cells #[.int .i64 s, .int .i64 a] 29)
  have bt := new_at (w1.alloc (.cells #[.slice A0 N c0, .slice A1 m c1] 27)) (.cells #[.int .i64 s, .int .i64 a] 29) (w1.heap.size + 1) (by simp)
  have low2 := low_alloc (low_alloc low (.cells #[.slice A0 N c0, .slice A1 m c1] 27)) (.cells #[.int .i64 s, .int .i64 a] 29)
  have j0 := ((i0.al (.cells #[.slice A0 N c0, .slice A1 m c1] 27)).al (.cells #[.int .i64 s, .int .i64 a] 29)).bound
  have j1 := ((i1.al (.cells #[.slice A0 N c0, .slice A1 m c1] 27)).al (.cells #[.int .i64 s, .int .i64 a] 29)).bound
  have j2 := ((i2.al (.cells #[.slice A0 N c0, .slice A1 m c1] 27)).al (.cells #[.int .i64 s, .int .i64 a] 29)).bound
  clear hd hgar hin hgok hbs hs ha0 ha1 i0 i1 i2 l0 l1 hg hw low d0 la lZ lT lC cP
  go_upto_region 4 with (fail)
  generalize hp : w1.heap.size + 1 = p at *
  generalize hq : w1.heap.size = q at *
  generalize hw2 : (w1.alloc (.cells #[.slice A0 N c0, .slice A1 m c1] 27)).alloc (.cells #[.int .i64 s, .int .i64 a] 29) = w2 at *
  clear hw2 hp hq
  have x0 := (blk (i := 0) bc rfl).1
  have x1 := (blk (i := 1) bc rfl).1
  obtain ⟨t0, t1, _, _⟩ := box2 bt
  go_wp2_with fail
  refine (cG _ (j0.ints (Nat.le_refl _)) (j1.ints (Nat.le_refl _))).mono ?_
  rintro e w3 ⟨B1, B2, m1, m2, e1, e2, rfl, oG, hb3⟩
  have kz := oG.o1.len1
  have kt := oG.o2.len1
  obtain rfl : m1 = N := by rw [← kz, HZ.out]
  have hm2 := Lib.hid (show m2 = 2 * C4 by rw [← kt, HT.out])
  have hmb : m2 ≤ 2000000 := by rw [hm2.out]; omega
  have lx := hb3.alloc hb3.size (.cells #[.int .i64 D, .slice B1 m1 e1, .slice B2 m2 e2] 33)
  have bg := heap_alloc_new w3 (.cells #[.int .i64 D, .slice B1 m1 e1, .slice B2 m2 e2] 33)
  replace bc := heap_below bc lx
  replace bt := heap_below bt lx
  replace j0 := j0.below lx
  replace j1 := j1.below lx
  replace j2 := j2.below lx
  have low3 := low2.trans (lx.mono low2.size)
  have s3 := lx.size
  have kZ := (oG.o1.ints.al (.cells #[.int .i64 D, .slice B1 m1 e1, .slice B2 m2 e2] 33)).bound
  have kT := (oG.o2.ints.al (.cells #[.int .i64 D, .slice B1 m1 e1, .slice B2 m2 e2] 33)).bound
  clear cG hb3 lx x0 x1 t0 t1 oG kz low2
  go_upto_region 5 with (fail)
  generalize hr : w3.heap.size = r at *
  generalize hw4 : w3.alloc (.cells #[.int .i64 D, .slice B1 m1 e1, .slice B2 m2 e2] 33) = w4 at *
  clear hw4 hr
  have x0 := (blk (i := 0) bc rfl).1
  have x1 := (blk (i := 1) bc rfl).1
  have y0 := (blk (i := 0) bg rfl).1
  have y1 := (blk (i := 1) bg rfl).1
  have y2 := (blk (i := 2) bg rfl).1
  have cP4 := HP.out w4 B1 m1 e1 B2 m2 e2 (j0.ints s3) (j1.ints s3) (kZ.ints (Nat.le_refl _)) HZ.out (by omega) (kT.ints (Nat.le_refl _)) kt hmb
  go_wp2_with fail
  refine cP4.mono ?_
  rintro e w5 ⟨F0, F1, F2, f0, f1, f2, g0, g1, g2, rfl, oP, hb5⟩
  have pt := oP.o0.len1
  have pc := oP.o1.len1
  obtain rfl : f0 = m2 := by rw [← pt, kt]
  have hf1 := Lib.hid (show f1 = C2 by rw [← pc, HC.out])
  have lx := hb5.alloc hb5.size (.cells #[.slice F0 f0 g0, .slice F1 f1 g1, .slice F2 f2 g2] 37)
  have bp := heap_alloc_new w5 (.cells #[.slice F0 f0 g0, .slice F1 f1 g1, .slice F2 f2 g2] 37)
  replace bc := heap_below bc lx
  replace bt := heap_below bt lx
  replace bg := heap_below bg lx
  replace j0 := j0.below (lx.mono s3)
  replace j2 := j2.below (lx.mono s3)
  replace kT := kT.below lx
  have low5 := low3.trans (lx.mono low3.size)
  have s5 := lx.size
  have kP := (oP.o0.ints.al (.cells #[.slice F0 f0 g0, .slice F1 f1 g1, .slice F2 f2 g2] 37)).bound
  clear cP4 hb5 lx x0 x1 y0 y1 y2 oP pt pc low3 kZ j1 HP
  go_upto_region 6 with (fail)
  generalize hr : w5.heap.size = u at *
  generalize hw6 : w5.alloc (.cells #[.slice F0 f0 g0, .slice F1 f1 g1, .slice F2 f2 g2] 37) = w6 at *
  clear hw6 hr
  obtain ⟨t0, t1, _, _⟩ := box2 bt
  go_wp2_with fail
  refine (cI _ (j2.ints (Nat.le_trans s3 s5))).mono ?_
  rintro e w7 ⟨G1, m3, h1, rfl, o1, hb7⟩
  obtain rfl : m3 = 80 := by rw [← o1.len1, HA.out]
  replace bc := heap_below bc hb7
  replace bt := heap_below bt hb7
  replace bg := heap_below bg hb7
  replace bp := heap_below bp hb7
  replace j0 := j0.below (hb7.mono (Nat.le_trans s3 s5))
  replace j2 := j2.below (hb7.mono (Nat.le_trans s3 s5))
  replace kT := kT.below (hb7.mono s5)
  replace kP := kP.below hb7
  have low7 := low5.trans (hb7.mono low5.size)
  have s7 := hb7.size
  have iA := o1.ints.bound
  clear cI hb7 t0 t1 o1 low5
  go_wp2_with fail
  go_loopw [11] (fun i wx => ∃ k : Nat, k ≤ 80 ∧ i = .int .i64 k ∧ Below w7.heap.size w7 wx) (fun i _ => 80 - (intOf i).toNat)
  case atStart => exact ⟨0, Nat.zero_le _, rfl, Below.refl _ _⟩
  case round =>
    obtain ⟨k, hk, rfl, hbx⟩ := hrel
    by_cases hlt : k < 80
    · have k0 : (0 : Int) ≤ k := by omega
      have k1 : (k : Int) < 80 := by omega
      obtain ⟨t0, t1, _, _⟩ := box2 (heap_below bt hbx)
      have hx := HX.out k hlt
      have cZ := impl_InputZero s a k
      generalize izI s a k = zz at *
      go_wp2_with fail
      refine (cZ _).mono ?_
      rintro e w8 ⟨rfl, hb8⟩
      have hb9 := hbx.trans (hb8.mono hbx.size)
      clear cZ t0 t1 hbx hb8
      obtain ⟨qa, oa, rfl, -, ca⟩ := (iA.below hb9).at_ (j := k) (by rw [HA.out]; omega)
      obtain ⟨qb, ob, rfl, -, cb⟩ := (j2.below (hb9.mono (Nat.le_trans s3 (Nat.le_trans s5 s7)))).at_ (j := k) (by rw [HBL.out]; omega)
      generalize LL.getD k 0 = x at *
      generalize bs.getD k 0 = y at *
      have cL := spec_LabelFor_is zz D y x hx.symm
      have yg := (blk (i := 0) (heap_below bg hb9) rfl).1
      have qa1 := cell_regrown ca
      have qb1 := cell_regrown cb
      have yg1 := cell_regrown yg
      have kL : ∀ v os, Calls Try.prog 16 #[.int .i64 zz, .int .i64 D, .int .i64 y] (Go.Sort.grow (redrawn w8 v) os) fun e w'' => e = .returned (.int .i64 x) ∧ ∃ p : Regrown, w'' = Go.Sort.grow (redrawn w8 p.d) p.os := fun v os => Calls.regrown_of (calls_belowE (cL _))
      have hne : (x != x) = false := by simp
      clear hx ca cb yg cL
      go_upto_region 11 with (fail)
      refine wp_region_quiet_below (by kernel_rfl) (by kernel_rfl) ?_
      repeat (first | go_big_quiet_step (with_reducible exact kL _ _) | quiet_step (with_reducible exact kL _ _))
      refine wpQuiet_nil ?_
      intro _ hw'
      obtain ⟨⟨dq, osq⟩, hw''⟩ := hw'
      subst hw''
      have H := Lib.hid (hb9.trans ((below_regrown w8 dq osq).mono hb9.size))
      generalize Go.Sort.grow (redrawn w8 dq) osq = wz at *
      clear kL qa1 qb1 yg1 hb9
      go_wp2_with fail
      go_roundw
      case rel => exact ⟨k + 1, by omega, by go_num, H.out⟩
      case measure => simp [intOf]; omega
    · obtain rfl : k = 80 := by omega
      have hm1 : D.tmod 2 = 1 := by rw [Int.tmod_eq_emod_of_nonneg dn]; exact d1
      have lowx := low7.trans (hbx.mono low7.size)
      have s9 := hbx.size
      have e0 := (j0.below (hbx.mono (Nat.le_trans s3 (Nat.le_trans s5 s7)))).ints (by omega)
      have eT := (kT.below (hbx.mono (Nat.le_trans s5 s7))).ints (by omega)
      have eP := (kP.below (hbx.mono s7)).ints (by omega)
      have a0 := cell_regrown (blk (i := 0) (heap_below bc hbx) rfl).1
      have a1 := cell_regrown (blk (i := 1) (heap_below bc hbx) rfl).1
      have b0 := cell_regrown (blk (i := 0) (heap_below bg hbx) rfl).1
      have b1 := cell_regrown (blk (i := 1) (heap_below bg hbx) rfl).1
      have b2 := cell_regrown (blk (i := 2) (heap_below bg hbx) rfl).1
      have p0 := cell_regrown (blk (i := 0) (heap_below bp hbx) rfl).1
      have p1 := cell_regrown (blk (i := 1) (heap_below bp hbx) rfl).1
      have k4 : ∀ v os, Calls Try.prog 17 #[.agg #[.slice A0 m1 c0, .slice A1 m c1], .int .i64 4] (Go.Sort.grow (redrawn wr v) os) fun e w'' => e = .returned (.int .i64 (C4 : Int)) ∧ ∃ p : Regrown, w'' = Go.Sort.grow (redrawn wr p.d) p.os := fun v os => Calls.regrown_of (cN4 _ (e0.below (below_regrown wr v os)))
      have k2 : ∀ v os, Calls Try.prog 17 #[.agg #[.slice A0 m1 c0, .slice A1 m c1], .int .i64 2] (Go.Sort.grow (redrawn wr v) os) fun e w'' => e = .returned (.int .i64 (C2 : Int)) ∧ ∃ p : Regrown, w'' = Go.Sort.grow (redrawn wr p.d) p.os := fun v os => Calls.regrown_of (cN2 _ (e0.below (below_regrown wr v os)))
      have kS : ∀ v os, Calls Try.prog 18 #[.slice F0 f0 g0, .slice B2 f0 e2] (Go.Sort.grow (redrawn wr v) os) fun e w'' => e = .returned (.bool true) ∧ ∃ p : Regrown, w'' = Go.Sort.grow (redrawn wr p.d) p.os := fun v os => Calls.regrown_of (sameInts_same f0 g0 e2 F0 B2 TS _ (eP.below (below_regrown wr v os)) (eT.below (below_regrown wr v os)) kt (by omega))
      have h4 : ((f0 : Int) == 2 * (C4 : Int)) = true := beq_iff_eq.2 (by have := hm2.out; omega)
      have h2 : ((f1 : Int) == (C2 : Int)) = true := beq_iff_eq.2 (by have := hf1.out; omega)
      have hN : ((m1 : Int) == (m1 : Int)) = true := beq_iff_eq.2 rfl
      have hD : (D.tmod 2 == 1) = true := beq_iff_eq.2 hm1
      have hD2 : (D % 2 == 1) = true := beq_iff_eq.2 d1
      clear cN4 cN2 hm2 hf1
      go_wp2_with fail
      refine wp_region_quiet_below (by kernel_rfl) (by kernel_rfl) ?_
      repeat (first | go_big_quiet_step (first | with_reducible exact k4 _ _ | with_reducible exact k2 _ _ | with_reducible exact kS _ _) | quiet_step (first | with_reducible exact k4 _ _ | with_reducible exact k2 _ _ | with_reducible exact kS _ _))
      refine wpQuiet_nil ?_
      intro _ hw'
      obtain ⟨⟨dq, osq⟩, hw''⟩ := hw'
      subst hw''
      have lowf := lowx.trans ((below_regrown wr dq osq).mono lowx.size)
      clear k4 k2 kS a0 a1 b0 b1 b2 p0 p1 e0 eT eP
      generalize Go.Sort.grow (redrawn wr dq) osq = wz at *
      go_wp2_with fail
      go_ret
      exact ⟨by first | rfl | simp, lowf⟩
end Go.Proofs.Ytfpcjgolcbjnjaa
