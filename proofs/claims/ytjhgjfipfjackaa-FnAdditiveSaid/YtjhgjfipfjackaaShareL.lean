/- The law FnAdditive. -/
import Derived.Test.YtjhgjfipfjackaaProg
import Derived.Test.YtjhgjfipfjackaaShareN
import Derived.Test.YtjhgjfipfjackaaShareA
import Derived.Test.YtjhgjfipfjackaaFieldW
import Derived.Test.YtjhgjfipfjackaaTapeD
import Derived.Test.YtjhgjfipfjackaaApp
namespace Go.Proofs.Ytjhgjfipfjackaa
open Go Go.RowKit
theorem le_len {l : List Int} {m : Nat} (h : l.length = m) (hb : l.length ≤ 5) : m ≤ 1000000000 := by omega
set_option maxHeartbeats 2000000 in
set_option maxRecDepth 100000 in
theorem FnAdditive_walk (A : Option Addr) (n c : Nat) (w : World) (hb : Bytes w.heap.size w A n) (hm : n ≤ 9223372036854775807) :
    Calls Try.prog 3 #[.slice A n c] w fun e w' => e = .returned (.bool true) ∧ Below w.heap.size w w' := by
  by_cases hn : 1048576 < n
  · go_enter Try.func3, Try.ntmps3
    go_wp2_with fail
    refine (big_any A n c w true (by simpa using hn) hm).mono ?_
    rintro e w1 ⟨rfl, rfl⟩
    go_wp2_with fail
    go_ret
    exact ⟨rfl, Below.refl _ _⟩
  · have hn' : n ≤ 1048576 := by omega
    go_enter Try.func3, Try.ntmps3
    go_wp2_with fail
    refine (big_any A n c w false (by simpa using hn') hm).mono ?_
    rintro e w1 ⟨rfl, rfl⟩
    go_wp2_with fail
    refine (DrawPrime_any A n c w hb (by omega)).mono ?_
    rintro e w1 ⟨p, rfl, hp, low⟩
    have hpr := hp.range
    have Hp := Lib.hid hp
    clear hp
    go_wp2_with fail
    refine (DrawTape_any A n c w1 (hb.more low low.size) (by omega)).mono ?_
    rintro e w2 ⟨s, a, rfl, hs, ha0, ha1, hb2⟩
    have hts : isTape s a := ⟨hs, ha0, by omega⟩
    have Hs := Lib.hid hts
    clear hs hts
    replace low := low_alloc (low.trans (hb2.mono low.size)) (.cells #[.int .i64 s, .int .i64 a] 26)
    have b4 := heap_alloc_new w2 (.cells #[.int .i64 s, .int .i64 a] 26)
    clear hb2
    go_wp2_with fail
    generalize hg : w2.alloc (.cells #[.int .i64 s, .int .i64 a] 26) = w3 at *
    clear hg
    refine (DrawPlaces_any A n c w3 (hb.more low low.size) (by omega)).mono ?_
    rintro e w4 ⟨g, cap, zs, rfl, hl, hpl, hown, hb4⟩
    replace low := low.trans (hb4.mono low.size)
    replace b4 := heap_below b4 hb4
    have hi := Ints.of_own hown
    obtain ⟨_, _, e0, _, c0⟩ := hi.at_ (j := 0) (by omega)
    injection e0 with e0
    injection e0 with e00 e01
    subst e00 e01
    obtain ⟨_, _, e0, _, c1⟩ := hi.at_ (j := 1) (by omega)
    injection e0 with e0
    injection e0 with e00 e01
    subst e00 e01
    obtain ⟨_, _, e0, _, c2⟩ := hi.at_ (j := 2) (by omega)
    injection e0 with e0
    injection e0 with e00 e01
    subst e00 e01
    obtain ⟨_, _, e0, _, c3⟩ := hi.at_ (j := 3) (by omega)
    injection e0 with e0
    injection e0 with e00 e01
    subst e00 e01
    have x0 := hpl.at_ (j := 0) (by omega)
    have x1 := hpl.at_ (j := 1) (by omega)
    have x2 := hpl.at_ (j := 2) (by omega)
    have x3 := hpl.at_ (j := 3) (by omega)
    generalize zs.getD 0 0 = q0 at c0 x0
    generalize zs.getD 1 0 = q1 at c1 x1
    generalize zs.getD 2 0 = q2 at c2 x2
    generalize zs.getD 3 0 = q3 at c3 x3
    simp only [Nat.zero_add] at c0 c1 c2 c3
    clear hown hi hpl hl hb hb4 hm hn hn'
    obtain ⟨x00, x01⟩ := x0
    obtain ⟨x10, x11⟩ := x1
    obtain ⟨x20, x21⟩ := x2
    obtain ⟨x30, x31⟩ := x3
    obtain ⟨p0, p1⟩ := hpr
    have d0 := (blk (i := 0) b4 rfl).1
    have d1 := (blk (i := 1) b4 rfl).1
    go_wp2_with fail
    have n0 : 1 ≤ 1 + q0 % 5 ∧ 1 + q0 % 5 ≤ 5 := by omega
    have ex : isEl p (q1 % p) := isEl_mod Hp.out _
    have ey : isEl p (q2 % p) := isEl_mod Hp.out _
    have ek : isEl p (q3 % p) := isEl_mod Hp.out _
    generalize hnn : 1 + q0 % 5 = nn at *
    generalize q1 % p = x at *
    generalize q2 % p = y at *
    generalize q3 % p = k at *
    clear hnn c0 c1 c2 c3 d0 d1
    refine (impl_ShareAdd_yes p x nn s a ⟨ex, n0, Hs.out, by omega⟩ w4).mono ?_
    rintro e w5 ⟨A1, m1, e1, rfl, l1, o1, hb5⟩
    have oa := (OwnI.of_own o1).alloc (.cells #[.int .i64 s, .int .i64 (a + (nn - 1))] 26)
    have b5 := heap_alloc_new w5 (.cells #[.int .i64 s, .int .i64 (a + (nn - 1))] 26)
    replace low := low_alloc (low.trans (hb5.mono low.size)) (.cells #[.int .i64 s, .int .i64 (a + (nn - 1))] 26)
    clear o1 hb5 b4
    have d0 := (blk (i := 0) b5 rfl).1
    have d1 := (blk (i := 1) b5 rfl).1
    go_wp2_with fail
    generalize hg : w5.alloc (.cells #[.int .i64 s, .int .i64 (a + (nn - 1))] 26) = w6 at *
    clear hg
    have Hs2 : Hid (isTape s (a + (nn - 1))) := ⟨Hs.out.1, by omega, by omega⟩
    refine (impl_ShareAdd_yes p y nn s (a + (nn - 1)) ⟨ey, n0, Hs2.out, by omega⟩ w6).mono ?_
    rintro e w7 ⟨A2, m2, e2, rfl, l2, o2, hb7⟩
    replace oa := (oa.below hb7).alloc (.cells #[.int .i64 s, .int .i64 (a + (nn - 1) + (nn - 1))] 26)
    have ob := (OwnI.of_own o2).alloc (.cells #[.int .i64 s, .int .i64 (a + (nn - 1) + (nn - 1))] 26)
    replace low := low_alloc (low.trans (hb7.mono low.size)) (.cells #[.int .i64 s, .int .i64 (a + (nn - 1) + (nn - 1))] 26)
    clear o2 hb7 b5 d0 d1
    have lz1 := saN_length p x s a (nn - 1).toNat
    have lz2 := saN_length p y s (a + (nn - 1)) (nn - 1).toNat
    have s1 := saN_sum (s := s) (a := a) ex (nn - 1).toNat
    have s2 := saN_sum (s := s) (a := a + (nn - 1)) ey (nn - 1).toNat
    have el1 := saN_el (s := s) (a := a) ex (nn - 1).toNat
    have el2 := saN_el (s := s) (a := a + (nn - 1)) ey (nn - 1).toNat
    generalize saN p x s a (nn - 1).toNat = xs at *
    generalize saN p y s (a + (nn - 1)) (nn - 1).toNat = ys at *
    obtain rfl : m1 = m2 := by omega
    have hao : addOk p xs ys := ⟨by omega, el1, el2⟩
    have hso : sclOk p k xs := ⟨ek, el1⟩
    have o0 := open_of (by omega) (by omega) s1
    have oadd := open_of (p := p) (zs := addL p xs ys) (by rw [addL_len hao]; omega) (by rw [addL_len hao]; omega) (add_sum hao)
    have oscl := open_of (p := p) (zs := sclL p k xs) (by rw [sclL_len hso]; omega) (by rw [sclL_len hso]; omega) (scl_sum hso)
    have oadc := open_of (p := p) (zs := addcL p k xs) (by rw [addcL_len (by omega) hso]; omega) (by rw [addcL_len (by omega) hso]; omega) (addc_sum (by omega) hso)
    rw [s1, s2] at oadd
    rw [s1] at oscl oadc
    have lad := addL_len hao
    have lsc := sclL_len hso
    have lac := addcL_len (by omega) hso
    have hm1 : (m1 : Int) = nn := by omega
    have hm5 : m1 ≤ 5 := by omega
    have ex0 := ex.range
    have ey0 := ey.range
    have ek0 := ek.range
    have pk := prod_small ex ek
    clear el1 el2 hao hso s1 s2 lz1 lz2 Hs2 Hp ex ey ek
    go_wp2_with fail
    generalize hg : w7.alloc (.cells #[.int .i64 s, .int .i64 (a + (nn - 1) + (nn - 1))] 26) = w8 at *
    clear hg
    replace oa := oa.drew
    replace ob := ob.drew
    replace low := low.drew
    have tl : ((m1 : Int) == nn) = true := by simpa using hm1
    have tp : ¬ p = 0 := by omega
    have mb : m1 ≤ 1000000000 := by omega
    have mc : m1 ≤ 2000000 := by omega
    have v1 : IntKind.i64.wrap (x + y) = x + y := IntWalk.i64_in _ (by omega)
    have v2 : IntKind.i64.wrap (x * k) = x * k := IntWalk.i64_in _ (by omega)
    have v3 : IntKind.i64.wrap (x + k) = x + k := IntWalk.i64_in _ (by omega)
    have u1 : (x + y).tmod p = (x + y) % p := Int.tmod_eq_emod_of_nonneg (by omega)
    have u2 : (x * k).tmod p = (x * k) % p := Int.tmod_eq_emod_of_nonneg (by omega)
    have u3 : (x + k).tmod p = (x + k) % p := Int.tmod_eq_emod_of_nonneg (by omega)
    generalize (x + y) % p = r1 at *
    generalize (x * k) % p = r2 at *
    generalize (x + k) % p = r3 at *
    have O0 := Lib.hid o0
    have O1 := Lib.hid oadd
    have O2 := Lib.hid oscl
    have O3 := Lib.hid oadc
    have N1 := Lib.hid lad
    have N2 := Lib.hid lsc
    have N3 := Lib.hid lac
    have L1 := Lib.hid l1
    have L2 := Lib.hid l2
    have b1 : (addL p xs ys).length ≤ 5 := by omega
    have b2 : (sclL p k xs).length ≤ 5 := by omega
    have b3 : (addcL p k xs).length ≤ 5 := by omega
    clear o0 oadd oscl oadc lad lsc lac l1 l2 hm1
    go_region_held3 (fun _ => True) (trivial) (first
      | (go_at_call 16; (with_reducible refine (impl_OpenAdd p A1 m1 e1 xs x O0.out _ oa.ints L1.out mb).mono ?_); rintro e w9 ⟨rfl, hb⟩; replace oa := oa.below hb; replace ob := ob.below hb; replace low := low.trans (hb.mono low.size))
      | (go_at_call 17; (with_reducible refine (impl_AddShares p A1 A2 m1 e1 m1 e2 xs ys _ oa.ints ob.ints L1.out L2.out mc mc).mono ?_); intro e w9 h9; obtain ⟨A3, m3, e3, rfl, l3, o3, hb⟩ := h9; replace oa := oa.below hb; replace ob := ob.below hb; replace low := low.trans (hb.mono low.size); have M3 := Lib.hid l3; have y3 := le_len l3 b1; clear l3)
      | (go_at_call 16; (with_reducible refine (impl_OpenAdd p A3 m3 e3 (addL p xs ys) r1 O1.out _ o3.ints M3.out y3).mono ?_); rintro e w9 ⟨rfl, hb⟩; replace oa := oa.below hb; replace ob := ob.below hb; replace low := low.trans (hb.mono low.size))
      | (go_at_call 18; (with_reducible refine (impl_ScaleShares p k A1 m1 e1 xs _ oa.ints L1.out mc).mono ?_); intro e w9 h9; obtain ⟨A4, m4, e4, rfl, l4, o4, hb⟩ := h9; replace oa := oa.below hb; replace ob := ob.below hb; replace low := low.trans (hb.mono low.size); have M4 := Lib.hid l4; have y4 := le_len l4 b2; clear l4)
      | (go_at_call 16; (with_reducible refine (impl_OpenAdd p A4 m4 e4 (sclL p k xs) r2 O2.out _ o4.ints M4.out y4).mono ?_); rintro e w9 ⟨rfl, hb⟩; replace oa := oa.below hb; replace ob := ob.below hb; replace low := low.trans (hb.mono low.size))
      | (go_at_call 19; (with_reducible refine (impl_AddConstant p k A1 m1 e1 xs _ oa.ints L1.out mc).mono ?_); intro e w9 h9; obtain ⟨A5, m5, e5, rfl, l5, o5, hb⟩ := h9; replace oa := oa.below hb; replace ob := ob.below hb; replace low := low.trans (hb.mono low.size); have M5 := Lib.hid l5; have y5 := le_len l5 b3; clear l5)
      | (go_at_call 16; (with_reducible refine (impl_OpenAdd p A5 m5 e5 (addcL p k xs) r3 O3.out _ o5.ints M5.out y5).mono ?_); rintro e w9 ⟨rfl, hb⟩; replace oa := oa.below hb; replace ob := ob.below hb; replace low := low.trans (hb.mono low.size)))
    all_goals
      go_wp2_with fail
      go_ret
      exact ⟨rfl, low⟩
end Go.Proofs.Ytjhgjfipfjackaa
