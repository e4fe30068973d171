/- The law FnExactRunProgram: the walk. -/
import Derived.Test.YtlaidjibcpfnjaaProg
import Derived.Test.YtlaidjibcpfnjaaB1
import Derived.Test.YtlaidjibcpfnjaaB2
import Derived.Test.YtlaidjibcpfnjaaIntSS
import Derived.Test.YtlaidjibcpfnjaaRunE
namespace Go.Proofs.Ytlaidjibcpfnjaa
open Go Go.RowKit
set_option maxRecDepth 100000 in
set_option maxHeartbeats 2000000 in
theorem FnExactRunProgram_walk (A0 : Option Addr) (n0 c0 : Nat) (z0 : List St) (A1 : Option Addr) (n1 c1 : Nat) (z1 : List (List Int)) (w : World) (h0 : Ints w A0 (flat z0)) (l0 : z0.length = n0) (m0 : n0 ≤ 9223372036854775807) (h1 : Rows w.heap.size w A1 z1) (l1 : z1.length = n1) (m1 : n1 ≤ 9223372036854775807) (r1 : ∀ r ∈ z1, r.length ≤ 9223372036854775807) :
    Calls Try.prog 11 #[.slice A0 n0 c0, .slice A1 n1 c1] w fun e w' => e = .returned (.bool true) ∧ Below w.heap.size w w' := by
  have low : Below w.heap.size w w := Below.refl _ _
  have L0 := Lib.hid l0
  have i0 := h0.bound.below low
  have L1 := Lib.hid l1
  have i1 := h1.below low
  clear h0 l0 h1 l1
  go_enter Try.func11, Try.ntmps11
  go_wp2_with fail
  go_wp2_with fail
  have s1 := szStmtS_any 1048576 A0 n0 c0 w (by omega) m0
  by_cases hn0 : n0 ≤ 1048576
  case neg =>
    rw [show szRes 1048576 (n0) = -1 by rw [szRes, if_neg hn0]] at s1
    refine s1.mono ?_
    rintro e w3 ⟨rfl, rfl⟩
    go_wp2_with fail
    go_ret
    exact ⟨rfl, low⟩
  rw [show szRes 1048576 (n0) = ((1048576 - (n0) : Nat) : Int) by rw [szRes, if_pos hn0]] at s1
  have mm0 : n0 ≤ 1048576 := by omega
  have zf2 : 1048576 - (n0) ≤ 1048576 := by omega
  clear hn0 m0
  generalize 1048576 - (n0) = f2 at *
  refine s1.mono ?_
  rintro e w3 ⟨rfl, rfl⟩
  clear s1
  have yf2 : (0 : Int) ≤ f2 := by omega
  go_wp2_with fail
  have s4 := szIntSS_any f2 A1 n1 c1 z1 w (i1.ints low.size) L1.out (by omega) m1 r1
  by_cases hn1 : n1 + tot z1 ≤ f2
  case neg =>
    rw [show szRes f2 (n1 + tot z1) = -1 by rw [szRes, if_neg hn1]] at s4
    refine s4.mono ?_
    rintro e w6 ⟨rfl, rfl⟩
    go_wp2_with fail
    go_ret
    exact ⟨rfl, low⟩
  rw [show szRes f2 (n1 + tot z1) = ((f2 - (n1 + tot z1) : Nat) : Int) by rw [szRes, if_pos hn1]] at s4
  have mm1 : n1 ≤ 1048576 := by omega
  have mt1 : tot z1 ≤ 1048576 := by omega
  have zf5 : f2 - (n1 + tot z1) ≤ 1048576 := by omega
  clear hn1 m1 r1
  generalize f2 - (n1 + tot z1) = f5 at *
  refine s4.mono ?_
  rintro e w6 ⟨rfl, rfl⟩
  clear s4
  have yf5 : (0 : Int) ≤ f5 := by omega
  obtain ⟨R0, hR0, bR0⟩ : ∃ r : List Int, runI z0 z1 = r ∧ r.length ≤ 1900000 := ⟨_, rfl, by have := runI_length z0 z1; omega⟩
  obtain ⟨R1, hR1⟩ : ∃ r, decide (runOk z0 z1) = r := ⟨_, rfl⟩
  have E := Lib.hid (show ∀ w e w', Post_A_bool (runI z0 z1) (decide (runOk z0 z1)) w e w' → Post_A_bool R0 R1 w e w' from by subst hR0 hR1; intro _ _ _ h; exact h)
  clear hR0 hR1
  go_wp2_with fail
  refine (toStmtS_ownA A0 n0 c0 z0 w (i0.ints low.size) L0.out (by omega)).mono ?_
  rintro e w9 ⟨X7, rfl, o8, hb⟩
  replace i0 := i0.below (hb.mono low.size)
  replace i1 := i1.below (hb.mono low.size)
  replace low := low.trans (hb.mono low.size)
  have q10 := hb.size
  clear hb
  go_wp2_with fail
  refine (toIntSS_own A1 n1 c1 z1 w9 (i1.ints low.size) L1.out (by omega) (by omega)).mono ?_
  rintro e w14 ⟨X11, U12, rfl, o13, hb⟩
  replace i0 := i0.below (hb.mono low.size)
  replace i1 := i1.below (hb.mono low.size)
  replace o8 := o8.below hb
  replace low := low.trans (hb.mono low.size)
  have q15 := hb.size
  clear hb
  go_wp2_with fail
  refine (ex_spec_RunProgram X7 n0 n0 z0 X11 n1 n1 z1 w14 (o8.ints) L0.out (by omega) (o13.ints) L1.out (by omega)).mono ?_
  intro e w16 h
  obtain ⟨G17, n18, d19, rfl, o20, hb⟩ := E.out _ _ _ h
  clear h
  replace i0 := i0.below (hb.mono low.size)
  replace i1 := i1.below (hb.mono low.size)
  replace o8 := o8.below hb
  replace o13 := o13.below hb
  replace low := low.trans (hb.mono low.size)
  have q21 := hb.size
  clear hb
  clear o8
  clear o13
  have L22 := Lib.hid (o20.len1)
  have bnL22 : n18 ≤ 1900000 := by rw [← L22.out]; exact bR0
  go_wp2_with fail
  refine (toStmtS_ownA A0 n0 c0 z0 w16 (i0.ints low.size) L0.out (by omega)).mono ?_
  rintro e w25 ⟨X23, rfl, o24, hb⟩
  replace i0 := i0.below (hb.mono low.size)
  replace i1 := i1.below (hb.mono low.size)
  replace o20 := o20.below hb
  replace low := low.trans (hb.mono low.size)
  have q26 := hb.size
  clear hb
  go_wp2_with fail
  refine (toIntSS_own A1 n1 c1 z1 w25 (i1.ints low.size) L1.out (by omega) (by omega)).mono ?_
  rintro e w30 ⟨X27, U28, rfl, o29, hb⟩
  replace i0 := i0.below (hb.mono low.size)
  replace i1 := i1.below (hb.mono low.size)
  replace o20 := o20.below hb
  replace o24 := o24.below hb
  replace low := low.trans (hb.mono low.size)
  have q31 := hb.size
  clear hb
  go_wp2_with fail
  refine (ex_impl_RunProgram X23 n0 n0 z0 X27 n1 n1 z1 w30 (o24.ints) L0.out (by omega) (o29.ints) L1.out (by omega)).mono ?_
  intro e w32 h
  obtain ⟨G33, n34, d35, rfl, o36, hb⟩ := E.out _ _ _ h
  clear h
  replace i0 := i0.below (hb.mono low.size)
  replace i1 := i1.below (hb.mono low.size)
  replace o20 := o20.below hb
  replace o24 := o24.below hb
  replace o29 := o29.below hb
  replace low := low.trans (hb.mono low.size)
  have q37 := hb.size
  clear hb
  have hl38 := o36.len1
  obtain rfl : n18 = n34 := by rw [← hl38, L22.out]
  clear hl38
  go_wp2_with fail
  refine (eqIntS_same n18 n18 d35 d19 G33 G17 R0 R0 w32 o36.ints o20.ints rfl L22.out L22.out (by omega)).mono ?_
  rintro e w39 ⟨rfl, hb⟩
  replace i0 := i0.below (hb.mono low.size)
  replace i1 := i1.below (hb.mono low.size)
  replace o20 := o20.below hb
  replace o24 := o24.below hb
  replace o29 := o29.below hb
  replace o36 := o36.below hb
  replace low := low.trans (hb.mono low.size)
  have q40 := hb.size
  clear hb
  go_wp2_with fail
  refine (toStmtS_ownA A0 n0 c0 z0 w39 (i0.ints low.size) L0.out (by omega)).mono ?_
  rintro e w43 ⟨X41, rfl, o42, hb⟩
  replace i0 := i0.below (hb.mono low.size)
  replace i1 := i1.below (hb.mono low.size)
  replace o20 := o20.below hb
  replace o24 := o24.below hb
  replace o29 := o29.below hb
  replace o36 := o36.below hb
  replace low := low.trans (hb.mono low.size)
  have q44 := hb.size
  clear hb
  go_wp2_with fail
  refine (eqStmtS_same n0 n0 n0 n0 X23 X41 z0 z0 w43 o24.ints o42.ints rfl L0.out L0.out (by omega)).mono ?_
  rintro e w45 ⟨rfl, hb⟩
  replace i0 := i0.below (hb.mono low.size)
  replace i1 := i1.below (hb.mono low.size)
  replace o20 := o20.below hb
  replace o24 := o24.below hb
  replace o29 := o29.below hb
  replace o36 := o36.below hb
  replace o42 := o42.below hb
  replace low := low.trans (hb.mono low.size)
  have q46 := hb.size
  clear hb
  clear o42
  go_wp2_with fail
  refine (toIntSS_own A1 n1 c1 z1 w45 (i1.ints low.size) L1.out (by omega) (by omega)).mono ?_
  rintro e w50 ⟨X47, U48, rfl, o49, hb⟩
  replace i0 := i0.below (hb.mono low.size)
  replace i1 := i1.below (hb.mono low.size)
  replace o20 := o20.below hb
  replace o24 := o24.below hb
  replace o29 := o29.below hb
  replace o36 := o36.below hb
  replace low := low.trans (hb.mono low.size)
  have q51 := hb.size
  clear hb
  go_wp2_with fail
  refine (eqIntSS_same X27 X47 n1 n1 n1 z1 w50 o29.ints o49.ints L1.out (by omega) (by omega)).mono ?_
  rintro e w52 ⟨rfl, hb⟩
  replace i0 := i0.below (hb.mono low.size)
  replace i1 := i1.below (hb.mono low.size)
  replace o20 := o20.below hb
  replace o24 := o24.below hb
  replace o29 := o29.below hb
  replace o36 := o36.below hb
  replace o49 := o49.below hb
  replace low := low.trans (hb.mono low.size)
  have q53 := hb.size
  clear hb
  clear o49
  go_wp2_with fail
  refine (markStmtS_ownA _ _ n0 (1) _ (flat z0) w52 o24 (by omega)).mono ?_
  rintro e w54 ⟨rfl, o55, hg⟩
  have mg := Mid.of_grown (lo := w16.heap.size) (hi := w25.heap.size) hg (fun k e => o24.ltB e)
  clear o24 hg
  replace i0 := i0.mid mg (by omega) low.size
  replace i1 := i1.mid mg (by omega) low.size
  replace o20 := o20.mid mg (by omega)
  replace o29 := o29.mid mg (by omega)
  replace o36 := o36.mid mg (by omega)
  replace low := mg.below low (by omega) low.size
  have q56 := mg.size
  clear mg
  clear o55
  go_wp2_with fail
  refine (markIntSS_own w25.heap.size w30.heap.size n1 (1 + n0 * 6) _ U28 z1 w54 o29 (by omega) (by omega)).mono ?_
  rintro e w57 ⟨rfl, ⟨Y59, o58, _⟩, mg⟩
  clear o29
  replace i0 := i0.mid mg (by omega) low.size
  replace i1 := i1.mid mg (by omega) low.size
  replace o20 := o20.mid mg (by omega)
  replace o36 := o36.mid mg (by omega)
  replace low := mg.below low (by omega) low.size
  have q60 := mg.size
  clear mg
  clear o58
  go_wp2_with fail
  refine (eqIntS_same n18 n18 d35 d19 G33 G17 R0 R0 w57 o36.ints o20.ints rfl L22.out L22.out (by omega)).mono ?_
  rintro e w61 ⟨rfl, hb⟩
  replace i0 := i0.below (hb.mono low.size)
  replace i1 := i1.below (hb.mono low.size)
  replace o20 := o20.below hb
  replace o36 := o36.below hb
  replace low := low.trans (hb.mono low.size)
  have q62 := hb.size
  clear hb
  go_wp2_with fail
  refine (markIntS_ownA _ _ n18 (1) _ R0 w61 o36 (by omega)).mono ?_
  rintro e w63 ⟨rfl, o64, hg⟩
  have mg := Mid.of_grown (lo := w30.heap.size) (hi := w32.heap.size) hg (fun k e => o36.ltB e)
  clear o36 hg
  replace i0 := i0.mid mg (by omega) low.size
  replace i1 := i1.mid mg (by omega) low.size
  replace o20 := o20.mid mg (by omega)
  replace low := mg.below low (by omega) low.size
  have q65 := mg.size
  clear mg
  go_wp2_with fail
  refine (heldIntS_any n18 (1) d35 G33 w63 o64.ints (by omega)).mono ?_
  rintro e w66 ⟨rfl, rfl⟩
  go_wp2_with fail
  refine (toStmtS_ownA A0 n0 c0 z0 w63 (i0.ints low.size) L0.out (by omega)).mono ?_
  rintro e w69 ⟨X67, rfl, o68, hb⟩
  replace i0 := i0.below (hb.mono low.size)
  replace i1 := i1.below (hb.mono low.size)
  replace o20 := o20.below hb
  replace o64 := o64.below hb
  replace low := low.trans (hb.mono low.size)
  have q70 := hb.size
  clear hb
  go_wp2_with fail
  refine (toIntSS_own A1 n1 c1 z1 w69 (i1.ints low.size) L1.out (by omega) (by omega)).mono ?_
  rintro e w74 ⟨X71, U72, rfl, o73, hb⟩
  replace i0 := i0.below (hb.mono low.size)
  replace i1 := i1.below (hb.mono low.size)
  replace o20 := o20.below hb
  replace o64 := o64.below hb
  replace o68 := o68.below hb
  replace low := low.trans (hb.mono low.size)
  have q75 := hb.size
  clear hb
  go_wp2_with fail
  refine (ex_impl_RunProgram X67 n0 n0 z0 X71 n1 n1 z1 w74 (o68.ints) L0.out (by omega) (o73.ints) L1.out (by omega)).mono ?_
  intro e w76 h
  obtain ⟨G77, n78, d79, rfl, o80, hb⟩ := E.out _ _ _ h
  clear h
  replace i0 := i0.below (hb.mono low.size)
  replace i1 := i1.below (hb.mono low.size)
  replace o20 := o20.below hb
  replace o64 := o64.below hb
  replace o68 := o68.below hb
  replace o73 := o73.below hb
  replace low := low.trans (hb.mono low.size)
  have q81 := hb.size
  clear hb
  clear o68
  clear o73
  have hl82 := o80.len1
  obtain rfl : n18 = n78 := by rw [← hl82, L22.out]
  clear hl82
  go_wp2_with fail
  refine (eqIntS_same n18 n18 d79 d19 G77 G17 R0 R0 w76 o80.ints o20.ints rfl L22.out L22.out (by omega)).mono ?_
  rintro e w83 ⟨rfl, hb⟩
  replace i0 := i0.below (hb.mono low.size)
  replace i1 := i1.below (hb.mono low.size)
  replace o20 := o20.below hb
  replace o64 := o64.below hb
  replace o80 := o80.below hb
  replace low := low.trans (hb.mono low.size)
  have q84 := hb.size
  clear hb
  go_wp2_with fail
  refine (heldIntS_any n18 (1) d35 G33 w83 o64.ints (by omega)).mono ?_
  rintro e w85 ⟨rfl, rfl⟩
  go_wp2_with fail
  go_ret
  exact ⟨by first | rfl | simp, low⟩
end Go.Proofs.Ytlaidjibcpfnjaa
