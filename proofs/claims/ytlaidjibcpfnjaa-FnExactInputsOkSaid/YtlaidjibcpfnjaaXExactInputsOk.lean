/- The law FnExactInputsOk: the walk. -/
import Derived.Test.YtlaidjibcpfnjaaProg
import Derived.Test.YtlaidjibcpfnjaaB1
import Derived.Test.YtlaidjibcpfnjaaB2
import Derived.Test.YtlaidjibcpfnjaaIntSS
import Derived.Test.YtlaidjibcpfnjaaRunE
namespace Go.Proofs.Ytlaidjibcpfnjaa
open Go Go.RowKit
set_option maxRecDepth 100000 in
set_option maxHeartbeats 2000000 in
theorem FnExactInputsOk_walk (A0 : Option Addr) (n0 c0 : Nat) (z0 : List (List Int)) (w : World) (h0 : Rows w.heap.size w A0 z0) (l0 : z0.length = n0) (m0 : n0 ≤ 9223372036854775807) (r0 : ∀ r ∈ z0, r.length ≤ 9223372036854775807) :
    Calls Try.prog 9 #[.slice A0 n0 c0] w fun e w' => e = .returned (.bool true) ∧ Below w.heap.size w w' := by
  have low : Below w.heap.size w w := Below.refl _ _
  have L0 := Lib.hid l0
  have i0 := h0.below low
  clear h0 l0
  go_enter Try.func9, Try.ntmps9
  go_wp2_with fail
  go_wp2_with fail
  have s1 := szIntSS_any 1048576 A0 n0 c0 z0 w (i0.ints low.size) L0.out (by omega) m0 r0
  by_cases hn0 : n0 + tot z0 ≤ 1048576
  case neg =>
    rw [show szRes 1048576 (n0 + tot z0) = -1 by rw [szRes, if_neg hn0]] at s1
    refine s1.mono ?_
    rintro e w3 ⟨rfl, rfl⟩
    go_wp2_with fail
    go_ret
    exact ⟨rfl, low⟩
  rw [show szRes 1048576 (n0 + tot z0) = ((1048576 - (n0 + tot z0) : Nat) : Int) by rw [szRes, if_pos hn0]] at s1
  have mm0 : n0 ≤ 1048576 := by omega
  have mt0 : tot z0 ≤ 1048576 := by omega
  have zf2 : 1048576 - (n0 + tot z0) ≤ 1048576 := by omega
  clear hn0 m0 r0
  generalize 1048576 - (n0 + tot z0) = f2 at *
  refine s1.mono ?_
  rintro e w3 ⟨rfl, rfl⟩
  clear s1
  have yf2 : (0 : Int) ≤ f2 := by omega
  obtain ⟨R0, hR0⟩ : ∃ r, decide (insOk z0) = r := ⟨_, rfl⟩
  have E := Lib.hid (show ∀ w e w', Post_bool (decide (insOk z0)) w e w' → Post_bool R0 w e w' from by subst hR0; intro _ _ _ h; exact h)
  clear hR0
  go_wp2_with fail
  refine (toIntSS_own A0 n0 c0 z0 w (i0.ints low.size) L0.out (by omega) (by omega)).mono ?_
  rintro e w7 ⟨X4, U5, rfl, o6, hb⟩
  replace i0 := i0.below (hb.mono low.size)
  replace low := low.trans (hb.mono low.size)
  have q8 := hb.size
  clear hb
  go_wp2_with fail
  refine (ex_spec_InputsOk X4 n0 n0 z0 w7 (o6.ints) L0.out (by omega)).mono ?_
  intro e w9 h
  obtain ⟨rfl, hb⟩ := E.out _ _ _ h
  clear h
  replace i0 := i0.below (hb.mono low.size)
  replace o6 := o6.below hb
  replace low := low.trans (hb.mono low.size)
  have q10 := hb.size
  clear hb
  clear o6
  go_wp2_with fail
  refine (toIntSS_own A0 n0 c0 z0 w9 (i0.ints low.size) L0.out (by omega) (by omega)).mono ?_
  rintro e w14 ⟨X11, U12, rfl, o13, hb⟩
  replace i0 := i0.below (hb.mono low.size)
  replace low := low.trans (hb.mono low.size)
  have q15 := hb.size
  clear hb
  go_wp2_with fail
  refine (ex_impl_InputsOk X11 n0 n0 z0 w14 (o13.ints) L0.out (by omega)).mono ?_
  intro e w16 h
  obtain ⟨rfl, hb⟩ := E.out _ _ _ h
  clear h
  replace i0 := i0.below (hb.mono low.size)
  replace o13 := o13.below hb
  replace low := low.trans (hb.mono low.size)
  have q17 := hb.size
  clear hb
  go_wp2_with fail
  refine (toIntSS_own A0 n0 c0 z0 w16 (i0.ints low.size) L0.out (by omega) (by omega)).mono ?_
  rintro e w21 ⟨X18, U19, rfl, o20, hb⟩
  replace i0 := i0.below (hb.mono low.size)
  replace o13 := o13.below hb
  replace low := low.trans (hb.mono low.size)
  have q22 := hb.size
  clear hb
  go_wp2_with fail
  refine (eqIntSS_same X11 X18 n0 n0 n0 z0 w21 o13.ints o20.ints L0.out (by omega) (by omega)).mono ?_
  rintro e w23 ⟨rfl, hb⟩
  replace i0 := i0.below (hb.mono low.size)
  replace o13 := o13.below hb
  replace o20 := o20.below hb
  replace low := low.trans (hb.mono low.size)
  have q24 := hb.size
  clear hb
  clear o20
  go_wp2_with fail
  go_ret
  exact ⟨by first | rfl | simp, low⟩
end Go.Proofs.Ytlaidjibcpfnjaa
