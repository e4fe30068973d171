/- The law FnExactFormatProgram: the walk. -/
import Derived.Test.YtjclhlicginekaaDoorProg
import Derived.Test.YtjclhlicginekaaDoorPost
import Derived.Test.YtjclhlicginekaaDoorSrcV
import Derived.Test.YtjclhlicginekaaDoorAgg
namespace Go.Proofs.YtjclhlicginekaaDoor
open Go Go.RowKit
set_option maxHeartbeats 1000000 in
theorem exact_formatP (A0 : Option Addr) (n0 c0 : Nat) (z0 : List St) (w : World) (h0 : Ints w A0 (flat z0)) (l0 : z0.length = n0) (m0 : n0 ≤ 9223372036854775807) (ht : TabOk w) (hz : 5 ≤ w.heap.size) (t : ByteArray) (r : Bool)
    (cs : ∀ A n c w, Ints w A (flat z0) → z0.length = n → n ≤ 2000000 → Calls Tryd.prog 13 #[.slice A n c] w fun e w' => e = .returned (.tuple #[.string t, .bool r]) ∧ Below w.heap.size w w')
    (ci : ∀ A n c w, Ints w A (flat z0) → z0.length = n → n ≤ 2000000 → TabOk w → 5 ≤ w.heap.size → Calls Tryd.prog 15 #[.slice A n c] w fun e w' => e = .returned (.tuple #[.string t, .bool r]) ∧ Below w.heap.size w w') :
    Calls Tryd.prog 5 #[.slice A0 n0 c0] w fun e w' => e = .returned (.bool true) ∧ Below w.heap.size w w' := by
  have low : Below w.heap.size w w := Below.refl _ _
  have L0 := Lib.hid l0
  have i0 := h0.bound.below low
  clear h0 l0
  have hrr : (r != r) = false := by cases r <;> rfl
  go_enter Tryd.func5, Tryd.ntmps5
  go_wp2_with fail
  have s1 := szStmtS_any 1048576 A0 n0 c0 w (by omega) m0
  by_cases hn0 : n0 ≤ 1048576
  case neg =>
    rw [show szRes 1048576 n0 = -1 by rw [szRes, if_neg hn0]] at s1
    refine s1.mono ?_
    rintro e w3 ⟨rfl, rfl⟩
    go_wp2_with fail
    go_ret
    exact ⟨rfl, low⟩
  rw [show szRes 1048576 n0 = ((1048576 - n0 : Nat) : Int) by rw [szRes, if_pos hn0]] at s1
  have mm0 : n0 ≤ 1048576 := by omega
  have zf2 : 1048576 - n0 ≤ 1048576 := by omega
  clear hn0 m0
  generalize 1048576 - n0 = f2 at *
  refine s1.mono ?_
  rintro e w3 ⟨rfl, rfl⟩
  clear s1
  have yf2 : (0 : Int) ≤ f2 := by omega
  go_wp2_with fail
  refine (toStmtS_new A0 n0 c0 z0 w (i0.ints low.size) L0.out (by omega)).mono ?_
  rintro e w5 ⟨X4, rfl, o6, hb⟩
  replace i0 := i0.below (hb.mono low.size)
  replace low := low.trans (hb.mono low.size)
  have q7 := hb.size
  clear hb
  go_wp2_with fail
  refine (cs X4 n0 n0 w5 o6.ints L0.out (by omega)).mono ?_
  rintro e w8 ⟨rfl, hb⟩
  replace i0 := i0.below (hb.mono low.size)
  replace o6 := o6.below hb
  replace low := low.trans (hb.mono low.size)
  have q9 := hb.size
  clear hb
  clear o6
  go_wp2_with fail
  refine (toStmtS_new A0 n0 c0 z0 w8 (i0.ints low.size) L0.out (by omega)).mono ?_
  rintro e w11 ⟨X10, rfl, o12, hb⟩
  replace i0 := i0.below (hb.mono low.size)
  replace low := low.trans (hb.mono low.size)
  have q13 := hb.size
  clear hb
  go_wp2_with fail
  refine (ci X10 n0 n0 w11 o12.ints L0.out (by omega) (tab_at ht low hz) (top_at hz low)).mono ?_
  rintro e w14 ⟨rfl, hb⟩
  replace i0 := i0.below (hb.mono low.size)
  replace o12 := o12.below hb
  replace low := low.trans (hb.mono low.size)
  have q15 := hb.size
  clear hb
  go_wp2_with fail
  refine (toStmtS_new A0 n0 c0 z0 w14 (i0.ints low.size) L0.out (by omega)).mono ?_
  rintro e w17 ⟨X16, rfl, o18, hb⟩
  replace i0 := i0.below (hb.mono low.size)
  replace o12 := o12.below hb
  replace low := low.trans (hb.mono low.size)
  have q19 := hb.size
  clear hb
  go_wp2_with fail
  refine (eqStmtS_same n0 n0 n0 n0 X10 X16 z0 z0 w17 o12.ints o18.ints rfl L0.out L0.out (by omega)).mono ?_
  rintro e w20 ⟨rfl, hb⟩
  replace i0 := i0.below (hb.mono low.size)
  replace o12 := o12.below hb
  replace o18 := o18.below hb
  replace low := low.trans (hb.mono low.size)
  have q21 := hb.size
  clear hb
  clear o18
  go_wp2_with fail
  go_ret
  exact ⟨by first | rfl | simp, low⟩
theorem FnExactFormatProgram_walk (A0 : Option Addr) (n0 c0 : Nat) (z0 : List St) (w : World) (h0 : Ints w A0 (flat z0)) (l0 : z0.length = n0) (m0 : n0 ≤ 9223372036854775807) (ht : TabOk w) (hz : 5 ≤ w.heap.size) :
    Calls Tryd.prog 5 #[.slice A0 n0 c0] w fun e w' => e = .returned (.bool true) ∧ Below w.heap.size w w' := by
  by_cases hp : progI z0
  · exact exact_formatP A0 n0 c0 z0 w h0 l0 m0 ht hz _ _ (fun A n c w h1 h2 _ => spec_FormatProgram_yes A n c z0 w h1 h2 hp) (fun A n c w h1 h2 _ h4 h5 => impl_FormatProgram_yes A n c z0 w h1 h2 hp h4 h5)
  · exact exact_formatP A0 n0 c0 z0 w h0 l0 m0 ht hz _ _ (fun A n c w h1 h2 h3 => spec_FormatProgram_no A n c z0 w h1 h2 h3 hp) (fun A n c w h1 h2 h3 _ _ => impl_FormatProgram_no A n c z0 w h1 h2 h3 hp)
end Go.Proofs.YtjclhlicginekaaDoor
